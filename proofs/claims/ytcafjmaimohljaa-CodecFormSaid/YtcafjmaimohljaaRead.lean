/-
  The walk of codec.Read (layer 3): the number that stands ahead; the world stays.
-/
import Derived.Test.YtcafjmaimohljaaNumMath
import Derived.Test.YtcafjmaimohljaaText
import Derived.Test.YtcafjmaimohljaaMath
import Derived.Deep.QuietTactic
import Derived.BigQuiet
namespace Go.Proofs.Ytcafjmaimohljaa
open Go.RowKit
set_option linter.unusedVariables false

/-- What number stands ahead of a text, and up to which byte. -/
def readR (s : ByteArray) : Option (Nat × Nat) := Codec.rdP 0 0 (textL s)
def readN (s : ByteArray) : Nat := match readR s with
  | some (n, _) => n
  | none => 0
def readT (s : ByteArray) : ByteArray := match readR s with
  | some (_, p) => s.extract p s.size
  | none => ⟨#[]⟩
def readO (s : ByteArray) : Bool := (readR s).isSome
def readV (s : ByteArray) : Value := .tuple #[.int .u64 (readN s : Nat), .string (readT s), .bool (readO s)]
theorem readV_no (s : ByteArray) (h : readR s = none) : readV s = .tuple #[.int .u64 0, .string ⟨#[]⟩, .bool false] := by
  simp [readV, readN, readT, readO, h]
theorem readV_yes (s : ByteArray) (n p : Nat) (h : readR s = some (n, p)) : readV s = .tuple #[.int .u64 (n : Nat), .string (s.extract p s.size), .bool true] := by
  simp [readV, readN, readT, readO, h]
theorem or_seven (v : Nat) (c : UInt8) (h : v < 144115188075855872) : bits .or .u64 ((v : Int) * 128) ((c.toNat : Int) % 128) = ((v * 128 + c.toNat % 128 : Nat) : Int) := by
  have hc := c.toNat_lt
  rw [show (v : Int) * 128 = ((v * 128 : Nat) : Int) by omega, show (c.toNat : Int) % 128 = ((c.toNat % 128 : Nat) : Int) by omega]
  rw [u64_or_nat _ _ (by omega) (by omega), nat_join 7 _ _ (by omega) (by omega)]
theorem ret_read {s : ByteArray} {v : Value} (h : readV s = v) : Ending.returned v = .returned (readV s) := by rw [h]
theorem ret_yes {s : ByteArray} {n : Nat} {t : ByteArray} {x : Int} (h : readV s = .tuple #[.int .u64 (n : Nat), .string t, .bool true]) (hx : x = (n : Int)) : Ending.returned (.tuple #[.int .u64 x, .string t, .bool true]) = .returned (readV s) := by rw [h, hx]
set_option maxHeartbeats 1000000 in
set_option maxRecDepth 100000 in
theorem read_any (s : ByteArray) (hs : s.size ≤ maxLen) (w : World) :
    Calls Try.prog 17 #[.string s] w fun e w' => e = .returned (readV s) ∧ ∃ k, w' = w.drewN k := by
  unfold maxLen at hs
  go_enter Try.func17, Try.ntmps17
  go_wp2
  go_loop [2, 9] (fun s2 s9 => ∃ j v : Nat, j ≤ s.size ∧ s9 = .int .i64 (j : Int) ∧ s2 = .int .u64 (v : Int) ∧ v < 18446744073709551616 ∧ (j = 0 → v = 0) ∧ (0 < j → 0 < v) ∧ Hid (readR s = Codec.rdP v j ((textL s).drop j))) (fun _ s9 => s.size - (intOf s9).toNat)
  case atStart => exact ⟨0, 0, by omega, rfl, rfl, by omega, by omega, by omega, Lib.hid rfl⟩
  case round =>
    obtain ⟨j, v, hj, rfl, rfl, hv, h0, h1, HR⟩ := hrel
    by_cases hlt : j < s.size
    · have HA := Lib.hid (textL_at s j hlt)
      have hcb := (s[j]).toNat_lt
      by_cases hbig : 144115188075855872 ≤ v
      · have hj0 : 0 < j := by omega
        have hN : Hid (readV s = _) := Lib.hid (readV_no s (by rw [HR.out, HA.out]; exact Codec.rdP_bad _ _ _ _ (.inr hbig)))
        have hjn : ((j : Int) == 0) = false := by simp; omega
        clear h0 h1
        go_wp2
        go_ret3
        exact ⟨ret_read hN.out, 0, rfl⟩
      · have hor := or_seven v s[j] (by omega)
        by_cases hz : j = 0 ∧ s[j].toNat = 128
        · have hN : Hid (readV s = _) := Lib.hid (readV_no s (by rw [HR.out, HA.out]; exact Codec.rdP_bad _ _ _ _ (.inl ⟨h0 hz.1, by omega⟩)))
          have hjn : ((j : Int) == 0) = true := by simp; omega
          have hcn : (((s[j].toNat : Nat) : Int) == 128) = true := by simp; omega
          clear h0 h1 hz hor
          go_wp2
          go_ret3
          exact ⟨ret_read hN.out, 0, rfl⟩
        · have hn : Hid (¬ (v = 0 ∧ ((s[j].toNat : Nat) : Int) = 128 ∨ 144115188075855872 ≤ v)) := Lib.hid (by omega)
          have hP : Hid (0 < j + 1 → 0 < v * 128 + s[j].toNat % 128 ∨ s[j].toNat < 128) := Lib.hid (by omega)
          have hB : (((j : Int) == 0) = true ∧ (((s[j].toNat : Nat) : Int) == 128) = false) ∨ ((j : Int) == 0) = false := by
            by_cases hj0 : j = 0
            · left; constructor
              · simp; omega
              · simp; omega
            · right; simp; omega
          clear h0 h1 hz
          by_cases hc : s[j].toNat < 128
          · have hN : Hid (readV s = _) := Lib.hid (readV_yes s _ _ (by rw [HR.out, HA.out]; exact Codec.rdP_last _ _ _ _ hn.out (by omega)))
            have hX : Hid ((v : Int) * 128 + ((s[j].toNat : Nat) : Int) % 128 = ((v * 128 + (((s[j].toNat : Nat) : Int)).toNat : Nat) : Int)) := Lib.hid (by omega)
            rcases hB with ⟨hjn, hcn⟩ | hjn
            all_goals
              go_wp2
              go_quiet (fail)
              go_wp2
              go_ret3
              exact ⟨ret_yes hN.out hX.out, _, rfl⟩
          · have hN : Hid (readR s = Codec.rdP (v * 128 + (s[j].toNat - 128)) (j + 1) ((textL s).drop (j + 1))) := Lib.hid (by
              rw [HR.out, HA.out, Codec.rdP_next _ _ _ _ hn.out (by omega)]; rfl)
            have hc' : Hid (s[j].toNat % 128 = s[j].toNat - 128) := Lib.hid (by omega)
            rcases hB with ⟨hjn, hcn⟩ | hjn
            all_goals
              go_wp2
              go_round
              case rel =>
                have hp := hP.out
                exact ⟨j + 1, v * 128 + s[j].toNat % 128, by omega, by go_num, rfl, by omega, by omega, by omega, Lib.hid (by rw [hc'.out]; exact hN.out)⟩
              case measure => simp [intOf]; omega
    · have hN : Hid (readV s = _) := Lib.hid (readV_no s (by rw [HR.out, List.drop_of_length_le (by rw [textL_length]; omega)]; rfl))
      clear h0 h1
      go_wp2
      go_ret3
      exact ⟨ret_read hN.out, 0, rfl⟩
end Go.Proofs.Ytcafjmaimohljaa
