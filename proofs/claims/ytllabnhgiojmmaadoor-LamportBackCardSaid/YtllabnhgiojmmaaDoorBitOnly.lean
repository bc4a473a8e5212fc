/-
  The walks of both Bit (layer 1): a bit of bytes; neither call changes the world. Cut out of XWalkB for seats that lack what else stands there. Conditions: the text is not longer than a text can be; the place is a number of its kind.
-/
import Derived.Test.YtllabnhgiojmmaaDoorGet
namespace Go.Proofs.YtllabnhgiojmmaaDoor
open Go.RowKit
set_option linter.unusedVariables false
set_option maxRecDepth 100000

theorem and_one (v : Nat) (h : v < 256) : bits .and .i64 (wrap64 (v : Int)) 1 = ((v % 2 : Nat) : Int) := by
  have e : wrap64 (v : Int) = v := by unfold wrap64; omega
  have m := bits_mask .i64 62 (by decide) (fun n h0 h1 => by rw [IntKind.wrap_i64]; omega) 1 (by omega) (v : Int) (by omega) (by omega)
  rw [e]
  exact m.trans (by omega)
theorem byte_shift (c : UInt8) (k : Nat) : ((c.toNat : Int) / 2 ^ k) = ((c.toNat / 2 ^ k : Nat) : Int) := by rw [Int.natCast_ediv, Int.natCast_pow]; rfl
theorem shifted_lt (c : UInt8) (k : Nat) : c.toNat / 2 ^ k < 256 := Nat.lt_of_le_of_lt (Nat.div_le_self _ _) (byte_lt c)

/-- The bit of bytes, as a number. -/
def bitAt (s : ByteArray) (i : Int) : Int := if h : 0 ≤ i ∧ (i / 8).toNat < s.size then ((s[(i / 8).toNat]'h.2).toNat / 2 ^ (7 - i % 8).toNat % 2 : Nat) else 0
theorem bitAt_bd (s : ByteArray) (i : Int) : 0 ≤ bitAt s i ∧ bitAt s i ≤ 1 := by unfold bitAt; split <;> omega
set_option maxHeartbeats 400000 in
theorem bit_any (s : ByteArray) (i : Int) (w : World) (hs : s.size ≤ maxLen) (h : -9223372036854775808 ≤ i ∧ i ≤ 9223372036854775807) :
    Calls Tryd.prog 35 #[.string s, .int .i64 i] w fun e w' => e = .returned (.int .i64 (bitAt s i)) ∧ w = w' := by
  unfold maxLen at hs
  by_cases hneg : i < 0
  · have HZ := Lib.hid (show bitAt s i = 0 by unfold bitAt; rw [dif_neg (by omega)])
    go_enter Tryd.func35, Tryd.ntmps35
    go_wp2
    go_ret
    exact ⟨ret_i64 HZ.out.symm, rfl⟩
  · by_cases hbig : (s.size : Int) ≤ i / 8
    · have HZ := Lib.hid (show bitAt s i = 0 by unfold bitAt; rw [dif_neg (by omega)])
      go_enter Tryd.func35, Tryd.ntmps35
      go_wp2
      go_ret
      exact ⟨ret_i64 HZ.out.symm, rfl⟩
    · have hlt : (i / 8).toNat < s.size := by omega
      go_enter Tryd.func35, Tryd.ntmps35
      go_wp2
      go_ret
      refine ⟨ret_i64 ?_, rfl⟩
      unfold bitAt
      rw [dif_pos ⟨by omega, hlt⟩, byte_shift, and_one _ (shifted_lt _ _)]
/-- A byte, moved down. -/
def sh (c : UInt8) (j : Nat) : Nat := c.toNat / 2 ^ j
theorem sh_lt (c : UInt8) (j : Nat) : sh c j < 256 := shifted_lt c j
theorem halved (c : UInt8) (j : Nat) : ((sh c j : Nat) : Int) / 2 = ((sh c (j + 1) : Nat) : Int) := by
  unfold sh; rw [Nat.pow_succ, ← Nat.div_div_eq_div_mul]; omega
set_option maxHeartbeats 400000 in
theorem refBit_any (s : ByteArray) (i : Int) (w : World) (hs : s.size ≤ maxLen) (h : -9223372036854775808 ≤ i ∧ i ≤ 9223372036854775807) :
    Calls Tryd.prog 26 #[.string s, .int .i64 i] w fun e w' => e = .returned (.int .i64 (bitAt s i)) ∧ w = w' := by
  unfold maxLen at hs
  by_cases hneg : i < 0
  · have HZ := Lib.hid (show bitAt s i = 0 by unfold bitAt; rw [dif_neg (by omega)])
    go_enter Tryd.func26, Tryd.ntmps26
    go_wp2
    go_ret
    exact ⟨ret_i64 HZ.out.symm, rfl⟩
  · by_cases hbig : (s.size : Int) ≤ i / 8
    · have HZ := Lib.hid (show bitAt s i = 0 by unfold bitAt; rw [dif_neg (by omega)])
      go_enter Tryd.func26, Tryd.ntmps26
      go_wp2
      go_ret
      exact ⟨ret_i64 HZ.out.symm, rfl⟩
    · have hlt : (i / 8).toNat < s.size := by omega
      obtain ⟨c, hc⟩ : ∃ c : UInt8, c = s[(i / 8).toNat] := ⟨_, rfl⟩
      have HB := Lib.hid (show bitAt s i = (sh c (7 - i % 8).toNat % 2 : Nat) by unfold bitAt sh; rw [dif_pos ⟨by omega, hlt⟩, hc])
      have HC := Lib.hid hc
      clear hc
      go_enter Tryd.func26, Tryd.ntmps26
      go_wp2
      go_loop [5, 6] (fun t k => ∃ j : Nat, j ≤ (7 - i % 8).toNat ∧ k = .int .i64 (i % 8 + j) ∧ t = .int .u8 (sh c j : Nat)) (fun _ k => (7 - intOf k).toNat)
      case atStart => exact ⟨0, by omega, by simp, by rw [← HC.out]; simp [sh]⟩
      case round =>
        obtain ⟨j, hj, rfl, rfl⟩ := hrel
        have hl := sh_lt c j
        by_cases hlt2 : j < (7 - i % 8).toNat
        · have HH := Lib.hid (halved c j)
          go_wp2
          go_round
          case rel => exact ⟨j + 1, by omega, by first | go_num | (congr 1; omega), by rw [← HH.out]⟩
          case measure => simp [intOf]; omega
        · obtain rfl : j = (7 - i % 8).toNat := by omega
          go_wp2
          go_ret
          exact ⟨ret_i64 (by rw [HB.out]; omega), rfl⟩
end Go.Proofs.YtllabnhgiojmmaaDoor
