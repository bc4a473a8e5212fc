/-
  The walks of bits.Ones and of the document's: how many bits of a number are 1; none of these calls changes the world. Condition: the argument is a number of its kind.
-/
import Derived.Test.YtfakimbneenfdaaDoorRow
import Derived.Test.YtfakimbneenfdaaDoorRot
import Derived.WalkKit
import Derived.WalkSpells
import Derived.WalkLawsBesides
import Derived.Lib.BitFns
import Derived.Lib.Hide
import Derived.Handy
namespace Go.Proofs.YtfakimbneenfdaaDoor
open Go.RowKit
set_option linter.unusedVariables false
set_option maxRecDepth 100000

theorem swar_step1 (n : Nat) (h : n < 18446744073709551616) : IntKind.u64.wrap (bits .and .u64 ((n : Int) / 2) 6148914691236517205 + bits .and .u64 (n : Int) 6148914691236517205) = (Math.swar1 n : Nat) := by
  have e : ((n : Int) / 2) = ((n / 2 : Nat) : Int) := by omega
  have hs := (Math.swar_all n h).2.1
  rw [e, show (6148914691236517205 : Int) = ((6148914691236517205 : Nat) : Int) by rfl, u64_and_nat _ _ (by omega) (by omega), u64_and_nat _ _ (by omega) (by omega), IntKind.wrap_u64]
  unfold Math.swar1 at *; omega
theorem swar_step2 (n : Nat) (h : n < 18446744073709551616) (hs : Math.swar2 n < 18446744073709551616) : IntKind.u64.wrap (bits .and .u64 ((n : Int) / 4) 3689348814741910323 + bits .and .u64 (n : Int) 3689348814741910323) = (Math.swar2 n : Nat) := by
  have e : ((n : Int) / 4) = ((n / 4 : Nat) : Int) := by omega
  rw [e, show (3689348814741910323 : Int) = ((3689348814741910323 : Nat) : Int) by rfl, u64_and_nat _ _ (by omega) (by omega), u64_and_nat _ _ (by omega) (by omega), IntKind.wrap_u64]
  unfold Math.swar2 at *; omega
theorem swar_step3 (n : Nat) (h : n / 16 + n < 18446744073709551616) : bits .and .u64 (IntKind.u64.wrap ((n : Int) / 16 + (n : Int))) 1085102592571150095 = (Math.swar3 n : Nat) := by
  have e : IntKind.u64.wrap ((n : Int) / 16 + (n : Int)) = ((n / 16 + n : Nat) : Int) := by rw [IntKind.wrap_u64]; omega
  rw [e, show (1085102592571150095 : Int) = ((1085102592571150095 : Nat) : Int) by rfl, u64_and_nat _ _ (by omega) (by omega)]
  rfl
theorem swar_step4 (n : Nat) (h : Math.swar4 n < 18446744073709551616) : IntKind.u64.wrap ((n : Int) + (n : Int) / 256) = (Math.swar4 n : Nat) := by
  rw [IntKind.wrap_u64]; unfold Math.swar4 at *; omega
theorem swar_step5 (n : Nat) (h : Math.swar5 n < 18446744073709551616) : IntKind.u64.wrap ((n : Int) + (n : Int) / 65536) = (Math.swar5 n : Nat) := by
  rw [IntKind.wrap_u64]; unfold Math.swar5 at *; omega
theorem swar_step6 (n : Nat) (h : Math.swar6 n < 18446744073709551616) : IntKind.u64.wrap ((n : Int) + (n : Int) / 4294967296) = (Math.swar6 n : Nat) := by
  rw [IntKind.wrap_u64]; unfold Math.swar6 at *; omega
theorem swar_step7 (n : Nat) (h : n < 18446744073709551616) : bits .and .i64 (wrap64 (n : Int)) 127 = ((n % 128 : Nat) : Int) := by
  rw [i64_and127]; unfold wrap64; omega
set_option maxHeartbeats 400000 in
theorem count_any (x : Int) (w : World) (h : 0 ≤ x ∧ x < 18446744073709551616) :
    Calls Tryd.prog 65 #[.int .u64 x] w fun e w' => e = .returned (.int .i64 (Math.popF 64 x.toNat)) ∧ w = w' := by
  go_enter Tryd.func65, Tryd.ntmps65
  go_wp2
  go_ret
  refine ⟨ret_i64 ?_, rfl⟩
  obtain ⟨n, rfl⟩ : ∃ n : Nat, x = n := ⟨x.toNat, by omega⟩
  have hn : n < 18446744073709551616 := by omega
  obtain ⟨s0, s1, s2, s3, s4, s5, s6⟩ := Math.swar_all n hn
  rw [swar_step1 n hn, swar_step2 _ s1 s2, swar_step3 _ s3, swar_step4 _ s4, swar_step5 _ s5, swar_step6 _ s6, swar_step7 _ s6, s0]
  rfl

/-! ### how many bits are 1 -/
set_option maxHeartbeats 400000 in
theorem ones_any (n : Int) (w : World) (h : -9223372036854775808 ≤ n ∧ n ≤ 9223372036854775807) :
    Calls Tryd.prog 45 #[.int .i64 n] w fun e w' => e = .returned (.int .i64 (Math.popF 64 n.toNat)) ∧ w = w' := by
  by_cases hneg : n < 0
  · have HZ := Lib.hid (show ((Math.popF 64 n.toNat : Nat) : Int) = 0 by rw [show n.toNat = 0 by omega]; rfl)
    go_enter Tryd.func45, Tryd.ntmps45
    go_wp2
    go_ret
    exact ⟨ret_i64 HZ.out.symm, rfl⟩
  · have hw : IntKind.u64.wrap n = n := by rw [IntKind.wrap_u64]; omega
    go_enter Tryd.func45, Tryd.ntmps45
    go_wp2_with (go_at_call 65; refine (count_any _ _ (by omega)).mono ?_; rintro e w' ⟨rfl, rfl⟩)
    go_ret
    exact ⟨rfl, rfl⟩
theorem pop_step (m b : Nat) (h : m < 2 ^ (b + 1)) : Math.popF (b + 1) m = m % 2 + Math.popF b (m / 2) ∧ m / 2 < 2 ^ b := by
  refine ⟨rfl, ?_⟩
  rw [Nat.pow_succ] at h; omega
set_option maxHeartbeats 400000 in
theorem refOnes_any (n : Int) (w : World) (h : -9223372036854775808 ≤ n ∧ n ≤ 9223372036854775807) :
    Calls Tryd.prog 46 #[.int .i64 n] w fun e w' => e = .returned (.int .i64 (Math.popF 64 n.toNat)) ∧ w = w' := by
  by_cases hneg : n ≤ 0
  · have HZ := Lib.hid (show ((Math.popF 64 n.toNat : Nat) : Int) = 0 by rw [show n.toNat = 0 by omega]; rfl)
    go_enter Tryd.func46, Tryd.ntmps46
    go_wp2
    go_rounds 1
    go_ret
    exact ⟨ret_i64 HZ.out.symm, rfl⟩
  · obtain ⟨m0, rfl⟩ : ∃ m : Nat, n = m := ⟨n.toNat, by omega⟩
    go_enter Tryd.func46, Tryd.ntmps46
    go_wp2
    go_loop [0, 3] (fun t c => ∃ m b z : Nat, m ≤ 9223372036854775807 ∧ m < 2 ^ b ∧ z ≤ 64 ∧ z + Math.popF b m = Math.popF 64 m0 ∧ t = .int .i64 m ∧ c = .int .i64 z) (fun t _ => (intOf t).toNat)
    case atStart => exact ⟨m0, 64, 0, by omega, by omega, by omega, by omega, rfl, rfl⟩
    case round =>
      obtain ⟨m, b, z, hm, hb, hz, hp, rfl, rfl⟩ := hrel
      have HB := Lib.hid hb
      have HP := Lib.hid hp
      clear hb hp
      by_cases hlt : 0 < m
      · obtain ⟨b', rfl⟩ : ∃ b', b = b' + 1 := by
          cases b with
          | zero => have := HB.out; omega
          | succ b' => exact ⟨b', rfl⟩
        go_wp2
        go_round
        case rel =>
          obtain ⟨q1, q2⟩ := pop_step m b' HB.out
          have q3 := HP.out
          have q4 := Math.popF_le 64 m0
          exact ⟨m / 2, b', z + m % 2, by omega, q2, by omega, by omega, by go_num, by go_num⟩
        case measure => simp [intOf]; omega
      · obtain rfl : m = 0 := by omega
        go_wp2
        go_ret
        have q3 := HP.out
        rw [Math.popF_zero] at q3
        exact ⟨ret_i64 (by first | omega | (simp; omega)), rfl⟩

end Go.Proofs.YtfakimbneenfdaaDoor
