/-
  The walks of bits.Right (layer 1): what it returns, for every argument; the world stays. Condition: the arguments are numbers of their kinds.
-/
import Derived.Test.YtllabnhgiojmmaaDoorRows
import Derived.Test.YtllabnhgiojmmaaDoorMath
import Derived.WalkKit
import Derived.WalkSpells
import Derived.WalkLawsBesides
import Derived.Lib.Strings
import Derived.Lib.Slices
import Derived.Lib.Small
import Derived.Lib.Walk
import Derived.Lib.BitFns
import Derived.Lib.Hide
import Derived.Handy
namespace Go.Proofs.YtllabnhgiojmmaaDoor
open Go.RowKit
set_option linter.unusedVariables false

theorem ret_u32 {a b : Int} (h : a = b) : Ending.returned (.int .u32 a) = .returned (.int .u32 b) := by rw [h]
theorem ret_i64 {a b : Int} (h : a = b) : Ending.returned (.int .i64 a) = .returned (.int .i64 b) := by rw [h]
theorem ret_u64 {a b : Int} (h : a = b) : Ending.returned (.int .u64 a) = .returned (.int .u64 b) := by rw [h]

theorem mask31 (k : Int) : ∃ s : Nat, s ≤ 31 ∧ k % 32 = s ∧ bits .and .u64 (IntKind.u64.wrap k) 31 = (s : Int) := by
  refine ⟨(k % 32).toNat, by omega, by omega, ?_⟩
  have e : IntKind.u64.wrap k = ((k % 18446744073709551616).toNat : Nat) := by rw [IntKind.wrap_u64]; omega
  rw [e, show (31 : Int) = ((31 : Nat) : Int) by rfl, u64_and_nat _ _ (by omega) (by omega), nat_mask5]
  omega
theorem rot_of (x k : Int) (s : Nat) (h : 0 ≤ x ∧ x < 4294967296) (hs : s ≤ 31) (hk : k % 32 = s) :
    bits .or .u32 (x * 2 ^ s % 4294967296) (x / 2 ^ (32 - s)) = Math.rot x k := by
  obtain ⟨n, rfl⟩ : ∃ n : Nat, x = n := ⟨x.toNat, by omega⟩
  have hn : n < 4294967296 := by omega
  have e1 : (n : Int) * 2 ^ s % 4294967296 = ((n * 2 ^ s % 4294967296 : Nat) : Int) := by
    rw [Int.natCast_emod, Int.natCast_mul, Int.natCast_pow]; rfl
  have e2 : (n : Int) / 2 ^ (32 - s) = ((n / 2 ^ (32 - s) : Nat) : Int) := by
    rw [Int.natCast_ediv, Int.natCast_pow]; rfl
  have l2 : n / 2 ^ (32 - s) < 2 ^ s := by
    apply Nat.div_lt_of_lt_mul
    rw [← Nat.pow_add, show 32 - s + s = 32 by omega]; exact hn
  have m1 : n * 2 ^ s % 4294967296 % 2 ^ s = 0 := by
    rw [Nat.mod_mod_of_dvd _ (show 2 ^ s ∣ 4294967296 from ⟨2 ^ (32 - s), by rw [← Nat.pow_add, show s + (32 - s) = 32 by omega]⟩)]
    exact Nat.mul_mod_left _ _
  have l3 : 2 ^ s ≤ 2 ^ 31 := Nat.pow_le_pow_right (by omega) hs
  rw [e1, e2, u32_or_nat _ _ (by omega) (by omega), nat_join s _ _ m1 l2]
  unfold Math.rot
  rw [hk, Int.toNat_natCast, Int.toNat_natCast, Math.rotI_eq s n (by omega) hn]
  rfl
set_option maxHeartbeats 400000 in
theorem rotate_any (x k : Int) (w : World) (h : 0 ≤ x ∧ x < 4294967296) :
    Calls Tryd.prog 55 #[.int .u32 x, .int .i64 k] w fun e w' => e = .returned (.int .u32 (Math.rot x k)) ∧ w = w' := by
  obtain ⟨s, hs, hk, hm⟩ := mask31 k
  have ho := rot_of x k s h hs hk
  have HO := Lib.hid ho
  clear ho
  go_enter Tryd.func55, Tryd.ntmps55
  go_wp2
  go_ret
  refine ⟨ret_u32 ?_, rfl⟩
  exact HO.out
set_option maxHeartbeats 400000 in
theorem right_any (x k : Int) (w : World) (h : 0 ≤ x ∧ x < 4294967296) :
    Calls Tryd.prog 48 #[.int .u32 x, .int .i64 k] w fun e w' => e = .returned (.int .u32 (Math.rot x (-k))) ∧ w = w' := by
  have hk : Math.rot x (wrap64 (-k)) = Math.rot x (-k) := Math.rot_congr _ _ _ (by unfold wrap64; omega)
  have HK := Lib.hid hk
  clear hk
  go_enter Tryd.func48, Tryd.ntmps48
  go_wp2_with (go_at_call 55; refine (rotate_any _ _ _ h).mono ?_; rintro e w' ⟨rfl, rfl⟩)
  go_ret
  exact ⟨ret_u32 HK.out, rfl⟩
theorem rot_bd (x k : Int) (h : 0 ≤ x ∧ x < 4294967296) : 0 ≤ Math.rot x k ∧ Math.rot x k < 4294967296 := ⟨Math.rot_lo x k, Math.rot_hi x k h⟩
end Go.Proofs.YtllabnhgiojmmaaDoor
