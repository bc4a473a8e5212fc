/-
  The walk of the document's turn (layer 2): a number of 32 bits, turned down by 1 to 31. The world stays.
-/
import Derived.Test.YtllabnhgiojmmaaDoorRot
namespace Go.Proofs.YtllabnhgiojmmaaDoor
open Go.RowKit
set_option linter.unusedVariables false

theorem turn_of (x : Int) (k : Nat) (h : 0 ≤ x ∧ x < 4294967296) (h1 : 1 ≤ k) (h2 : k ≤ 31) :
    bits .or .u32 (x / 2 ^ k) (x * 2 ^ (32 - k) % 4294967296) = Math.rot x (-(k : Int)) := by
  have e := rot_of x (-(k : Int)) (32 - k) h (by omega) (by omega)
  rw [show 32 - (32 - k) = k by omega] at e
  rw [← e]
  obtain ⟨n, rfl⟩ : ∃ n : Nat, x = n := ⟨x.toNat, by omega⟩
  have hn : n < 4294967296 := by omega
  have e1 : (n : Int) * 2 ^ (32 - k) % 4294967296 = ((n * 2 ^ (32 - k) % 4294967296 : Nat) : Int) := by
    rw [Int.natCast_emod, Int.natCast_mul, Int.natCast_pow]; rfl
  have e2 : (n : Int) / 2 ^ k = ((n / 2 ^ k : Nat) : Int) := by
    rw [Int.natCast_ediv, Int.natCast_pow]; rfl
  have l2 : n / 2 ^ k < 4294967296 := Nat.lt_of_le_of_lt (Nat.div_le_self _ _) hn
  rw [e1, e2, u32_or_nat _ _ (by omega) (by omega), u32_or_nat _ _ (by omega) (by omega), Nat.or_comm]
set_option maxHeartbeats 400000 in
theorem turn_any (x : Int) (k : Nat) (w : World) (h : 0 ≤ x ∧ x < 4294967296) (h1 : 1 ≤ k) (h2 : k ≤ 31) :
    Calls Tryd.prog 38 #[.int .u32 x, .int .u32 (k : Int)] w fun e w' => e = .returned (.int .u32 (Math.rot x (-(k : Int)))) ∧ w = w' := by
  have HO := Lib.hid (turn_of x k h h1 h2)
  have hw : IntKind.u32.wrap (32 - (k : Int)) = ((32 - k : Nat) : Int) := by rw [IntKind.wrap_u32]; omega
  have ht : (32 - (k : Int)).toNat = 32 - k := by omega
  go_enter Tryd.func38, Tryd.ntmps38
  go_wp2
  go_ret
  refine ⟨ret_u32 ?_, rfl⟩
  exact HO.out
#print axioms turn_any
end Go.Proofs.YtllabnhgiojmmaaDoor
