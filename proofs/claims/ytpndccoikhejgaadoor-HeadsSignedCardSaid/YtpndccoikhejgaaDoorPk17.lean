/-
  TreeRefNode.
-/
import Derived.Test.YtpndccoikhejgaaDoorPk11
import Derived.Test.YtpndccoikhejgaaDoorPk12
import Derived.Test.YtpndccoikhejgaaDoorPk09
namespace Go.Proofs.YtpndccoikhejgaaDoor
open Go.RowKit
set_option linter.unusedVariables false
set_option maxRecDepth 100000

attribute [local go_sem ↓ high] read_at write_at
set_option maxHeartbeats 4000000 in
set_option maxRecDepth 100000 in
theorem refNode_any (a b : List Int) (ha : a.length = 32) (hb : b.length = 32) (w : World) :
    Calls Tryd.prog 99 #[.agg (nums .u8 a), .agg (nums .u8 b)] w fun ev w' => ev = .returned (.agg (nums .u8 (nodeL a b))) ∧ Below w.heap.size w w' := by
  obtain ⟨A, hA⟩ : ∃ A, Hid (A = nums .u8 a) := ⟨_, Lib.hid rfl⟩
  obtain ⟨B, hB⟩ : ∃ B, Hid (B = nums .u8 b) := ⟨_, Lib.hid rfl⟩
  obtain ⟨C, hC⟩ : ∃ C, Hid (C = nums .u8 (nodeL a b)) := ⟨_, Lib.hid rfl⟩
  have zA : Hid (A.size = 32) := Lib.hid (by rw [hA.out, nums_size, ha])
  have zB : Hid (B.size = 32) := Lib.hid (by rw [hB.out, nums_size, hb])
  have zC : Hid (C.size = 32) := Lib.hid (by rw [hC.out, nums_size]; exact sumL_length _)
  have zZ : Hid ((nums .u8 (List.replicate 32 0)).size = 32) := Lib.hid (by rw [nums_size]; simp)
  have oC : Hid (C.all (·.oneCell') = true) := Lib.hid (by rw [hC.out]; exact nums_one _ _)
  have X1 : Hid (∀ W, Calls Tryd.prog 33 #[.agg A] W fun ev w' => ev = .returned (.string (strOfNums a)) ∧ Below W.heap.size W w') := Lib.hid fun W => by rw [hA.out]; exact refHash_any a ha W
  have X2 : Hid (∀ W, Calls Tryd.prog 33 #[.agg B] W fun ev w' => ev = .returned (.string (strOfNums b)) ∧ Below W.heap.size W w') := Lib.hid fun W => by rw [hB.out]; exact refHash_any b hb W
  obtain ⟨x, hx⟩ : ∃ x, Hid (x = strOfNums a) := ⟨_, Lib.hid rfl⟩
  obtain ⟨y, hy⟩ : ∃ y, Hid (y = strOfNums b) := ⟨_, Lib.hid rfl⟩
  have S1 : Hid (∀ W, Calls Tryd.prog 38 #[.string (⟨#[1]⟩ ++ x ++ y)] W fun ev w' => ev = .returned (.agg C) ∧ Below W.heap.size W w') := Lib.hid fun W => by
    rw [hC.out, hx.out, hy.out]; exact refSum_any (nodeS a b) (by unfold nodeS; rw [ByteArray.size_append, ByteArray.size_append, strOfNums_size, strOfNums_size, ha, hb]; show 1 + 32 + 32 ≤ _; omega) W
  have zx : x.size = 32 := by rw [hx.out, strOfNums_size, ha]
  have zy : y.size = 32 := by rw [hy.out, strOfNums_size, hb]
  have a1 := add_run ⟨#[1]⟩ x (by rw [zx]; show 1 + 32 ≤ _; omega)
  have a2 := add_run (⟨#[1]⟩ ++ x) y (by rw [ByteArray.size_append, zx, zy]; show 1 + 32 + 32 ≤ _; omega)
  clear zx zy
  rw [← hx.out] at X1
  rw [← hy.out] at X2
  have hA0 : nums .u8 a = A := hA.out.symm
  have hB0 : nums .u8 b = B := hB.out.symm
  rw [hA0, hB0]
  clear ha hb hA0 hB0
  go_enter Tryd.func99, Tryd.ntmps99
  go_upto_region 1 with fail
  refine world_gen (fun wx => NodeH w wx A B) (NodeH.start w A B) (fun wx HQ => ?_)
  have HQ := Lib.hid HQ.drew
  have s1 := HQ.out.1.read zA.out
  have s2 := HQ.out.2.1.read zB.out
  go_region_with (first
    | (go_at_call 33; (first | (with_reducible refine (X1.out _).mono ?_) | (with_reducible refine (X2.out _).mono ?_)); rintro e w1 ⟨rfl, hb⟩; have HQ := Lib.hid (HQ.out.next hb); clear hb s1 s2; have s1 := HQ.out.1.read zA.out; have s2 := HQ.out.2.1.read zB.out)
    | (go_at_call 38; (with_reducible refine (S1.out _).mono ?_); rintro e w2 ⟨rfl, hb⟩; have HQ := Lib.hid (HQ.out.next hb); clear hb s1 s2; have s3 := HQ.out.2.2.1.write zZ.out zC.out oC.out))
  all_goals
    go_wp2
    refine bodyPost_ret (results_cell_row rfl _ _ (w.heap.size + 2) 23 _ (0, 0) _ rfl (HQ.out.2.2.1.whole _) Tryd.underlying23 rfl (sizeH _ zC.out)) rfl ⟨by rw [hC.out], below_setRow HQ.out.2.2.2 (by omega)⟩
end Go.Proofs.YtpndccoikhejgaaDoor
