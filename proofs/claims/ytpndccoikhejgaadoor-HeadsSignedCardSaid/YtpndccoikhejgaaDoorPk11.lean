/-
  TreeNode.
-/
import Derived.Test.YtpndccoikhejgaaDoorPk04
namespace Go.Proofs.YtpndccoikhejgaaDoor
open Go.RowKit
set_option linter.unusedVariables false
set_option maxRecDepth 100000

theorem one_nums (l : List Int) : (nums .u8 l).all (·.oneCell') = true := nums_one _ _
/-- The three blocks of a call of Node. -/
def NodeH (w wr : World) (A B : Array Value) : Prop := Row wr w.heap.size 23 A ∧ Row wr (w.heap.size + 1) 23 B ∧ Row wr (w.heap.size + 2) 23 (nums .u8 (List.replicate 32 0)) ∧ Below w.heap.size w wr
theorem NodeH.start (w : World) (A B : Array Value) : NodeH w (((w.alloc (.cells A 23)).alloc (.cells B 23)).alloc (.cells (nums .u8 (List.replicate 32 0)) 23)) A B :=
  ⟨((Row.made _ _ _).alloc _).alloc _, (Row.made2 _ _ _ _).alloc _, by have := Row.made ((w.alloc (.cells A 23)).alloc (.cells B 23)) 23 (nums .u8 (List.replicate 32 0)); simpa using this, (((Below.refl _ _).alloc (Nat.le_refl _) _).alloc (by simp) _).alloc (by simp; omega) _⟩
theorem NodeH.next {w wr w1 : World} {A B : Array Value} (h : NodeH w wr A B) (hb : Below wr.heap.size wr w1) : NodeH w w1 A B := ⟨h.1.next hb, h.2.1.next hb, h.2.2.1.next hb, below_new h.2.2.2 hb⟩
theorem NodeH.drew {w wr : World} {A B : Array Value} (h : NodeH w wr A B) : NodeH w wr.drew A B := ⟨h.1.drew, h.2.1.drew, h.2.2.1.drew, h.2.2.2.drew⟩
attribute [local go_sem ↓ high] read_at write_at
set_option maxHeartbeats 4000000 in
set_option maxRecDepth 100000 in
theorem node_any (a b : List Int) (ha : a.length = 32) (hb : b.length = 32) (w : World) (hT : Tab w) :
    Calls Tryd.prog 77 #[.agg (nums .u8 a), .agg (nums .u8 b)] w fun ev w' => ev = .returned (.agg (nums .u8 (nodeL a b))) ∧ Below w.heap.size w w' := by
  obtain ⟨A, hA⟩ : ∃ A, Hid (A = nums .u8 a) := ⟨_, Lib.hid rfl⟩
  obtain ⟨B, hB⟩ : ∃ B, Hid (B = nums .u8 b) := ⟨_, Lib.hid rfl⟩
  obtain ⟨C, hC⟩ : ∃ C, Hid (C = nums .u8 (nodeL a b)) := ⟨_, Lib.hid rfl⟩
  have zA : Hid (A.size = 32) := Lib.hid (by rw [hA.out, nums_size, ha])
  have zB : Hid (B.size = 32) := Lib.hid (by rw [hB.out, nums_size, hb])
  have zC : Hid (C.size = 32) := Lib.hid (by rw [hC.out, nums_size]; exact sumL_length _)
  have zZ : Hid ((nums .u8 (List.replicate 32 0)).size = 32) := Lib.hid (by rw [nums_size]; simp)
  have oC : Hid (C.all (·.oneCell') = true) := Lib.hid (by rw [hC.out]; exact nums_one _ _)
  have X1 : Hid (∀ W, Calls Tryd.prog 29 #[.agg A] W fun ev w' => ev = .returned (.string (strOfNums a)) ∧ Below W.heap.size W w') := Lib.hid fun W => by rw [hA.out]; exact hash_any a ha W
  have X2 : Hid (∀ W, Calls Tryd.prog 29 #[.agg B] W fun ev w' => ev = .returned (.string (strOfNums b)) ∧ Below W.heap.size W w') := Lib.hid fun W => by rw [hB.out]; exact hash_any b hb W
  obtain ⟨x, hx⟩ : ∃ x, Hid (x = strOfNums a) := ⟨_, Lib.hid rfl⟩
  obtain ⟨y, hy⟩ : ∃ y, Hid (y = strOfNums b) := ⟨_, Lib.hid rfl⟩
  have S1 : Hid (∀ W, Tab W → Calls Tryd.prog 36 #[.string (⟨#[1]⟩ ++ x ++ y)] W fun ev w' => ev = .returned (.agg C) ∧ Below W.heap.size W w') := Lib.hid fun W h => by
    rw [hC.out, hx.out, hy.out]; exact sum_any (nodeS a b) (by unfold nodeS; rw [ByteArray.size_append, ByteArray.size_append, strOfNums_size, strOfNums_size, ha, hb]; show 1 + 32 + 32 ≤ _; omega) W h
  have zx : x.size = 32 := by rw [hx.out, strOfNums_size, ha]
  have zy : y.size = 32 := by rw [hy.out, strOfNums_size, hb]
  have a1 := add_run ⟨#[1]⟩ x (by rw [zx]; show 1 + 32 ≤ _; omega)
  have a2 := add_run (⟨#[1]⟩ ++ x) y (by rw [ByteArray.size_append, zx, zy]; show 1 + 32 + 32 ≤ _; omega)
  clear zx zy
  rw [← hx.out] at X1
  rw [← hy.out] at X2
  have hA0 : nums .u8 a = A := hA.out.symm
  have hB0 : nums .u8 b = B := hB.out.symm
  rw [hA0, hB0]
  have HT := Lib.hid hT
  clear hT ha hb hA0 hB0
  go_enter Tryd.func77, Tryd.ntmps77
  go_upto_region 1 with fail
  refine world_gen (fun wx => NodeH w wx A B) (NodeH.start w A B) (fun wx HQ => ?_)
  have HQ := Lib.hid HQ.drew
  have s1 := HQ.out.1.read zA.out
  have s2 := HQ.out.2.1.read zB.out
  go_region_with (first
    | (go_at_call 29; (first | (with_reducible refine (X1.out _).mono ?_) | (with_reducible refine (X2.out _).mono ?_)); rintro e w1 ⟨rfl, hb⟩; have HQ := Lib.hid (HQ.out.next hb); clear hb s1 s2; have s1 := HQ.out.1.read zA.out; have s2 := HQ.out.2.1.read zB.out; have HTT := Lib.hid (HT.out.next HQ.out.2.2.2))
    | (go_at_call 36; (with_reducible refine (S1.out _ HTT.out).mono ?_); rintro e w2 ⟨rfl, hb⟩; have HQ := Lib.hid (HQ.out.next hb); clear hb s1 s2; have s3 := HQ.out.2.2.1.write zZ.out zC.out oC.out))
  all_goals
    go_wp2
    refine bodyPost_ret (results_cell_row rfl _ _ (w.heap.size + 2) 23 _ (0, 0) _ rfl (HQ.out.2.2.1.whole _) Tryd.underlying23 rfl (sizeH _ zC.out)) rfl ⟨by rw [hC.out], below_setRow HQ.out.2.2.2 (by omega)⟩
end Go.Proofs.YtpndccoikhejgaaDoor
