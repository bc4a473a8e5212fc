/-
  RefSecret.
-/
import Derived.Test.YtgnkdkehooagpaaDoorPk05
import Derived.Test.YtgnkdkehooagpaaDoorPk06
import Derived.Test.YtgnkdkehooagpaaDoorPk04
namespace Go.Proofs.YtgnkdkehooagpaaDoor
open Go.RowKit Go.Great
set_option linter.unusedVariables false
set_option maxRecDepth 100000

theorem putS_size (n k : Int) : (putS n k).size ≤ 8 := by
  unfold putS
  split
  · rw [strOfNums_size, putL_length]; omega
  · decide
theorem textS_size (s : ByteArray) (h : s.size < 18446744073709551616) : (textS s).size ≤ s.size + 10 := by
  unfold textS; rw [ByteArray.size_append]; have := numS_size s.size h; omega
/-- What a function holds that has its result in a block of its own. -/
def OutH (w wr : World) : Prop := Row wr w.heap.size 23 (nums .u8 (List.replicate 32 0)) ∧ Below w.heap.size w wr
theorem OutH.next {w wr w1 : World} (h : OutH w wr) (hb : Below wr.heap.size wr w1) : OutH w w1 := ⟨h.1.next hb, below_new h.2 hb⟩
theorem OutH.start (w : World) : OutH w (w.alloc (.cells (nums .u8 (List.replicate 32 0)) 23)) := ⟨Row.made _ _ _, (Below.refl _ _).alloc (Nat.le_refl _) _⟩
attribute [local go_sem ↓ high] read_at write_at
set_option maxHeartbeats 8000000 in
theorem refSecret_any (seed : ByteArray) (hs : seed.size ≤ 100000) (index i bit : Int) (h64 : (-9223372036854775808 ≤ index ∧ index ≤ 9223372036854775807) ∧ (-9223372036854775808 ≤ i ∧ i ≤ 9223372036854775807) ∧ (-9223372036854775808 ≤ bit ∧ bit ≤ 9223372036854775807)) (w : World) :
    Calls Tryd.prog 43 #[.string seed, .int .i64 index, .int .i64 i, .int .i64 bit] w fun e w' => e = .returned (.agg (nums .u8 (secF seed index i bit))) ∧ Below w.heap.size w w' := by
  have H0 := Lib.hid (OutH.start w)
  have zZ : Hid ((nums .u8 (List.replicate 32 0)).size = 32) := Lib.hid (by rw [nums_size]; simp)
  have oZ : Hid ((nums .u8 (List.replicate 32 0)).all (·.oneCell') = true) := Lib.hid (nums_one _ _)
  have hZ := sizeH _ zZ.out
  by_cases h1 : index < 0
  · have d1 : decide (index < 0) = true := decide_eq_true h1
    have HF : Hid (secF seed index i bit = zeroL) := Lib.hid (secF_no (.inl h1))
    go_enter Tryd.func43, Tryd.ntmps43
    go_upto_region 1 with fail
    refine world_gen (fun X => OutH w X) H0.out (fun X HX => ?_)
    have HX := Lib.hid HX
    go_wp2_with (refine wpList_store_row rfl 23 _ _ rfl w.heap.size (nums .u8 (List.replicate 32 0)) rfl rfl 23 _ HX.out.1 hZ (by rw [zZ.out]) oZ.out ?_)
    refine bodyPost_ret (results_cell_row rfl _ _ w.heap.size 23 _ (0, 0) _ rfl (HX.out.1.whole _) Tryd.underlying23 rfl hZ) rfl ⟨by rw [HF.out]; rfl, below_setRow HX.out.2 (Nat.le_refl _)⟩
  have d1 : decide (index < 0) = false := decide_eq_false h1
  by_cases h2 : 2147483647 < index
  · have d2 : decide (2147483647 < index) = true := decide_eq_true h2
    have HF : Hid (secF seed index i bit = zeroL) := Lib.hid (secF_no (.inr (.inl h2)))
    go_enter Tryd.func43, Tryd.ntmps43
    go_upto_region 1 with fail
    refine world_gen (fun X => OutH w X) H0.out (fun X HX => ?_)
    have HX := Lib.hid HX
    go_wp2_with (refine wpList_store_row rfl 23 _ _ rfl w.heap.size (nums .u8 (List.replicate 32 0)) rfl rfl 23 _ HX.out.1 hZ (by rw [zZ.out]) oZ.out ?_)
    refine bodyPost_ret (results_cell_row rfl _ _ w.heap.size 23 _ (0, 0) _ rfl (HX.out.1.whole _) Tryd.underlying23 rfl hZ) rfl ⟨by rw [HF.out]; rfl, below_setRow HX.out.2 (Nat.le_refl _)⟩
  have d2 : decide (2147483647 < index) = false := decide_eq_false h2
  by_cases h3 : i < 0
  · have d3 : decide (i < 0) = true := decide_eq_true h3
    have HF : Hid (secF seed index i bit = zeroL) := Lib.hid (secF_no (.inr (.inr (.inl h3))))
    go_enter Tryd.func43, Tryd.ntmps43
    go_upto_region 1 with fail
    refine world_gen (fun X => OutH w X) H0.out (fun X HX => ?_)
    have HX := Lib.hid HX
    go_wp2_with (refine wpList_store_row rfl 23 _ _ rfl w.heap.size (nums .u8 (List.replicate 32 0)) rfl rfl 23 _ HX.out.1 hZ (by rw [zZ.out]) oZ.out ?_)
    refine bodyPost_ret (results_cell_row rfl _ _ w.heap.size 23 _ (0, 0) _ rfl (HX.out.1.whole _) Tryd.underlying23 rfl hZ) rfl ⟨by rw [HF.out]; rfl, below_setRow HX.out.2 (Nat.le_refl _)⟩
  have d3 : decide (i < 0) = false := decide_eq_false h3
  by_cases h4 : 255 < i
  · have d4 : decide (255 < i) = true := decide_eq_true h4
    have HF : Hid (secF seed index i bit = zeroL) := Lib.hid (secF_no (.inr (.inr (.inr (.inl h4)))))
    go_enter Tryd.func43, Tryd.ntmps43
    go_upto_region 1 with fail
    refine world_gen (fun X => OutH w X) H0.out (fun X HX => ?_)
    have HX := Lib.hid HX
    go_wp2_with (refine wpList_store_row rfl 23 _ _ rfl w.heap.size (nums .u8 (List.replicate 32 0)) rfl rfl 23 _ HX.out.1 hZ (by rw [zZ.out]) oZ.out ?_)
    refine bodyPost_ret (results_cell_row rfl _ _ w.heap.size 23 _ (0, 0) _ rfl (HX.out.1.whole _) Tryd.underlying23 rfl hZ) rfl ⟨by rw [HF.out]; rfl, below_setRow HX.out.2 (Nat.le_refl _)⟩
  have d4 : decide (255 < i) = false := decide_eq_false h4
  by_cases h5 : bit ≠ 0 ∧ bit ≠ 1
  · have d5 : (bit != 0) = true := by simpa using h5.1
    have d6 : (bit != 1) = true := by simpa using h5.2
    have HF : Hid (secF seed index i bit = zeroL) := Lib.hid (secF_no (.inr (.inr (.inr (.inr h5)))))
    go_enter Tryd.func43, Tryd.ntmps43
    go_upto_region 1 with fail
    refine world_gen (fun X => OutH w X) H0.out (fun X HX => ?_)
    have HX := Lib.hid HX
    go_wp2_with (refine wpList_store_row rfl 23 _ _ rfl w.heap.size (nums .u8 (List.replicate 32 0)) rfl rfl 23 _ HX.out.1 hZ (by rw [zZ.out]) oZ.out ?_)
    refine bodyPost_ret (results_cell_row rfl _ _ w.heap.size 23 _ (0, 0) _ rfl (HX.out.1.whole _) Tryd.underlying23 rfl hZ) rfl ⟨by rw [HF.out]; rfl, below_setRow HX.out.2 (Nat.le_refl _)⟩
  obtain ⟨A3, hA3⟩ : ∃ A3, Hid (A3 = secS seed index i bit) := ⟨_, Lib.hid rfl⟩
  have HF : Hid (secF seed index i bit = sumL A3) := Lib.hid (by unfold secF; rw [if_neg (by omega), hA3.out])
  obtain ⟨C, hC⟩ : ∃ C, Hid (C = nums .u8 (sumL A3)) := ⟨_, Lib.hid rfl⟩
  have zC : Hid (C.size = 32) := Lib.hid (by rw [hC.out, nums_size]; exact sumL_length _)
  have oC : Hid (C.all (·.oneCell') = true) := Lib.hid (by rw [hC.out]; exact nums_one _ _)
  obtain ⟨T, hT⟩ : ∃ T, Hid (T = textS seed) := ⟨_, Lib.hid rfl⟩
  obtain ⟨P1, hP1⟩ : ∃ P, Hid (P = putS index 4) := ⟨_, Lib.hid rfl⟩
  obtain ⟨P2, hP2⟩ : ∃ P, Hid (P = putS (2 * i + bit) 2) := ⟨_, Lib.hid rfl⟩
  obtain ⟨A1, hA1⟩ : ∃ A, Hid (A = ⟨#[2]⟩ ++ T) := ⟨_, Lib.hid rfl⟩
  obtain ⟨A2, hA2⟩ : ∃ A, Hid (A = A1 ++ P1) := ⟨_, Lib.hid rfl⟩
  have HA3 : Hid (A3 = A2 ++ P2) := Lib.hid (by rw [hA3.out, hA2.out, hA1.out, hT.out, hP1.out, hP2.out]; rfl)
  have st := textS_size seed (by omega)
  have sp1 := putS_size index 4
  have sp2 := putS_size (2 * i + bit) 2
  rw [← hT.out] at st
  rw [← hP1.out] at sp1
  rw [← hP2.out] at sp2
  have sA1 : A1.size ≤ 100011 := by rw [hA1.out, ByteArray.size_append]; show 1 + T.size ≤ _; omega
  have sA2 : A2.size ≤ 100019 := by rw [hA2.out, ByteArray.size_append]; omega
  have sA3 : A3.size ≤ 100027 := by rw [HA3.out, ByteArray.size_append]; omega
  have a1 : ∀ W, (Op.stringOp .add ⟨#[2]⟩ T).run Tryd.prog W = .ok (.string A1) W := fun W => by rw [hA1.out]; exact join_text _ _ (by show 1 + T.size ≤ _; omega) W
  have a2 : ∀ W, (Op.stringOp .add A1 P1).run Tryd.prog W = .ok (.string A2) W := fun W => by rw [hA2.out]; exact join_text _ _ (by omega) W
  have a3 : ∀ W, (Op.stringOp .add A2 P2).run Tryd.prog W = .ok (.string A3) W := fun W => by rw [HA3.out]; exact join_text _ _ (by omega) W
  have X1 : Hid (∀ W, Calls Tryd.prog 61 #[.string seed] W fun e w' => e = .returned (.string T) ∧ Below W.heap.size W w') := Lib.hid fun W => by rw [hT.out]; exact refText_any seed (by omega) W
  have X2 : Hid (∀ W, Calls Tryd.prog 62 #[.int .u64 index, .int .i64 4] W fun e w' => e = .returned (.string P1) ∧ Below W.heap.size W w') := Lib.hid fun W => by rw [hP1.out]; exact refPut_any index 4 W (by omega)
  have X3 : Hid (∀ W, Calls Tryd.prog 62 #[.int .u64 (2 * i + bit), .int .i64 2] W fun e w' => e = .returned (.string P2) ∧ Below W.heap.size W w') := Lib.hid fun W => by rw [hP2.out]; exact refPut_any (2 * i + bit) 2 W (by omega)
  have X4 : Hid (∀ W, Calls Tryd.prog 42 #[.string A3] W fun e w' => e = .returned (.agg C) ∧ Below W.heap.size W w') := Lib.hid fun W => by rw [hC.out]; exact refSum_any A3 (by omega) W
  have hw1 : IntKind.u64.wrap index = index := by rw [IntKind.wrap_u64]; omega
  have hw2 : IntKind.u64.wrap (2 * i + bit) = 2 * i + bit := by rw [IntKind.wrap_u64]; omega
  have hw3 : IntKind.i64.wrap (2 * i) = 2 * i := by rw [IntKind.wrap_i64]; omega
  have hw4 : IntKind.i64.wrap (2 * i + bit) = 2 * i + bit := by rw [IntKind.wrap_i64]; omega
  rw [HF.out, ← hC.out]
  clear st sp1 sp2 sA1 sA2 sA3
  by_cases h6 : bit = 0
  · have d5 : (bit != 0) = false := by simp [h6]
    clear h1 h2 h3 h4 h5 h6 hs h64
    go_enter Tryd.func43, Tryd.ntmps43
    go_upto_region 1 with fail
    refine world_gen (fun X => OutH w X) H0.out (fun X HX => ?_)
    have HX := Lib.hid HX
    go_wp2_with (first
      | (go_at_call 61; (with_reducible refine (X1.out _).mono ?_); rintro e w1 ⟨rfl, hb⟩; have HX := Lib.hid (HX.out.next hb); clear hb)
      | (go_at_call 62; (first | (with_reducible refine (X2.out _).mono ?_) | (with_reducible refine (X3.out _).mono ?_)); rintro e w1 ⟨rfl, hb⟩; have HX := Lib.hid (HX.out.next hb); clear hb)
      | (go_at_call 42; (with_reducible refine (X4.out _).mono ?_); rintro e w1 ⟨rfl, hb⟩; have HX := Lib.hid (HX.out.next hb); clear hb; have s6 := HX.out.1.write zZ.out zC.out oC.out))
    refine bodyPost_ret (results_cell_row rfl _ _ w.heap.size 23 _ (0, 0) _ rfl (HX.out.1.whole _) Tryd.underlying23 rfl (sizeH _ zC.out)) rfl ⟨rfl, below_setRow HX.out.2 (Nat.le_refl _)⟩
  · have d5 : (bit != 0) = true := by simpa using h6
    have d6 : (bit != 1) = false := by simp; omega
    clear h1 h2 h3 h4 h5 h6 hs h64
    go_enter Tryd.func43, Tryd.ntmps43
    go_upto_region 1 with fail
    refine world_gen (fun X => OutH w X) H0.out (fun X HX => ?_)
    have HX := Lib.hid HX
    go_wp2_with (first
      | (go_at_call 61; (with_reducible refine (X1.out _).mono ?_); rintro e w1 ⟨rfl, hb⟩; have HX := Lib.hid (HX.out.next hb); clear hb)
      | (go_at_call 62; (first | (with_reducible refine (X2.out _).mono ?_) | (with_reducible refine (X3.out _).mono ?_)); rintro e w1 ⟨rfl, hb⟩; have HX := Lib.hid (HX.out.next hb); clear hb)
      | (go_at_call 42; (with_reducible refine (X4.out _).mono ?_); rintro e w1 ⟨rfl, hb⟩; have HX := Lib.hid (HX.out.next hb); clear hb; have s6 := HX.out.1.write zZ.out zC.out oC.out))
    refine bodyPost_ret (results_cell_row rfl _ _ w.heap.size 23 _ (0, 0) _ rfl (HX.out.1.whole _) Tryd.underlying23 rfl (sizeH _ zC.out)) rfl ⟨rfl, below_setRow HX.out.2 (Nat.le_refl _)⟩
end Go.Proofs.YtgnkdkehooagpaaDoor
