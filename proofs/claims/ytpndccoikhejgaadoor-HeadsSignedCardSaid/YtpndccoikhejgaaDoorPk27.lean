/-
  Rough.
-/
import Derived.Test.YtpndccoikhejgaaDoorPk08
import Derived.Test.YtpndccoikhejgaaDoorPk06
import Derived.Test.YtpndccoikhejgaaDoorPk09
import Derived.BigQuiet
import Derived.StillTailTactics
namespace Go.Proofs.YtpndccoikhejgaaDoor
open Go.RowKit Go.Great
set_option linter.unusedVariables false
set_option maxRecDepth 100000

/-- A rough head's cells. -/
def roughV (s : Int) (r : List Int) (i : Int) (t : ByteArray) (m : Int) (A : Option Addr) (n c : Nat) : Array Value := headV s r ++ #[.int .i64 i, .string t, .int .i8 m, .slice A n c]
theorem roughV_size (s : Int) (r : List Int) (i : Int) (t : ByteArray) (m : Int) (A : Option Addr) (n c : Nat) (h : r.length = 32) : (roughV s r i t m A n c).size = 37 := by
  rw [roughV, Array.size_append, headV_size s r h]; rfl
theorem roughV_one (s : Int) (r : List Int) (i : Int) (t : ByteArray) (m : Int) (A : Option Addr) (n c : Nat) : (roughV s r i t m A n c).all (·.oneCell') = true := by
  rw [roughV, Array.all_append, headV_one]; simp [Value.oneCell']
theorem roughV_low (s : Int) (r : List Int) (i : Int) (t : ByteArray) (m : Int) (A : Option Addr) (n c : Nat) (h : r.length = 32) (j : Nat) (hj : j < 33) : (roughV s r i t m A n c)[j]? = (headV s r)[j]? := by
  unfold roughV; rw [Array.getElem?_append_left (by rw [headV_size s r h]; exact hj)]
theorem roughV_high (s : Int) (r : List Int) (i : Int) (t : ByteArray) (m : Int) (A : Option Addr) (n c : Nat) (h : r.length = 32) (j : Nat) : (roughV s r i t m A n c)[33 + j]? = (#[.int .i64 i, .string t, .int .i8 m, .slice A n c] : Array Value)[j]? := by
  unfold roughV
  rw [Array.getElem?_append_right (by rw [headV_size s r h]; omega), headV_size s r h, show 33 + j - 33 = j by omega]
section
variable {w : World} {g : Nat} {t : TypeId} {s : Int} {r : List Int} {i m : Int} {u : ByteArray} {A : Option Addr} {n c : Nat}
theorem rough_cells (h : Row w g t (roughV s r i u m A n c)) (hr : r.length = 32) : w.cell? ⟨g, 33, none⟩ = some (.int .i64 i) ∧ w.cell? ⟨g, 34, none⟩ = some (.string u) ∧ w.cell? ⟨g, 35, none⟩ = some (.int .i8 m) ∧ w.cell? ⟨g, 36, none⟩ = some (.slice A n c) :=
  ⟨(h.cell 33).trans (roughV_high s r i u m A n c hr 0), (h.cell 34).trans (roughV_high s r i u m A n c hr 1), (h.cell 35).trans (roughV_high s r i u m A n c hr 2), (h.cell 36).trans (roughV_high s r i u m A n c hr 3)⟩
theorem rough_head (h : Row w g t (roughV s r i u m A n c)) (hr : r.length = 32) : (readD (.pointer (some ⟨g, 0, none⟩))).run Tryd.prog w = .ok (.agg (headV s r)) w := by
  have hz := headV_size s r hr
  have e := run_loadAt_mid (P := Tryd.prog) w g 0 25 (headV s r).toList _ (h.rangeAt 0 _ (fun j v hv => by
    have hj : j < 33 := by
      rcases Nat.lt_or_ge j 33 with h' | h'
      · exact h'
      · rw [Array.getElem?_toList, Array.getElem?_eq_none (by omega)] at hv; cases hv
    rw [Nat.zero_add, roughV_low s r i u m A n c hr j hj, ← Array.getElem?_toList]; exact hv)) Tryd.underlying25 rfl (sizeD _ (by rw [Array.length_toList]; exact hz))
  rw [Array.toArray_toList] at e
  exact e
end
theorem zero_signed : (#[.int .i64 0, .int .u8 0, .int .u8 0, .int .u8 0, .int .u8 0, .int .u8 0, .int .u8 0, .int .u8 0, .int .u8 0, .int .u8 0, .int .u8 0, .int .u8 0, .int .u8 0, .int .u8 0, .int .u8 0, .int .u8 0, .int .u8 0, .int .u8 0, .int .u8 0, .int .u8 0, .int .u8 0, .int .u8 0, .int .u8 0, .int .u8 0, .int .u8 0, .int .u8 0, .int .u8 0, .int .u8 0, .int .u8 0, .int .u8 0, .int .u8 0, .int .u8 0, .int .u8 0, .int .i64 0, .string ⟨#[]⟩, .slice none 0 0] : Array Value) = signedV 0 zeroL 0 ⟨#[]⟩ none 0 0 := rfl
theorem still_built_signed {ops : Array Oper} {rest : List Oper} {o : Oper} {a : Act} {w : World} {Q : Act → Prop} (hgd : o.guard = none) (x y : Operand) (ho : o.op = .build 34 #[(0, x), (1, y)]) (s : Int) (r : List Int) (hr : r.length = 32) (i : Int) (t : ByteArray) (A : Option Addr) (n c : Nat) (hx : a.eval x = .agg (headV s r)) (hy : a.eval y = .agg (sealV i t A n c)) (hk : wpStill Tryd.prog ops w Q rest (a.put o.dst (.agg (signedV s r i t A n c)))) : wpStill Tryd.prog ops w Q (o :: rest) a := by
  have e : ((#[(0, x), (1, y)] : Array (Nat × Operand)).map fun (i, x) => (i, a.eval x)).toList = [(0, .agg (headV s r)), (1, .agg (sealV i t A n c))] := by simp [hx, hy]
  have hb : Tryd.prog.built 34 ((#[(0, x), (1, y)] : Array (Nat × Operand)).map fun (i, x) => (i, a.eval x)).toList = some (signedV s r i t A n c) := by rw [e]; exact built_signed s r hr i t A n c
  have hw : Region.wanted o (yielded ops a.tmps) = true := by simp [Region.wanted, hgd]
  rw [wpStill, if_pos hw]
  unfold Oper.still execOp
  simp only [ho, Sem.run_bind, Sem.run_pure, run_build w 34 _ _ hb, Result.andThen_ok]
  exact ⟨rfl, hk⟩
/-- What Great holds; what Signed holds. -/
def RgA (w W : World) (C : Array Value) : Prop := Row W w.heap.size 29 C ∧ Below w.heap.size w W
theorem RgA.start (w : World) (C : Array Value) : RgA w (w.alloc (.cells C 29)) C := ⟨Row.made _ _ _, (Below.refl _ _).alloc (Nat.le_refl _) _⟩
def RgH (w W : World) (C : Array Value) : Prop := Row W w.heap.size 29 C ∧ Row W (w.heap.size + 1) 34 (signedV 0 zeroL 0 ⟨#[]⟩ none 0 0) ∧ Below w.heap.size w W
theorem RgH.start (w : World) (C : Array Value) : RgH w ((w.alloc (.cells C 29)).alloc (.cells (signedV 0 zeroL 0 ⟨#[]⟩ none 0 0) 34)) C :=
  ⟨(Row.made _ _ _).alloc _, Row.made2 _ _ _ _, ((Below.refl _ _).alloc (Nat.le_refl _) _).alloc (by simp) _⟩
set_option maxHeartbeats 4000000 in
theorem great_any (s : Int) (r : List Int) (hr : r.length = 32) (i : Int) (t : ByteArray) (m : Int) (A : Option Addr) (n c : Nat) (w : World) :
    Calls Tryd.prog 7 #[.agg (roughV s r i t m A n c)] w fun e w' => e = .returned (.bool (decide (300 < t.size ∨ 40 < n))) ∧ Below w.heap.size w w' := by
  obtain ⟨C, hC⟩ : ∃ C, C = roughV s r i t m A n c := ⟨_, rfl⟩
  have CF : Hid (∀ W g, Row W g 29 C → W.cell? ⟨g, 33, none⟩ = some (.int .i64 i) ∧ W.cell? ⟨g, 34, none⟩ = some (.string t) ∧ W.cell? ⟨g, 35, none⟩ = some (.int .i8 m) ∧ W.cell? ⟨g, 36, none⟩ = some (.slice A n c)) := Lib.hid fun W g h => by subst hC; exact rough_cells h hr
  have H0 := Lib.hid (RgA.start w C)
  rw [← hC]
  clear hC
  by_cases h1 : 300 < t.size
  · have b1 : decide ((300 : Int) < (t.size : Int)) = true := decide_eq_true (by omega)
    rw [show decide (300 < t.size ∨ 40 < n) = true from decide_eq_true (Or.inl h1)]
    go_enter Tryd.func7, Tryd.ntmps7
    go_upto_region 1 with fail
    refine world_gen (fun X => RgA w X C) H0.out (fun X HX => ?_)
    have HX := Lib.hid HX
    obtain ⟨c0, c1, c2, c3⟩ := CF.out _ _ HX.out.1
    go_wp2
    go_ret
    exact ⟨rfl, HX.out.2⟩
  · have b1 : decide ((300 : Int) < (t.size : Int)) = false := decide_eq_false (by omega)
    by_cases h2 : 40 < n
    · have b2 : decide ((40 : Int) < (n : Int)) = true := decide_eq_true (by omega)
      rw [show decide (300 < t.size ∨ 40 < n) = true from decide_eq_true (Or.inr h2)]
      go_enter Tryd.func7, Tryd.ntmps7
      go_upto_region 1 with fail
      refine world_gen (fun X => RgA w X C) H0.out (fun X HX => ?_)
      have HX := Lib.hid HX
      obtain ⟨c0, c1, c2, c3⟩ := CF.out _ _ HX.out.1
      go_wp2
      go_ret
      exact ⟨rfl, HX.out.2⟩
    · have b2 : decide ((40 : Int) < (n : Int)) = false := decide_eq_false (by omega)
      rw [show decide (300 < t.size ∨ 40 < n) = false from decide_eq_false (fun h => h.elim h1 h2)]
      go_enter Tryd.func7, Tryd.ntmps7
      go_upto_region 1 with fail
      refine world_gen (fun X => RgA w X C) H0.out (fun X HX => ?_)
      have HX := Lib.hid HX
      obtain ⟨c0, c1, c2, c3⟩ := CF.out _ _ HX.out.1
      go_wp2
      go_ret
      exact ⟨rfl, HX.out.2⟩
attribute [local go_sem ↓ high] read_d read_g write_g
set_option maxHeartbeats 8000000 in
theorem signed_any (s : Int) (r : List Int) (hr : r.length = 32) (i : Int) (t : ByteArray) (ht : t.size ≤ 300) (m : Int) (hm : -128 ≤ m ∧ m ≤ 127) (A : Option Addr) (n c : Nat) (w : World) :
    Calls Tryd.prog 9 #[.agg (roughV s r i t m A n c)] w fun e w' => ∃ sg, sg.size ≤ 16511 ∧ e = .returned (.agg (signedV s r i sg A n c)) ∧ Below w.heap.size w w' := by
  obtain ⟨N, hN⟩ : ∃ N : Nat, 16384 + m = (N : Int) := ⟨(16384 + m).toNat, by omega⟩
  have hN1 : N ≤ 16511 := by omega
  obtain ⟨C, hC⟩ : ∃ C, C = roughV s r i t m A n c := ⟨_, rfl⟩
  obtain ⟨VD, hVD⟩ : ∃ C, Hid (C = headV s r) := ⟨_, Lib.hid rfl⟩
  have CF : Hid (∀ W g, Row W g 29 C → (readD (.pointer (some ⟨g, 0, none⟩))).run Tryd.prog W = .ok (.agg VD) W ∧ W.cell? ⟨g, 33, none⟩ = some (.int .i64 i) ∧ W.cell? ⟨g, 34, none⟩ = some (.string t) ∧ W.cell? ⟨g, 35, none⟩ = some (.int .i8 m) ∧ W.cell? ⟨g, 36, none⟩ = some (.slice A n c)) := Lib.hid fun W g h => by subst hC; rw [hVD.out]; exact ⟨rough_head h hr, rough_cells h hr⟩
  have H0 := Lib.hid (RgH.start w C)
  rw [← zero_signed] at H0
  have w1 : IntKind.i64.wrap m = m := by rw [IntKind.wrap_i64]; omega
  have w1b : wrap64 m = m := by unfold wrap64; omega
  have w2 : IntKind.i64.wrap (16384 + m) = (N : Int) := by rw [IntKind.wrap_i64]; omega
  have w2b : wrap64 (16384 + m) = (N : Int) := by unfold wrap64; omega
  rw [← hC]
  clear hC
  go_enter Tryd.func9, Tryd.ntmps9
  go_upto_region 1 with fail
  refine world_gen (fun X => RgH w X C) H0.out (fun X HX => ?_)
  have HX := Lib.hid HX
  clear H0
  obtain ⟨c0, c1, c2, c3, c4⟩ := CF.out _ _ HX.out.1
  go_upto_region 3 with fail
  clear c0 c1 c2 c3 c4 w1 w1b w2 w2b
  go_loopw [4] (fun s4 wr => ∃ u : ByteArray, s4 = .string u ∧ u.size ≤ 16900 ∧ Hid (RgH w wr C)) (fun s4 _ => 17000 - (match s4 with | .string u => u.size | _ => 0))
  case atStart => exact ⟨⟨#[]⟩, rfl, Nat.zero_le _, HX⟩
  case round =>
    clear HX
    obtain ⟨u, rfl, hu, HX⟩ := hrel
    obtain ⟨c0, c1, c2, c3, c4⟩ := CF.out _ _ HX.out.1
    by_cases q1 : 0 < t.size ∧ u.size < N
    · have b1 : decide ((0 : Int) < (t.size : Int)) = true := decide_eq_true (by omega)
      have b2 : decide ((u.size : Int) < (N : Int)) = true := decide_eq_true (by omega)
      have j1 := join_text u t (by omega)
      go_wp2
      go_roundw
      case rel => exact ⟨u ++ t, rfl, by rw [ByteArray.size_append]; omega, HX⟩
      case measure => simp only [ByteArray.size_append]; omega
    · obtain ⟨q, hq, hq1, hq2⟩ : ∃ q : Nat, (if (N : Int) < (u.size : Int) then (N : Int) else (u.size : Int)) = (q : Int) ∧ q ≤ u.size ∧ q ≤ 16511 := by
        by_cases h : (N : Int) < (u.size : Int)
        · rw [if_pos h]; exact ⟨N, rfl, by omega, hN1⟩
        · rw [if_neg h]; exact ⟨u.size, rfl, Nat.le_refl _, by omega⟩
      have hqm : min (u.size : Int) (N : Int) = (q : Int) := by
        rw [← hq]; split <;> omega
      have hq3 : (0 : Int) ≤ (q : Int) := by omega
      have hq4 : (q : Int) ≤ (u.size : Int) := by omega
      obtain ⟨SV, hSV⟩ : ∃ C, Hid (C = signedV s r i (u.extract 0 q) A n c) := ⟨_, Lib.hid rfl⟩
      have zSV : Hid (SV.size = 36) := Lib.hid (by rw [hSV.out]; exact signedV_size _ _ _ _ _ _ _ hr)
      have HD : Hid (RgH w wr.drew C) := Lib.hid ⟨HX.out.1.drew, HX.out.2.1.drew, HX.out.2.2.drew⟩
      obtain ⟨e0, e1, e2, e3, e4⟩ := CF.out _ _ HD.out.1
      have s9 := HD.out.2.1.writeG (signedV_size 0 zeroL 0 ⟨#[]⟩ none 0 0 zeroL_is.1) zSV.out (by rw [hSV.out]; exact signedV_one _ _ _ _ _ _ _)
      by_cases q0 : 0 < t.size
      · have b1 : decide ((0 : Int) < (t.size : Int)) = true := decide_eq_true (by omega)
        have b2 : decide ((u.size : Int) < (N : Int)) = false := decide_eq_false (by omega)
        go_upto_region 5 with fail
        refine wp_region_still_tail 14 (by kernel_rfl) (by kernel_rfl) ?_
        simp only [List.take_succ_cons, List.take_zero, List.drop_succ_cons, List.drop_zero]
        refine wpStill_hide (fun Q' hQ => ?_)
        have HQ' := Lib.hid hQ
        clear hQ
        iterate 13 ((refine (wpStill_step (fun K hK => ?_) : wpStill _ _ _ _ (_ :: _) _)); go_simp; refine hK _ ?_; clear hK K)
        refine still_built_signed rfl _ _ rfl s r hr i (u.extract 0 q) A n c (by rw [← hVD.out]; rfl) rfl ?_
        rw [← hSV.out]
        refine wpStill_nil ?_
        refine HQ'.out _ ?_
        change wpList _ _ _ _ _ wr.drew
        go_wp2
        refine bodyPost_ret (results_cell_row rfl _ _ (w.heap.size + 1) 34 _ (0, 0) _ rfl (HD.out.2.1.whole SV) Tryd.underlying34 rfl (sizeG _ zSV.out)) rfl ⟨u.extract 0 q, by rw [ByteArray.size_extract]; omega, by rw [hSV.out], below_setRow HD.out.2.2 (by omega)⟩
      · have b1 : decide ((0 : Int) < (t.size : Int)) = false := decide_eq_false (by omega)
        go_upto_region 5 with fail
        refine wp_region_still_tail 14 (by kernel_rfl) (by kernel_rfl) ?_
        simp only [List.take_succ_cons, List.take_zero, List.drop_succ_cons, List.drop_zero]
        refine wpStill_hide (fun Q' hQ => ?_)
        have HQ' := Lib.hid hQ
        clear hQ
        iterate 13 ((refine (wpStill_step (fun K hK => ?_) : wpStill _ _ _ _ (_ :: _) _)); go_simp; refine hK _ ?_; clear hK K)
        refine still_built_signed rfl _ _ rfl s r hr i (u.extract 0 q) A n c (by rw [← hVD.out]; rfl) rfl ?_
        rw [← hSV.out]
        refine wpStill_nil ?_
        refine HQ'.out _ ?_
        change wpList _ _ _ _ _ wr.drew
        go_wp2
        refine bodyPost_ret (results_cell_row rfl _ _ (w.heap.size + 1) 34 _ (0, 0) _ rfl (HD.out.2.1.whole SV) Tryd.underlying34 rfl (sizeG _ zSV.out)) rfl ⟨u.extract 0 q, by rw [ByteArray.size_extract]; omega, by rw [hSV.out], below_setRow HD.out.2.2 (by omega)⟩
end Go.Proofs.YtpndccoikhejgaaDoor
