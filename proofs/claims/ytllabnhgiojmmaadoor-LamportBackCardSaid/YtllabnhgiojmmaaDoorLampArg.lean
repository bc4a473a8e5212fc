/-
  Arguments opened: two hashes, an array of numbers. What the cards of layer 8 take beside XListCard.
-/
import Derived.Test.YtllabnhgiojmmaaDoorListCard
namespace Go.Proofs.YtllabnhgiojmmaaDoor
open Go.ChangeShapes Go.WideShapes Go.ChangeAt Go.RowKit
set_option linter.unusedVariables false
set_option maxRecDepth 100000

theorem cPair : Tryd.prog.cellsOf 25 = 64 := by kernel_rfl
/-- Two hashes, opened. -/
theorem open_pair {H : Type} {enc : TypeId × Value → H} {W : World} {base b0 : Nat} {sp : Nat → Bool} {v : Value} {d : DataW H} {ps : List MemPlace}
    (hval : Value.okWide Tryd.prog W .any b0 25 v) (h : DataW.Trod enc Tryd.prog W base sp true 25 v d ps) :
    ∃ a b : List Int, v = .agg (nums .u8 (a ++ b)) ∧ (a.length = 32 ∧ bytes a) ∧ (b.length = 32 ∧ bytes b) := by
  obtain ⟨cs, rfl, hsz⟩ : ∃ cs, v = .agg cs ∧ cs.size = Tryd.prog.cellsOf 25 := by
    have := hval
    simp [Value.okWide, Tryd.underlying25] at this
    obtain ⟨cs, h1, h2, _⟩ := this
    exact ⟨cs, h1, h2⟩
  rw [cPair] at hsz
  obtain ⟨fuel, hf⟩ := h
  obtain ⟨xs, m, _, _, _, hl, hx⟩ := DataW.trod_array Tryd.underlying25 hf
  have e0 := hx 0 (by omega)
  have e1 := hx 1 (by omega)
  rw [List.getElem?_eq_getElem (show 0 < xs.length by omega)] at e0
  rw [List.getElem?_eq_getElem (show 1 < xs.length by omega)] at e1
  simp only [cHash, Value.cells] at e0 e1
  obtain ⟨a, a1, a2, a3⟩ := hash_cells e0 (by simp; omega)
  obtain ⟨b, b1, b2, b3⟩ := hash_cells e1 (by simp; omega)
  refine ⟨a, b, ?_, ⟨a1, a2⟩, ⟨b1, b2⟩⟩
  congr 1
  apply Array.ext_getElem?
  intro i
  by_cases hi : i < 32
  · have h3 := a3 i hi
    rw [List.getElem?_take, if_pos hi, List.getElem?_drop, Array.getElem?_toList] at h3
    rw [nums_get .u8 _ i (by rw [List.length_append]; omega), List.getD_eq_getElem?_getD, List.getElem?_append_left (by omega), ← List.getD_eq_getElem?_getD]
    simpa using h3
  · by_cases hj : i < 64
    · have h3 := b3 (i - 32) (by omega)
      rw [List.getElem?_take, if_pos (by omega), List.getElem?_drop, Array.getElem?_toList] at h3
      rw [nums_get .u8 _ i (by rw [List.length_append]; omega), List.getD_eq_getElem?_getD, List.getElem?_append_right (by omega), a1, ← List.getD_eq_getElem?_getD]
      rwa [show 1 * 32 + (i - 32) = i by omega] at h3
    · rw [Array.getElem?_eq_none (by omega), Array.getElem?_eq_none (by rw [nums_size, List.length_append]; omega)]
/-- An array of numbers, opened. -/
theorem open_nums {ty elem : TypeId} {k : IntKind} {n : Nat} (hu : Tryd.prog.underlying ty = some (.array n elem)) (he : Tryd.prog.underlying elem = some (.int k)) (hc : Tryd.prog.cellsOf ty = n) (hce : Tryd.prog.cellsOf elem = 1)
    {H : Type} {enc : TypeId × Value → H} {W : World} {base b0 : Nat} {sp : Nat → Bool} {v : Value} {d : DataW H} {ps : List MemPlace}
    (hval : Value.okWide Tryd.prog W .any b0 ty v) (h : DataW.Trod enc Tryd.prog W base sp true ty v d ps) :
    ∃ l : List Int, v = .agg (nums k l) ∧ l.length = n ∧ ∀ x ∈ l, (Lit.int k x).wf = true := by
  obtain ⟨cs, rfl, hsz⟩ : ∃ cs, v = .agg cs ∧ cs.size = Tryd.prog.cellsOf ty := by
    have := hval
    simp [Value.okWide, hu] at this
    obtain ⟨cs, h1, h2, _⟩ := this
    exact ⟨cs, h1, h2⟩
  rw [hc] at hsz
  obtain ⟨fuel, hf⟩ := h
  obtain ⟨xs, m, _, _, _, hl, hx⟩ := DataW.trod_array hu hf
  have key : ∀ i, i < n → ∃ y : Int, cs[i]? = some (.int k y) ∧ (Lit.int k y).wf = true := fun i hi => by
    have e0 := hx i hi
    rw [List.getElem?_eq_getElem (show i < xs.length by omega)] at e0
    obtain ⟨y, hk, _, wk⟩ := DataW.trod_int he e0
    simp only [hce, Value.cells, Nat.mul_one] at hk
    have h1 := of_one cs.toList i _ hk
    exact ⟨y, by simpa using h1, wk⟩
  refine ⟨(List.range n).map fun i => numOf cs[i]?, ?_, by simp, ?_⟩
  · congr 1
    apply Array.ext_getElem?
    intro i
    by_cases hi : i < n
    · obtain ⟨y, hk, _⟩ := key i hi
      rw [nums_get k _ i (by simpa using hi), hk]
      have e : ((List.range n).map fun i => numOf cs[i]?).getD i 0 = y := by simp [List.getD, hi, hk, numOf]
      rw [e]
    · rw [Array.getElem?_eq_none (by omega), Array.getElem?_eq_none (by rw [nums_size]; simp; omega)]
  · intro x hxm
    obtain ⟨i, hi, rfl⟩ := List.mem_map.1 hxm
    obtain ⟨y, hk, b1⟩ := key i (by simpa using hi)
    rw [hk]
    exact b1
theorem of_three {l : List Int} (h : l.length = 3) : ∃ a b c, l = [a, b, c] := by
  match l, h with
  | [a, b, c], _ => exact ⟨a, b, c, rfl⟩
theorem of_six {l : List Int} (h : l.length = 6) : ∃ a b c d e f, l = [a, b, c, d, e, f] := by
  match l, h with
  | [a, b, c, d, e, f], _ => exact ⟨a, b, c, d, e, f, rfl⟩
end Go.Proofs.YtllabnhgiojmmaaDoor
