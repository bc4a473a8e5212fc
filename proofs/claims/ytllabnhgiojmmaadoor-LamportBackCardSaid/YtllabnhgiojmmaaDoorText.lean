/-
  Plain facts on texts as rows of numbers. No program is named here.
-/
import Derived.Test.YtllabnhgiojmmaaDoorRow
import Derived.Laws.BytesArg
namespace Go.Proofs.YtllabnhgiojmmaaDoor
open Go.RowKit
set_option linter.unusedVariables false

/-- A text's bytes. -/
def textL (s : ByteArray) : List Int := s.data.toList.map fun b => (b.toNat : Int)
theorem textL_length (s : ByteArray) : (textL s).length = s.size := by unfold textL; rw [List.length_map, Array.length_toList]; rfl
theorem textL_bytes (s : ByteArray) : ∀ x ∈ textL s, 0 ≤ x ∧ x < 256 := by
  intro x hx
  obtain ⟨b, _, rfl⟩ := List.mem_map.1 hx
  have := b.toNat_lt
  omega
theorem textL_app (a b : ByteArray) : textL (a ++ b) = textL a ++ textL b := by
  unfold textL
  rw [ByteArray.data_append, Array.toList_append, List.map_append]
theorem textL_nums (l : List Int) (h : ∀ x ∈ l, 0 ≤ x ∧ x < 256) : textL (strOfNums l) = l := by
  unfold textL
  rw [strOfNums_data, List.map_map]
  conv => rhs; rw [← List.map_id l]
  refine List.map_congr_left fun x hx => ?_
  have := h x hx
  simp [Function.comp]
  omega
theorem text_nums (s : ByteArray) : strOfNums (textL s) = s := by
  unfold strOfNums textL
  rw [List.map_map]
  have : (fun n : Int => UInt8.ofNat n.toNat) ∘ (fun b : UInt8 => (b.toNat : Int)) = id := by
    funext b; simp
  rw [this, List.map_id]
theorem textL_inj (a b : ByteArray) (h : textL a = textL b) : a = b := by rw [← text_nums a, h, text_nums]
theorem textL_extract (s : ByteArray) (a b : Nat) : textL (s.extract a b) = ((textL s).drop a).take (b - a) := by
  unfold textL
  rw [ByteArray.data_extract, Array.toList_extract, List.extract_eq_take_drop, List.map_take, List.map_drop]
theorem textL_rest (s : ByteArray) (p : Nat) : textL (s.extract p s.size) = (textL s).drop p := by
  rw [textL_extract, List.take_of_length_le (by rw [List.length_drop, textL_length]; omega)]
theorem textL_take (s : ByteArray) (p : Nat) : textL (s.extract 0 p) = (textL s).take p := by
  rw [textL_extract]; simp
theorem textL_at (s : ByteArray) (i : Nat) (h : i < s.size) : (textL s).drop i = ((s[i].toNat : Nat) : Int) :: (textL s).drop (i + 1) := by
  rw [List.drop_eq_getElem_cons (by rw [textL_length]; exact h)]
  congr 1
  simp only [textL, List.getElem_map]
  rfl
theorem textL_getD (s : ByteArray) (i : Nat) (h : i < s.size) : (textL s).getD i 0 = ((s[i].toNat : Nat) : Int) := by
  rw [List.getD_eq_getElem?_getD, List.getElem?_eq_getElem (by rw [textL_length]; exact h)]
  simp only [textL, List.getElem_map, Option.getD_some]
  rfl
theorem textL_none : textL ⟨#[]⟩ = [] := rfl
theorem textL_size0 (s : ByteArray) (h : textL s = []) : s = ⟨#[]⟩ := textL_inj _ _ (by rw [h, textL_none])
end Go.Proofs.YtllabnhgiojmmaaDoor
