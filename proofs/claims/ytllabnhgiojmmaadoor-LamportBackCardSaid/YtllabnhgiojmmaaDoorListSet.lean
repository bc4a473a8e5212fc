/-
  A hash into a place of a list in memory.
-/
import Derived.Test.YtllabnhgiojmmaaDoorListMem
import Derived.Deep.MidRow
namespace Go.Proofs.YtllabnhgiojmmaaDoor
open Go.RowKit Go.Great
set_option linter.unusedVariables false
set_option maxRecDepth 100000

theorem setL_hashes {ls : List (List Int)} (h : hashes ls) (k : Nat) (l : List Int) (hl : l.length = 32 ∧ bytes l) : hashes (ls.set k l) := fun x hx => by
  rcases List.mem_or_eq_of_mem_set hx with hx | rfl
  · exact h x hx
  · exact hl
theorem setL_getD (ls : List (List Int)) (k i : Nat) (l : List Int) (hi : i < ls.length) : (ls.set k l).getD i [] = if i = k then l else ls.getD i [] := by
  rw [List.getD_eq_getElem?_getD, List.getElem?_set]
  by_cases h : k = i
  · subst h; rw [if_pos rfl, if_pos hi, if_pos rfl]; rfl
  · rw [if_neg h, if_neg (fun e => h e.symm), ← List.getD_eq_getElem?_getD]
theorem own_room {w : World} {base g n cap : Nat} {xs : List Value} (h : w.ownsRow base 24 32 (.slice (some ⟨g, 0, none⟩) n cap) n xs) (k : Nat) (hk : k < n) : w.there g (k * 32) 32 := by
  rcases h.2 with ⟨h0, _⟩ | ⟨g', cap', cur, hv, hb, hg, hn, _, hsz, _⟩
  · cases h0
  · cases hv
    refine fun j hj => ⟨?_, frozen_of_row w g _ cur _ hg⟩
    rw [cell_of_row w g _ cur _ _ hg, Array.getElem?_eq_getElem (by rw [hsz]; have := Nat.mul_le_mul_right 32 (show k + 1 ≤ cap by omega); omega)]
    rfl
/-- A hash into a place of a slice. -/
theorem HL.set {wr : World} {B g : Nat} {ls : List (List Int)} (h : HL wr B (Option.some ⟨g, 0, none⟩) ls) (k : Nat) (hk : k < ls.length) (x : List Int) (hx : x.length = 32) (ht : wr.there g (k * 32) 32) : HL (wr.setCells g (k * 32) (nums .u8 x).toList) B (Option.some ⟨g, 0, none⟩) (ls.set k x) := by
  have hvl : (nums .u8 x).toList.length = 32 := by rw [Array.length_toList, nums_size, hx]
  intro i hi
  rw [List.length_set] at hi
  obtain ⟨ad, e, hlt, hc⟩ := h i hi
  cases e
  refine ⟨_, rfl, hlt, fun j hj => ?_⟩
  have hcj := hc j hj
  rw [add_flat] at hcj ⊢
  rw [setL_getD ls k i x hi]
  by_cases hik : i = k
  · subst hik
    rw [if_pos rfl, World.cell?_setCells_in g _ _ wr (fun q hq => (ht q (by omega)).1) j (by omega)]
    have e := nums_get .u8 x j (by omega)
    rw [← Array.getElem?_toList, List.getElem?_eq_getElem (by omega)] at e
    exact e
  · rw [if_neg hik, World.cell?_setCells_out g _ _ wr ⟨g, i * 32 + j, none⟩ (fun _ _ => by
      rw [hvl]
      rcases Nat.lt_or_gt_of_ne hik with h' | h'
      · left; have := Nat.mul_le_mul_right 32 (show i + 1 ≤ k by omega); show i * 32 + j < k * 32; omega
      · right; have := Nat.mul_le_mul_right 32 (show k + 1 ≤ i by omega); show k * 32 + 32 ≤ i * 32 + j; omega)]
    exact hcj
theorem size_setCells (b : Nat) : ∀ (vs : List Value) (o : Nat) (w : World), (w.setCells b o vs).heap.size = w.heap.size
  | [], _, _ => rfl
  | v :: r, o, w => by rw [World.setCells, size_setCells b r]; simp
end Go.Proofs.YtllabnhgiojmmaaDoor
