/-
  What the walk of the statement TreesApart stands on: a list copied, one of its hashes replaced; a hash's bytes wherever it lies.
-/
import Derived.Test.YthagpnakcffjeaaDoorTreeGrown
import Derived.Test.YthagpnakcffjeaaDoorTreeRefRoot
import Derived.Deep.MidRow
namespace Go.Proofs.YthagpnakcffjeaaDoor
open Go.RowKit
set_option linter.unusedVariables false

/-- A hash's bytes, wherever it lies. -/
theorem conv_flat (w : World) (a : Addr) (l : List Int) (hl : l.length = 32) (h : ∀ j, j < 32 → w.cell? (a.add j) = some (.int .u8 (l.getD j 0))) :
    (convert 32 9 (.slice (some a) 32 32)).run Tryd.prog w = .ok (.string (strOfNums l)) w := by
  have hls : (nums .u8 l).toList.length = 32 := by rw [Array.length_toList, nums_size, hl]
  have hload : (loadCells a (nums .u8 l).toList.length).run Tryd.prog w = .ok (nums .u8 l).toList.toArray w :=
    run_loadCells_list (P := Tryd.prog) w a (nums .u8 l).toList (fun j v hv => by
      have hj : j < 32 := by
        rcases Nat.lt_or_ge j 32 with h' | h'
        · exact h'
        · rw [List.getElem?_eq_none (by omega)] at hv; cases hv
      have e := nums_get .u8 l j (by omega)
      rw [Array.getElem?_toList, e] at hv
      cases hv
      exact h j hj)
  rw [hls, Array.toArray_toList] at hload
  rw [run_convert_bytes_string w 32 9 5 _ 32 32 Tryd.underlying32 Tryd.underlying5 Tryd.underlying9, run_bytesToString w _ 32 32 l hload, foldl_push_bytes]
  simp [strOfNums, ByteArray.empty, ByteArray.emptyWithCapacity]
  rfl
theorem set_hashes {ls : List (List Int)} (h : hashes ls) (k : Nat) (l : List Int) (hl : l.length = 32 ∧ bytes l) : hashes (ls.set k l) := fun x hx => by
  rcases List.mem_or_eq_of_mem_set hx with hx | rfl
  · exact h x hx
  · exact hl
theorem set_getD (ls : List (List Int)) (k i : Nat) (l : List Int) (hi : i < ls.length) : (ls.set k l).getD i [] = if i = k then l else ls.getD i [] := by
  rw [List.getD_eq_getElem?_getD, List.getElem?_set]
  by_cases h : k = i
  · subst h; rw [if_pos rfl, if_pos hi, if_pos rfl]; rfl
  · rw [if_neg h, if_neg (fun e => h e.symm), ← List.getD_eq_getElem?_getD]
theorem own_there {w : World} {base g n cap : Nat} {xs : List Value} (h : w.ownsRow base 24 32 (.slice (some ⟨g, 0, none⟩) n cap) n xs) (k : Nat) (hk : k < n) : w.there g (k * 32) 32 ∧ base ≤ g := by
  rcases h.2 with ⟨h0, _⟩ | ⟨g', cap', cur, hv, hb, hg, hn, _, hsz, _⟩
  · cases h0
  · cases hv
    refine ⟨fun j hj => ⟨?_, frozen_of_row w g _ cur _ hg⟩, hb⟩
    rw [cell_of_row w g _ cur _ _ hg, Array.getElem?_eq_getElem (by rw [hsz]; have := Nat.mul_le_mul_right 32 (show k + 1 ≤ cap by omega); omega)]
    rfl
/-- What the statement holds: the list, its copy, the hash. -/
structure ApH (w : World) (ad : Addr) (gm : Nat) (ls ms : List (List Int)) (h : List Int) (wr : World) : Prop where
  l1 : HL wr wr.heap.size (some ad) ls
  l2 : HL wr wr.heap.size (some ⟨gm, 0, none⟩) ms
  rh : Row wr w.heap.size 24 (nums .u8 h)
  tab : Tab wr
  below : Below w.heap.size w wr
theorem ApH.next {w wr w1 : World} {ad : Addr} {gm : Nat} {ls ms : List (List Int)} {h : List Int} (H : ApH w ad gm ls ms h wr) (hb : Below wr.heap.size wr w1) : ApH w ad gm ls ms h w1 :=
  ⟨(H.l1.next hb (Nat.le_refl _)).more hb.size, (H.l2.next hb (Nat.le_refl _)).more hb.size, H.rh.next hb, H.tab.next hb, below_new H.below hb⟩
theorem ApH.drew {w wr : World} {ad : Addr} {gm : Nat} {ls ms : List (List Int)} {h : List Int} (H : ApH w ad gm ls ms h wr) : ApH w ad gm ls ms h wr.drew := ⟨H.l1, H.l2, H.rh.drew, H.tab, H.below.drew⟩
/-- The hash stored into the copy. -/
theorem ApH.store {w wr : World} {ad : Addr} {g cap : Nat} {ls : List (List Int)} {h : List Int} (hh : hashes ls) (hl : h.length = 32) (k : Nat) (hk : k < ls.length)
    (h1 : HL wr w.heap.size (some ad) ls) (h2 : wr.ownsRow (w.heap.size + 1) 24 32 (.slice (some ⟨g, 0, none⟩) ls.length cap) ls.length (cellsL ls)) (h3 : Row wr w.heap.size 24 (nums .u8 h)) (h4 : Tab w) (h5 : Below w.heap.size w wr) :
    ApH w ad g ls (ls.set k h) h (wr.setCells g (k * 32) (nums .u8 h).toList) := by
  obtain ⟨ht, hg⟩ := own_there h2 k hk
  have hvl : (nums .u8 h).toList.length = 32 := by rw [Array.length_toList, nums_size, hl]
  have hb : Below (w.heap.size + 1) wr (wr.setCells g (k * 32) (nums .u8 h).toList) := below_setCells_w hg _ _ _
  have hlt : w.heap.size + 1 ≤ wr.heap.size := h3.lt
  refine ⟨(h1.next hb (by omega)).more (by have := hb.size; omega), fun i hi => ?_, h3.below hb (by omega), ?_, h5.trans (hb.mono (by omega))⟩
  · rw [List.length_set] at hi
    refine ⟨_, rfl, ?_, fun j hj => ?_⟩
    · have hs := hb.size
      have hc := h2.cells (g := g) rfl _ _ (cellsL_get hh i 0 hi (by omega))
      have := block_lt_of_cell hc
      rw [block_of_add] at this
      exact Nat.lt_of_lt_of_le this hs
    · rw [add_flat, set_getD ls k i h hi]
      by_cases hik : i = k
      · subst hik
        rw [if_pos rfl, World.cell?_setCells_in g _ _ wr (fun q hq => (ht q (by omega)).1) j (by omega)]
        have e := nums_get .u8 h j (by omega)
        rw [← Array.getElem?_toList, List.getElem?_eq_getElem (by omega)] at e
        exact e
      · rw [if_neg hik, World.cell?_setCells_out g _ _ wr ⟨g, i * 32 + j, none⟩ (fun _ _ => by
          rw [hvl]
          rcases Nat.lt_or_gt_of_ne hik with h' | h'
          · left; have := Nat.mul_le_mul_right 32 (show i + 1 ≤ k by omega); show i * 32 + j < k * 32; omega
          · right; have := Nat.mul_le_mul_right 32 (show k + 1 ≤ i by omega); show k * 32 + 32 ≤ i * 32 + j; omega)]
        have := h2.cells (g := g) rfl _ _ (cellsL_get hh i j hi hj)
        rwa [add_flat] at this
  · exact h4.next (h5.trans (hb.mono (by omega)))
end Go.Proofs.YthagpnakcffjeaaDoor
