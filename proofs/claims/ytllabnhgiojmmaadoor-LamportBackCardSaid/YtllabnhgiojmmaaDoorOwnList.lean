/-
  Hashes in a slice of the call's own, that append grows; one hash as a slice. What the cards and walks of the layers from 4 on share.
-/
import Derived.Test.YtllabnhgiojmmaaDoorTreeCells
import Derived.Great.BuildSlice
namespace Go.Proofs.YtllabnhgiojmmaaDoor
open Go.RowKit
set_option linter.unusedVariables false
set_option maxRecDepth 100000

theorem flat_length {ls : List (List Int)} (h : hashes ls) : ls.flatten.length = 32 * ls.length := by
  induction ls with
  | nil => rfl
  | cons l r ih =>
    rw [List.flatten_cons, List.length_append, ih (fun x hx => h x (by simp [hx])), (h l (by simp)).1, List.length_cons]
    omega
theorem flat_get (ls : List (List Int)) : hashes ls → ∀ i j, i < ls.length → j < 32 → ls.flatten.getD (i * 32 + j) 0 = (ls.getD i []).getD j 0 := by
  induction ls with
  | nil => intro _ i j h; simp at h
  | cons l r ih =>
    intro hs i j hi hj
    have hl := (hs l (by simp)).1
    cases i with
    | zero => simp only [List.flatten_cons, Nat.zero_mul, Nat.zero_add, List.getD_eq_getElem?_getD]; rw [List.getElem?_append_left (by omega)]; rfl
    | succ i =>
      have e : (i + 1) * 32 + j - l.length = i * 32 + j := by omega
      have := ih (fun x hx => hs x (by simp [hx])) i j (by simpa using hi) hj
      simp only [List.getD_eq_getElem?_getD] at this
      simp only [List.flatten_cons, List.getD_eq_getElem?_getD]
      rw [List.getElem?_append_right (by omega), e, this]
      rfl
/-- Hashes as cells. -/
def cellsL (ls : List (List Int)) : List Value := ls.flatten.map (Value.int .u8)
theorem cellsL_snoc (ls : List (List Int)) (l : List Int) : cellsL (ls ++ [l]) = cellsL ls ++ l.map (Value.int .u8) := by simp [cellsL]
theorem cellsL_get {ls : List (List Int)} (hs : hashes ls) (i j : Nat) (hi : i < ls.length) (hj : j < 32) : (cellsL ls)[i * 32 + j]? = some (.int .u8 ((ls.getD i []).getD j 0)) := by
  have hlt : i * 32 + j < ls.flatten.length := by rw [flat_length hs]; omega
  unfold cellsL
  rw [List.getElem?_map, List.getElem?_eq_getElem hlt]
  have := flat_get ls hs i j hi hj
  rw [List.getD_eq_getElem?_getD, List.getElem?_eq_getElem hlt] at this
  simp only [Option.getD_some] at this
  rw [this]
  rfl
/-- A slice of the call's own: k hashes. -/
def OwnL (w wr : World) (v : Value) (k : Nat) (ls : List (List Int)) : Prop := wr.ownsRow w.heap.size 24 32 v k (cellsL ls) ∧ Below w.heap.size w wr
theorem OwnL.lead {w wr : World} {v : Value} {k : Nat} {ls : List (List Int)} (h : OwnL w wr v k ls) (hk : ls.length = k) (hs : hashes ls) : ∃ A c, v = .slice A k c ∧ k ≤ c ∧ HL wr wr.heap.size A ls ∧ (k = 0 ∨ ∃ g, A = some ⟨g, 0, none⟩) := by
  obtain ⟨h1, h2⟩ := h
  rcases h1.2 with ⟨rfl, h0⟩ | ⟨g, cap, cur, rfl, _, hg, h3⟩
  · subst h0
    have : ls = [] := List.eq_nil_of_length_eq_zero hk
    subst this
    exact ⟨none, 0, rfl, Nat.le_refl _, HL.nil _ _ _, .inl rfl⟩
  · refine ⟨_, _, rfl, ?_, fun i hi => ⟨_, rfl, (Array.getElem?_eq_some_iff.1 hg).1, fun j hj => h1.cells (g := g) rfl _ _ (cellsL_get hs i j hi hj)⟩, .inr ⟨g, rfl⟩⟩
    first | exact h3.1 | exact h3.2.1 | omega
theorem own_below {w w' : World} {base size n : Nat} {e : TypeId} {v : Value} {xs : List Value} (h : w.ownsRow base e size v n xs) (hb : Below w.heap.size w w') : w'.ownsRow base e size v n xs := by
  obtain ⟨h1, h2⟩ := h
  refine ⟨h1, ?_⟩
  rcases h2 with h2 | ⟨g, cap, cur, hv, hB, hg, h3⟩
  · exact .inl h2
  · exact .inr ⟨g, cap, cur, hv, hB, (hb.block g (Array.getElem?_eq_some_iff.1 hg).1).trans hg, h3⟩
theorem OwnL.next {w wr w3 w1 : World} {v v' : Value} {k : Nat} {ls : List (List Int)} {l : List Int} {C : Array Value} {t : TypeId} (h : OwnL w wr v k ls) (hb : Below wr.heap.size wr w3)
    (h1 : w1.ownsRow w.heap.size 24 32 v' (k + 1) (cellsL ls ++ l.map (Value.int .u8))) (hg : (w3.alloc (.cells C t)).grownBy w1 v.ownBlock) : OwnL w w1 v' (k + 1) (ls ++ [l]) := by
  refine ⟨by rw [cellsL_snoc]; exact h1, ?_⟩
  have hB := (below_new h.2 hb)
  refine (hB.alloc hB.size _).grown hg (by have := hB.size; simp; omega) (fun g e => ?_)
  rcases h.1.2 with ⟨rfl, _⟩ | ⟨g', cap, cur, rfl, hb', _⟩
  · simp [Value.ownBlock] at e
  · have : g' = g := by simpa [Value.ownBlock] using e
    omega
theorem infoHash : (Tryd.prog.info? 24).map (fun i => (i.zero, i.size, i.bytes)) = some (some (.agg (nums .u8 (List.replicate 32 0))), 32, 32) := by kernel_rfl
theorem fill_one (C cells : Array Value) (hC : C.size = 32) (h : cells.size = 32) : Instr.fill (fun i => some (i * 32, 32)) cells [(0, .agg C)] = some C := by
  obtain ⟨r, hr, hsz, hk⟩ := Great.fill_dense (s := 32) (by omega) [.agg C] 0 cells (fun v hv => by simp at hv; subst hv; exact hC) (by simp; omega)
  have e : ([Value.agg C].zipIdx 0).map (fun x => (x.2, x.1)) = [(0, .agg C)] := rfl
  rw [e] at hr
  rw [hr]
  congr 1
  apply Array.ext_getElem?
  intro k
  rw [hk k]
  by_cases hlt : k < 32
  · rw [if_pos (by simp; omega), show k / 32 - 0 = 0 by omega, Nat.mod_eq_of_lt hlt]
    rfl
  · rw [if_neg (by simp; omega), Array.getElem?_eq_none (by omega), Array.getElem?_eq_none (by omega)]
/-- A slice of one hash, made. -/
theorem wpList_buildOne {ops : Array Oper} {rest : List Oper} {o : Oper} {a : Act} {w : World} {Q : Exit → Act → World → Prop} (hg : o.guard = none) (y : Operand) (ho : o.op = .buildSlice 33 1 #[(0, y)])
    (C : Array Value) (hy : a.eval y = .agg C) (hC : C.size = 32) (h : wpList Tryd.prog ops Q rest (a.put o.dst (.slice (some ⟨w.heap.size, 0, none⟩) 1 1)) (w.alloc (.cells C 24))) : wpList Tryd.prog ops Q (o :: rest) a w := by
  obtain ⟨i0, hi, hz0, hz1, hz2⟩ := info_parts infoHash
  refine wpList_buildSlice hg 33 24 1 _ ho C i0 _ Tryd.underlying33 hi hz0 (by rw [hz1]; decide) (by rw [hz1]; decide) ?_ h
  have e : ((#[(0, y)] : Array (Nat × Operand)).map fun (i, x) => (i, a.eval x)).toList = [(0, .agg C)] := by simp [hy]
  rw [e, hz1]
  exact fill_one C _ hC (by simp)
end Go.Proofs.YtllabnhgiojmmaaDoor
