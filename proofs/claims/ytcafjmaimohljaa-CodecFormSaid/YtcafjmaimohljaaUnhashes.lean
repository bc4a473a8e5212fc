/-
  The walk of codec.Unhashes (layer 3): the list that stands ahead, or none; what it makes is new memory, nothing that was there changes.
-/
import Derived.Test.YtcafjmaimohljaaList
import Derived.Test.YtcafjmaimohljaaCut
import Derived.Laws.OwnMore
import Derived.Great.BuildSlice
namespace Go.Proofs.Ytcafjmaimohljaa
open Go.RowKit
set_option linter.unusedVariables false

/-- How many hashes stand ahead of a text, and from which byte on. -/
def unhsR (s : ByteArray) : Option (Nat × Nat) := match readR s with
  | some (n, p) => if n ≤ 64 ∧ 32 * n ≤ (s.extract p s.size).size then some (n, p) else none
  | none => none
theorem unhsR_none (s : ByteArray) (h : readR s = none) : unhsR s = none := by simp [unhsR, h]
theorem unhsR_no (s : ByteArray) (n p : Nat) (h : readR s = some (n, p)) (hn : ¬ (n ≤ 64 ∧ 32 * n ≤ (s.extract p s.size).size)) : unhsR s = none := by
  unfold unhsR; rw [h]; simp only; rw [if_neg hn]
theorem unhsR_yes (s : ByteArray) (n p : Nat) (h : readR s = some (n, p)) (hn : n ≤ 64 ∧ 32 * n ≤ (s.extract p s.size).size) : unhsR s = some (n, p) := by
  unfold unhsR; rw [h]; simp only; rw [if_pos hn]
/-- The first k hashes of bytes. -/
def chunk (L : List Int) : Nat → List (List Int)
  | 0 => []
  | k + 1 => chunk L k ++ [(L.drop (32 * k)).take 32]
theorem chunk_length (L : List Int) (k : Nat) : (chunk L k).length = k := by
  induction k with
  | zero => rfl
  | succ k ih => simp [chunk, ih]
theorem chunk_hashes (L : List Int) (k : Nat) (hl : 32 * k ≤ L.length) (hb : ∀ x ∈ L, 0 ≤ x ∧ x < 256) : hashes (chunk L k) := by
  induction k with
  | zero => intro l h; simp [chunk] at h
  | succ k ih =>
    intro l h
    simp only [chunk, List.mem_append, List.mem_singleton] at h
    rcases h with h | rfl
    · exact ih (by omega) l h
    · exact ⟨by rw [List.length_take, List.length_drop]; omega, fun x hx => hb x (List.mem_of_mem_drop (List.mem_of_mem_take hx))⟩
theorem chunk_flat (L : List Int) (k : Nat) (hl : 32 * k ≤ L.length) : (chunk L k).flatten = L.take (32 * k) := by
  induction k with
  | zero => simp [chunk]
  | succ k ih =>
    simp only [chunk, List.flatten_append, ih (by omega), List.flatten_cons, List.flatten_nil, List.append_nil]
    rw [show 32 * (k + 1) = 32 * k + 32 by omega, List.take_add]
/-- Hashes as cells. -/
def cellsL (ls : List (List Int)) : List Value := ls.flatten.map (Value.int .u8)
theorem cellsL_snoc (ls : List (List Int)) (l : List Int) : cellsL (ls ++ [l]) = cellsL ls ++ l.map (Value.int .u8) := by simp [cellsL]
/-- The slice that the call makes: k hashes. -/
def UnhsRow (w wr : World) (v : Value) (k : Nat) (ls : List (List Int)) : Prop := wr.ownsRow w.heap.size 27 32 v k (cellsL ls) ∧ Below w.heap.size w wr
theorem UnhsRow.lead {w wr : World} {v : Value} {k : Nat} {ls : List (List Int)} (h : UnhsRow w wr v k ls) (hk : ls.length = k) (hs : hashes ls) : ∃ A c, v = .slice A k c ∧ HL wr wr.heap.size A ls := by
  obtain ⟨h1, h2⟩ := h
  rcases h1.2 with ⟨rfl, h0⟩ | ⟨g, cap, cur, rfl, _, hg, _⟩
  · subst h0
    have : ls = [] := List.eq_nil_of_length_eq_zero hk
    subst this
    exact ⟨none, 0, rfl, HL.nil _ _ _⟩
  · refine ⟨_, _, rfl, fun i hi => ⟨_, rfl, (Array.getElem?_eq_some_iff.1 hg).1, fun j hj => ?_⟩⟩
    have hlt : i * 32 + j < ls.flatten.length := by rw [flat_length hs]; omega
    refine h1.cells (g := g) rfl _ _ ?_
    unfold cellsL
    rw [List.getElem?_map, List.getElem?_eq_getElem hlt]
    simp only [Option.map_some, Option.some.injEq, Value.int.injEq, true_and]
    have key : ∀ (ls : List (List Int)), hashes ls → ∀ i j, i < ls.length → j < 32 → ls.flatten.getD (i * 32 + j) 0 = (ls.getD i []).getD j 0 := by
      intro ls
      induction ls with
      | nil => intro _ i j h; simp at h
      | cons l r ih =>
        intro hs i j hi hj
        have hl := (hs l (by simp)).1
        cases i with
        | zero => simp only [List.flatten_cons, Nat.zero_mul, Nat.zero_add, List.getD_eq_getElem?_getD]; rw [List.getElem?_append_left (by omega)]; rfl
        | succ i =>
          have e : (i + 1) * 32 + j - l.length = i * 32 + j := by omega
          have := ih (fun x hx => hs x (by simp [hx])) i j (by simpa using hi) hj
          simp only [List.getD_eq_getElem?_getD] at this
          simp only [List.flatten_cons, List.getD_eq_getElem?_getD]
          rw [List.getElem?_append_right (by omega), e, this]
          rfl
    have := key ls hs i j hi hj
    rw [List.getD_eq_getElem?_getD, List.getElem?_eq_getElem hlt] at this
    simpa using this
theorem UnhsRow.next {w wr w3 w1 : World} {v v' : Value} {k : Nat} {ls : List (List Int)} {l : List Int} {C : Array Value} {t : TypeId} (h : UnhsRow w wr v k ls) (hb : Below wr.heap.size wr w3)
    (h1 : w1.ownsRow w.heap.size 27 32 v' (k + 1) (cellsL ls ++ l.map (Value.int .u8))) (hg : (w3.alloc (.cells C t)).grownBy w1 v.ownBlock) : UnhsRow w w1 v' (k + 1) (ls ++ [l]) := by
  refine ⟨by rw [cellsL_snoc]; exact h1, ?_⟩
  have hB := (below_new h.2 hb)
  refine (hB.alloc hB.size _).grown hg (by have := hB.size; simp; omega) (fun g e => ?_)
  rcases h.1.2 with ⟨rfl, _⟩ | ⟨g', cap, cur, rfl, hb', _⟩
  · simp [Value.ownBlock] at e
  · have : g' = g := by simpa [Value.ownBlock] using e
    omega
theorem infoHash : (Try.prog.info? 27).map (fun i => (i.zero, i.size, i.bytes)) = some (some (.agg (nums .u8 (List.replicate 32 0))), 32, 32) := by kernel_rfl
theorem fill_one (C cells : Array Value) (hC : C.size = 32) (h : cells.size = 32) : Instr.fill (fun i => some (i * 32, 32)) cells [(0, .agg C)] = some C := by
  obtain ⟨r, hr, hsz, hk⟩ := Great.fill_dense (s := 32) (by omega) [.agg C] 0 cells (fun v hv => by simp at hv; subst hv; exact hC) (by simp; omega)
  have e : ([Value.agg C].zipIdx 0).map (fun x => (x.2, x.1)) = [(0, .agg C)] := rfl
  rw [e] at hr
  rw [hr]
  congr 1
  apply Array.ext_getElem?
  intro k
  rw [hk k]
  by_cases hlt : k < 32
  · rw [if_pos (by simp; omega), show k / 32 - 0 = 0 by omega, Nat.mod_eq_of_lt hlt]
    rfl
  · rw [if_neg (by simp; omega), Array.getElem?_eq_none (by omega), Array.getElem?_eq_none (by omega)]
/-- A slice of one hash, made. -/
theorem wpList_buildOne {ops : Array Oper} {rest : List Oper} {o : Oper} {a : Act} {w : World} {Q : Exit → Act → World → Prop} (hg : o.guard = none) (y : Operand) (ho : o.op = .buildSlice 23 1 #[(0, y)])
    (C : Array Value) (hy : a.eval y = .agg C) (hC : C.size = 32) (h : wpList Try.prog ops Q rest (a.put o.dst (.slice (some ⟨w.heap.size, 0, none⟩) 1 1)) (w.alloc (.cells C 27))) : wpList Try.prog ops Q (o :: rest) a w := by
  obtain ⟨i0, hi, hz0, hz1, hz2⟩ := info_parts infoHash
  refine wpList_buildSlice hg 23 27 1 _ ho C i0 _ Try.underlying23 hi hz0 (by rw [hz1]; decide) (by rw [hz1]; decide) ?_ h
  have e : ((#[(0, y)] : Array (Nat × Operand)).map fun (i, x) => (i, a.eval x)).toList = [(0, .agg C)] := by simp [hy]
  rw [e, hz1]
  exact fill_one C _ hC (by simp)
end Go.Proofs.Ytcafjmaimohljaa
