/-
  A slice of bytes that the call made and that append grows, known by its first bytes. What stands here makes new memory; nothing that was there changes.
-/
import Derived.Test.YtllabnhgiojmmaaDoorText
import Derived.ArgAppend
import Derived.Lib.ConvBytes
namespace Go.Proofs.YtllabnhgiojmmaaDoor
open Go.RowKit
set_option linter.unusedVariables false

theorem info_byte : (Tryd.prog.info? 5).map (fun i => (i.zero, i.size, i.bytes)) = some (some (.int .u8 0), 1, 1) := by kernel_rfl
/-- Block g, of capacity cap, begins with the m bytes l; none of its cells is frozen; it is no older than B. -/
def Got (w : World) (B g cap : Nat) (l : List Int) (m : Nat) : Prop :=
  l.length = m ∧ B ≤ g ∧ m ≤ cap ∧ ∃ cur fz, w.heap[g]? = some (.cells cur 5 fz) ∧ (fz = (0, 0) ∨ cur.size ≤ fz.1) ∧ cur.size = cap ∧ cur.toList.take m = l.map (Value.int .u8)
theorem Got.lt {w : World} {B g cap : Nat} {l : List Int} {m : Nat} (h : Got w B g cap l m) : g < w.heap.size := by
  obtain ⟨_, _, _, cur, fz, hr, _⟩ := h
  exact (Array.getElem?_eq_some_iff.1 hr).1
theorem Got.same {w w' : World} {B g cap : Nat} {l : List Int} {m : Nat} (h : Got w B g cap l m) (e : w'.heap[g]? = w.heap[g]?) : Got w' B g cap l m := by
  obtain ⟨h1, h2, h3, cur, fz, hr, h4⟩ := h
  exact ⟨h1, h2, h3, cur, fz, e.trans hr, h4⟩
theorem Got.alloc {w : World} {B g cap : Nat} {l : List Int} {m : Nat} (h : Got w B g cap l m) (o : Obj) : Got (w.alloc o) B g cap l m := h.same (Below.heap_alloc w o g h.lt)
theorem Got.cell {w : World} {B g cap : Nat} {l : List Int} {m : Nat} (h : Got w B g cap l m) (i : Nat) (hi : i < m) : w.cell? ⟨g, i, none⟩ = some (.int .u8 (l.getD i 0)) := by
  obtain ⟨h1, _, h3, cur, fz, hr, _, hc, ht⟩ := h
  rw [cell_of_row w g i cur _ fz hr]
  have e : (cur.toList.take m)[i]? = (l.map (Value.int .u8))[i]? := by rw [ht]
  rw [List.getElem?_take, if_pos hi] at e
  rw [← Array.getElem?_toList, e]
  simp [List.getD, List.getElem?_eq_getElem (show i < l.length by omega)]
theorem take_set_next (L : List Value) (n : Nat) (v : Value) (h : n < L.length) : (L.set n v).take (n + 1) = L.take n ++ [v] := by
  rw [List.take_succ_eq_append_getElem (by simpa using h), List.take_set_of_le (Nat.le_refl _), List.getElem_set_self]
theorem below_setCells_w {B g : Nat} (hg : B ≤ g) : ∀ (vs : List Value) (o : Nat) (w : World), Below B w (w.setCells g o vs)
  | [], _, w => Below.refl _ _
  | v :: r, o, w => ((Below.refl B w).setCell (p := ⟨g, o, none⟩) hg v).trans (below_setCells_w hg r (o + 1) _)
theorem got_cells (g : Nat) (t : TypeId) (fz : Nat × Nat) : ∀ (vs : List Value) (o : Nat) (w : World) (cur : Array Value), w.heap[g]? = some (.cells cur t fz) → o + vs.length ≤ cur.size →
    ∃ cur', (w.setCells g o vs).heap[g]? = some (.cells cur' t fz) ∧ cur'.size = cur.size ∧ cur'.toList.take (o + vs.length) = cur.toList.take o ++ vs
  | [], o, w, cur, h, _ => ⟨cur, h, rfl, by simp⟩
  | v :: r, o, w, cur, h, hl => by
    simp only [List.length_cons] at hl
    have h1 : (w.setCell ⟨g, o, none⟩ v).heap[g]? = some (.cells (cur.setIfInBounds o v) t fz) := by
      rw [setCell_eq_setRow w g o cur _ fz _ h]
      exact setRow_heap w g cur _ _ _ h
    obtain ⟨cur', e1, e2, e3⟩ := got_cells g t fz r (o + 1) (w.setCell ⟨g, o, none⟩ v) _ h1 (by simp; omega)
    refine ⟨cur', e1, by simpa using e2, ?_⟩
    rw [List.length_cons, show o + (r.length + 1) = o + 1 + r.length by omega, e3, Array.toList_setIfInBounds, take_set_next _ _ _ (by simp; omega), List.append_assoc]
    rfl
/-- Bytes more behind a row of the call's own. -/
theorem wpList_append_got {ops : Array Oper} {rest : List Oper} {o : Oper} {a : Act} {Q : Exit → Act → World → Prop} (w : World) (hg : o.guard = none) (s x : Operand)
    (hop : o.op = Op.call { callee := Callee.builtin Builtin.append, args := #[s, x], argTypes := #[41, 41] })
    (B g cap m : Nat) (l : List Int) (hs : a.eval s = .slice (some ⟨g, 0, none⟩) m cap) (G : Got w B g cap l m) (hB : B ≤ w.heap.size) (k n c : Nat) (t : TypeId) (ys : List Int) (hx : a.eval x = .slice (some ⟨k, 0, none⟩) n c) (hn0 : 0 < n)
    (hy : ys.length = n) (hh : Row w k t (nums .u8 ys)) (hm : m + n ≤ 140737488355328)
    (next : ∀ g' cap' w', Got w' B g' cap' (l ++ ys) (m + n) → Below B w w' → wpList Tryd.prog ops Q rest (a.put o.dst (.slice (some ⟨g', 0, none⟩) (m + n) cap')) w') :
    wpList Tryd.prog ops Q (o :: rest) a w := by
  obtain ⟨hlen, hBg, hn, cur, fz, hr, hf, hc, ht⟩ := G
  obtain ⟨i0, hi, hz0, hz1, hz2⟩ := info_parts info_byte
  have hcell : ∀ j, w.cell? ⟨g, j, none⟩ = cur[j]? := fun j => cell_of_row w g j cur _ fz hr
  have hfroz : ∀ j, j < cur.size → w.frozen? ⟨g, j, none⟩ = false := fun j hj => by
    obtain ⟨lo, hi'⟩ := fz
    rcases hf with hf | hf
    · simp only [Prod.mk.injEq] at hf; obtain ⟨rfl, rfl⟩ := hf; exact frozen_of_row w g j cur _ hr
    · have : ¬ lo ≤ j := by simp at hf; omega
      simp [World.frozen?, hr, this]
  have hadd : ∀ j, (⟨k, 0, none⟩ : Addr).add j = ⟨k, j, none⟩ := fun j => by unfold Addr.add; split <;> simp_all
  refine wpList_append_arg w hg s x _ hop 5 i0 (.int .u8 0) 1 1 Tryd.underlying41 hi hz0 hz1 hz2 rfl (by decide) g 0 m cap (l.map (Value.int .u8)) hs (by simp [hlen]) ?olds ⟨k, 0, none⟩ n c (ys.map (Value.int .u8)) hx (by simp [hy]) ?c1 ?c2 ?spare (by unfold maxLen; omega) (by omega) ?room ?grow
  case olds =>
    intro j u hu
    rw [Nat.zero_add, hcell]
    rw [← ht, List.getElem?_take] at hu
    split at hu
    · simpa using hu
    · cases hu
  case c1 =>
    intro j u hj
    rw [hadd, hh.cell j]
    simpa [nums] using hj
  case c2 =>
    intro u hu
    obtain ⟨z, _, rfl⟩ := List.mem_map.1 hu
    rfl
  case spare =>
    intro hr' j hj
    have hj0 : j < n := by simpa [hy] using hj
    rw [Nat.zero_add, Nat.mul_one, hcell, hfroz (m + j) (by omega)]
    exact ⟨by simp; omega, rfl⟩
  case room =>
    intro hr'
    obtain ⟨cur', e1, e2, e3⟩ := got_cells g _ fz (ys.map (Value.int .u8)) m w cur hr (by simp; omega)
    rw [show 0 + m * 1 = m by omega]
    refine next g cap _ ⟨by simp [hlen, hy], hBg, hr', cur', fz, e1, by rw [e2]; exact hf, by rw [e2]; exact hc, ?_⟩ (below_setCells_w hBg _ _ _)
    rw [List.length_map, hy] at e3
    rw [e3, ht, List.map_append]
  case grow =>
    intro hg' v' w' hown hgr
    obtain ⟨_, h2⟩ := hown
    rcases h2 with ⟨_, h0⟩ | ⟨g', cap', cur', hv, hb', hcell', hn', hm', hcs, htk⟩
    · omega
    · subst hv
      exact next g' cap' w' ⟨by simp [hlen, hy], by omega, hn', cur', (0, 0), hcell', .inl rfl, by omega, by rw [Nat.mul_one] at htk; rw [htk, List.map_append]⟩ ((Below.refl _ _).grown hgr hB (fun k h => by cases h))
theorem conv_text (w : World) (s : ByteArray) : ∃ wb cap, (convert 9 41 (.string s)).run Tryd.prog w = .ok (.slice (some ⟨w.heap.size, 0, none⟩) s.size cap) wb ∧ Hid (Got wb w.heap.size w.heap.size cap (textL s) s.size) ∧ Hid (Below w.heap.size w wb) := by
  refine ⟨_, _, Lib.run_convert_string_bytes w 9 41 5 s Tryd.underlying9 Tryd.underlying41 Tryd.underlying5, Lib.hid ⟨textL_length s, Nat.le_refl _, grownCap_ge w s.size 0 _, Lib.bytesCells w 5 s, _, Lib.bytesWorld_at_new w 5 s, .inr (Nat.le_refl _), ?_, ?_⟩, Lib.hid ⟨?_, ?_, ?_, ?_, fun j hj => Lib.bytesWorld_at_old w 5 s j hj⟩⟩
  · have := grownCap_ge w s.size 0 5
    have e : s.data.size = s.size := rfl
    simp [Lib.bytesCells, e]; omega
  · have e : s.data.toList.length = s.size := by rw [Array.length_toList]; rfl
    simp only [Lib.bytesCells, Array.toList_append, Array.toList_map]
    rw [List.take_append_of_le_length (by simp [e]), List.take_of_length_le (by simp [e]), textL, List.map_map]; rfl
  · rfl
  · rfl
  · rfl
  · rw [Lib.bytesWorld_size]; omega
end Go.Proofs.YtllabnhgiojmmaaDoor
