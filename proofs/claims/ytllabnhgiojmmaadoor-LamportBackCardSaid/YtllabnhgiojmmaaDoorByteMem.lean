/-
  Bytes in a slice of the call's own, that append grows; bytes made into a text. Shared by the layers from 8 on.
-/
import Derived.Test.YtllabnhgiojmmaaDoorListMem
import Derived.Test.YtllabnhgiojmmaaDoorGot
namespace Go.Proofs.YtllabnhgiojmmaaDoor
open Go.RowKit Go.Great
set_option linter.unusedVariables false
set_option maxRecDepth 100000

/-- Bytes as cells. -/
def cellsB (l : List Int) : List Value := l.map (Value.int .u8)
theorem cellsB_length (l : List Int) : (cellsB l).length = l.length := by simp [cellsB]
theorem cellsB_app (a b : List Int) : cellsB (a ++ b) = cellsB a ++ cellsB b := by simp [cellsB]
theorem cellsB_get (l : List Int) (j : Nat) (h : j < l.length) : (cellsB l)[j]? = some (.int .u8 (l.getD j 0)) := by
  unfold cellsB; rw [List.getElem?_map, List.getElem?_eq_getElem h, List.getD_eq_getElem?_getD, List.getElem?_eq_getElem h]; rfl
theorem cellsB_one (l : List Int) : ∀ u ∈ cellsB l, u.oneCell' = true := by
  intro u hu
  obtain ⟨x, _, rfl⟩ := List.mem_map.1 hu
  rfl
/-- Bytes that lie at an address. -/
def BytesAt (w : World) (ad : Addr) (l : List Int) : Prop := ∀ j, j < l.length → w.cell? (ad.add j) = some (.int .u8 (l.getD j 0))
theorem HL.bytes {w : World} {B : Nat} {ad : Addr} {ls : List (List Int)} (h : HL w B (.some ad) ls) (hs : hashes ls) (i : Nat) (hi : i < ls.length) : BytesAt w (ad.add (i * 32)) (ls.getD i []) := fun j hj => by
  rw [(hashes_at hs i hi).1] at hj
  obtain ⟨ad', e, _, hc⟩ := h i hi
  cases e
  rw [add_of_add]; exact hc j hj
theorem Row.bytes {w : World} {g : Nat} {t : TypeId} {l : List Int} (h : Row w g t (nums .u8 l)) : BytesAt w ⟨g, 0, none⟩ l := fun j hj => by rw [add_flat]; exact h.num hj
/-- Bytes are appended to one's own. -/
theorem wp_appendB {o : Oper} {a : Act} {w : World} {K : Act → World → Prop} {Q : Exit → Act → World → Prop} (s x : Operand) (ho : o.op = .call { callee := .builtin .append, args := #[s, x], argTypes := #[41, 41] })
    (B : Nat) (v : Value) (n : Nat) (bs us : List Int) (hsv : a.eval s = v) (hown : w.ownsRow B 5 1 v n (cellsB bs)) (ad : Addr) (m c : Nat) (hx : a.eval x = .slice (some ad) m c) (hm : us.length = m) (hU : BytesAt w ad us) (hsm : n + m ≤ 100000) (hB : B ≤ w.heap.size)
    (h : ∀ v' w', w'.ownsRow B 5 1 v' (n + m) (cellsB (bs ++ us)) → w.grownBy w' v.ownBlock → K (a.put o.dst v') w') : o.wp Tryd.prog a w K Q := by
  obtain ⟨i0, hi, hz0, hz1, hz2⟩ := info_parts info_byte
  subst hm
  refine wp_append_own _ s x 41 ho B 5 i0 _ 1 1 Tryd.underlying41 hi hz0 hz1 hz2 rfl (by decide) v n (cellsB bs) hsv hown ad us.length c (cellsB us) hx (by rw [cellsB_length, Nat.mul_one]) (fun j u hj => ?_) (cellsB_one us) (by unfold maxLen; omega) (by omega) hB (fun v' w' h1 h2 _ => h v' w' ?_ h2)
  · have hj2 : j < us.length := by
      rcases Nat.lt_or_ge j us.length with h' | h'
      · exact h'
      · rw [List.getElem?_eq_none (by rw [cellsB_length]; exact h')] at hj; cases hj
    rw [cellsB_get us j hj2] at hj
    cases hj
    exact hU j hj2
  · rw [cellsB_app]; exact h1
theorem wpList_appendB {ops : Array Oper} {rest : List Oper} {o : Oper} {a : Act} {w : World} {Q : Exit → Act → World → Prop} (hgd : o.guard = none) (s x : Operand) (ho : o.op = .call { callee := .builtin .append, args := #[s, x], argTypes := #[41, 41] })
    (B : Nat) (v : Value) (n : Nat) (bs us : List Int) (hsv : a.eval s = v) (hown : w.ownsRow B 5 1 v n (cellsB bs)) (ad : Addr) (m c : Nat) (hx : a.eval x = .slice (some ad) m c) (hm : us.length = m) (hU : BytesAt w ad us) (hsm : n + m ≤ 100000) (hB : B ≤ w.heap.size)
    (h : ∀ v' w', w'.ownsRow B 5 1 v' (n + m) (cellsB (bs ++ us)) → w.grownBy w' v.ownBlock → wpList Tryd.prog ops Q rest (a.put o.dst v') w') : wpList Tryd.prog ops Q (o :: rest) a w :=
  wpList_plain hgd fun _ hK => wp_appendB s x ho B v n bs us hsv hown ad m c hx hm hU hsm hB fun v' w' h1 h2 => hK _ _ (h v' w' h1 h2)
/-- One's own bytes as a text. -/
theorem convB {W : World} {B n : Nat} {v : Value} {bs : List Int} (h : W.ownsRow B 5 1 v n (cellsB bs)) (hn : 0 < n) : (convert 41 9 v).run Tryd.prog W = .ok (.string (strOfNums bs)) W := by
  have hl : bs.length = n := by have := h.1; rw [cellsB_length, Nat.mul_one] at this; exact this
  rcases h.2 with ⟨_, h0⟩ | ⟨g, cap, cur, rfl, _⟩
  · omega
  · refine run_convert_bytes_arg W 41 5 Tryd.underlying41 Tryd.underlying5 g 0 n cap bs hl (fun i hi => ?_) 9 Tryd.underlying9
    rw [Nat.zero_add]
    have := h.cells (g := g) rfl i _ (cellsB_get bs i (by omega))
    rwa [add_flat] at this
/-- One's own bytes where they lie. -/
theorem ownB_at {W : World} {B n : Nat} {v : Value} {bs : List Int} (h : W.ownsRow B 5 1 v n (cellsB bs)) (hn : 0 < n) : ∃ g cap, v = .slice (some ⟨g, 0, none⟩) n cap ∧ B ≤ g ∧ g < W.heap.size ∧ n ≤ cap ∧ BytesAt W ⟨g, 0, none⟩ bs := by
  rcases h.2 with ⟨_, h0⟩ | ⟨g, cap, cur, rfl, hB, hg, hc, _⟩
  · omega
  · refine ⟨g, cap, rfl, hB, (Array.getElem?_eq_some_iff.1 hg).1, hc, fun j hj => h.cells (g := g) rfl j _ (cellsB_get bs j hj)⟩
end Go.Proofs.YtllabnhgiojmmaaDoor
