/-
  Lists of hashes in memory, more of it: what the call's own slices hold, a hash put behind, a block that is made, a literal. Shared by the layers from 5 on.
-/
import Derived.Test.YtllabnhgiojmmaaDoorOwnList
import Derived.Test.YtllabnhgiojmmaaDoorFork
namespace Go.Proofs.YtllabnhgiojmmaaDoor
open Go.RowKit Go.Great
set_option linter.unusedVariables false
set_option maxRecDepth 100000

theorem nodeL_is (a b : List Int) : (nodeL a b).length = 32 ∧ bytes (nodeL a b) := ⟨sumL_length _, sumL_bytes _⟩
theorem hashes_snoc {hs : List (List Int)} {x : List Int} (h : hashes hs) (hx : x.length = 32 ∧ bytes x) : hashes (hs ++ [x]) := by
  intro l hl
  rcases List.mem_append.1 hl with hl | hl
  · exact h l hl
  · rw [List.mem_singleton.1 hl]; exact hx
theorem hashes_app {a b : List (List Int)} (ha : hashes a) (hb : hashes b) : hashes (a ++ b) := by
  intro l hl
  rcases List.mem_append.1 hl with hl | hl
  · exact ha l hl
  · exact hb l hl
theorem OwnL.start (w : World) : OwnL w w (.slice none 0 0) 0 [] := ⟨⟨rfl, .inl ⟨rfl, rfl⟩⟩, Below.refl _ _⟩
theorem OwnL.lead2 {w wr : World} {v : Value} {ls : List (List Int)} (h : OwnL w wr v ls.length ls) (hs : hashes ls) : ∃ A c, v = .slice A ls.length c ∧ ls.length ≤ c ∧ c ≤ maxLen ∧ HL wr wr.heap.size A ls := by
  obtain ⟨h1, h2⟩ := h
  rcases h1.2 with ⟨rfl, h0⟩ | ⟨g, cap, cur, rfl, _, hg, h3⟩
  · have : ls = [] := List.eq_nil_of_length_eq_zero h0
    subst this
    exact ⟨none, 0, rfl, Nat.le_refl _, by decide, HL.nil _ _ _⟩
  · exact ⟨_, _, rfl, h3.1, h3.2.1, fun i hi => ⟨_, rfl, (Array.getElem?_eq_some_iff.1 hg).1, fun j hj => h1.cells (g := g) rfl _ _ (cellsL_get hs i j hi hj)⟩⟩
theorem HL.rest {w : World} {B : Nat} {ad : Addr} {ls : List (List Int)} (h : HL w B (.some ad) ls) (c n : Nat) (hc : ls.length ≤ c) : HL w B (if c = n then Option.some ad else Option.some (ad.add (n * 32))) (ls.drop n) := by
  split
  · rename_i e
    rw [List.drop_of_length_le (by omega)]; exact HL.nil _ _ _
  · exact h.drop n
theorem cellsL_length {ls : List (List Int)} (h : hashes ls) : (cellsL ls).length = ls.length * 32 := by
  unfold cellsL; rw [List.length_map, flat_length h, Nat.mul_comm]
theorem cellsL_one (ls : List (List Int)) : ∀ u ∈ cellsL ls, u.oneCell' = true := by
  intro u hu
  obtain ⟨x, _, rfl⟩ := List.mem_map.1 hu
  rfl
/-- What lies at an address, as cells. -/
theorem HL.cells {w : World} {B : Nat} {ad : Addr} {ls : List (List Int)} (h : HL w B (.some ad) ls) (hs : hashes ls) (k : Nat) (u : Value) (hu : (cellsL ls)[k]? = Option.some u) : w.cell? (ad.add k) = Option.some u := by
  have hk : k < ls.length * 32 := by rw [← cellsL_length hs]; exact (List.getElem?_eq_some_iff.1 hu).1
  obtain ⟨ad', e, _, hc⟩ := h (k / 32) (by omega)
  cases e
  have e1 := hc (k % 32) (by omega)
  have e2 := cellsL_get hs (k / 32) (k % 32) (by omega) (by omega)
  rw [show k / 32 * 32 + k % 32 = k by omega] at e1 e2
  rw [e1, ← e2, hu]
theorem cellsL_app (a b : List (List Int)) : cellsL (a ++ b) = cellsL a ++ cellsL b := by simp [cellsL]
theorem cellsL_take {ls : List (List Int)} (h : hashes ls) (k : Nat) (hk : k ≤ ls.length) : (cellsL ls).take (k * 32) = cellsL (ls.take k) := by
  have hl := cellsL_length (hashes_take h k)
  rw [List.length_take, Nat.min_eq_left hk] at hl
  conv => lhs; rw [← List.take_append_drop k ls]
  rw [cellsL_app, ← hl]
  exact List.take_left
theorem own_take {w : World} {B : Nat} {A : Option Addr} {c : Nat} {hs : List (List Int)} (h : w.ownsRow B 24 32 (.slice A hs.length c) hs.length (cellsL hs)) (hh : hashes hs) (k : Nat) (hk : k ≤ hs.length) :
    w.ownsRow B 24 32 (.slice A k c) k (cellsL (hs.take k)) := by
  obtain ⟨h1, h2⟩ := h
  refine ⟨by rw [cellsL_length (hashes_take hh k), List.length_take, Nat.min_eq_left hk], ?_⟩
  rcases h2 with ⟨hv, h0⟩ | ⟨g, cap, cur, hv, hB, hg, h3, h4, h5, h6⟩
  · obtain ⟨e1, e2, e3⟩ : A = none ∧ hs.length = 0 ∧ c = 0 := by simpa using hv
    subst e1 e3
    exact .inl ⟨by rw [show k = 0 by omega], by omega⟩
  · cases hv
    refine .inr ⟨g, c, cur, rfl, hB, hg, by omega, h4, h5, ?_⟩
    rw [← cellsL_take hh k hk, ← h6, List.take_take, Nat.min_eq_left (Nat.mul_le_mul_right _ hk)]
theorem own_some {w : World} {B : Nat} {A : Option Addr} {c n : Nat} {xs : List Value} {e : TypeId} (h : w.ownsRow B e 32 (.slice A n c) n xs) : n ≤ c ∧ c ≤ 9223372036854775807 ∧ (A = none ∧ n = 0 ∨ ∃ g, A = some ⟨g, 0, none⟩ ∧ B ≤ g ∧ g < w.heap.size) := by
  rcases h.2 with ⟨hv, h0⟩ | ⟨g, cap, cur, hv, hB, hg, h3, h4, _⟩
  · cases hv; exact ⟨by omega, by omega, .inl ⟨rfl, h0⟩⟩
  · cases hv
    unfold maxLen at h4
    exact ⟨h3, by omega, .inr ⟨g, rfl, hB, (Array.getElem?_eq_some_iff.1 hg).1⟩⟩
theorem own_HL {w : World} {B : Nat} {A : Option Addr} {c : Nat} {hs : List (List Int)} (h : w.ownsRow B 24 32 (.slice A hs.length c) hs.length (cellsL hs)) (hh : hashes hs) : HL w w.heap.size A hs := by
  rcases h.2 with ⟨hv, h0⟩ | ⟨g, cap, cur, hv, hB, hg, _⟩
  · rw [List.eq_nil_of_length_eq_zero h0]; exact HL.nil _ _ _
  · cases hv
    exact fun i hi => ⟨_, rfl, (Array.getElem?_eq_some_iff.1 hg).1, fun j hj => h.cells (g := g) rfl _ _ (cellsL_get hh i j hi hj)⟩
theorem grown_of_below {w w' : World} (h : Below w.heap.size w w') (r : Option Nat) : w.grownBy w' r := ⟨h.os, h.tape, h.output, h.size, fun k hk _ => h.block k hk⟩
theorem grown_trans {w w1 w2 : World} {r : Option Nat} (h : w.grownBy w1 r) (h2 : w1.grownBy w2 r) : w.grownBy w2 r :=
  ⟨h2.os.trans h.os, h2.tape.trans h.tape, h2.output.trans h.output, Nat.le_trans h.size h2.size, fun k hk hne => (h2.block k (Nat.lt_of_lt_of_le hk h.size) hne).trans (h.block k hk hne)⟩
theorem then_gen {K : Act → World → Prop} {Q : Exit → Act → World → Prop} {a : Act} {w0 : World} (R : World → Prop) (hR : R w0) (h : ∀ wx, R wx → Exit.then K Q Exit.normal a wx) : Exit.then K Q Exit.normal a w0 := h _ hR
theorem wp_buildOne {o : Oper} {a : Act} {w : World} {K : Act → World → Prop} {Q : Exit → Act → World → Prop} (y : Operand) (ho : o.op = .buildSlice 33 1 #[(0, y)])
    (C : Array Value) (hy : a.eval y = .agg C) (hC : C.size = 32) (h : K (a.put o.dst (.slice (some ⟨w.heap.size, 0, none⟩) 1 1)) (w.alloc (.cells C 24))) : o.wp Tryd.prog a w K Q := by
  obtain ⟨i0, hi, hz0, hz1, hz2⟩ := info_parts infoHash
  refine wp_buildSlice 33 24 1 _ ho C i0 _ Tryd.underlying33 hi hz0 (by rw [hz1]; decide) (by rw [hz1]; decide) ?_ h
  have e : ((#[(0, y)] : Array (Nat × Operand)).map fun (i, x) => (i, a.eval x)).toList = [(0, .agg C)] := by simp [hy]
  rw [e, hz1]
  exact fill_one C _ hC (by simp)
theorem Row.grown {w w' : World} {g : Nat} {t : TypeId} {cs : Array Value} {r : Option Nat} (h : Row w g t cs) (hg : w.grownBy w' r) (hne : some g ≠ r) : Row w' g t cs := (hg.block g h.lt hne).trans h
theorem cellsL_snoc' {R ls : List (List Int)} {y : List Int} (h : R = ls ++ [y]) : cellsL ls ++ y.map (Value.int .u8) = cellsL R := by rw [h, cellsL_snoc]
theorem ownBlock_any (A : Option Addr) (n k c d : Nat) : (Value.slice A n c).ownBlock = (Value.slice A k d).ownBlock := by cases A <;> rfl
theorem own_far {w : World} {B e size n g : Nat} {t : TypeId} {v : Value} {xs : List Value} {cs : Array Value} (h : w.ownsRow B e size v n xs) (hr : Row w g t cs) (hne : e ≠ t) (W : World) (hk : ∀ b, b ≠ g → W.heap[b]? = w.heap[b]?) : W.ownsRow B e size v n xs := by
  refine ⟨h.1, ?_⟩
  rcases h.2 with h2 | ⟨b, cap, cur, hv, hB, hb, h3⟩
  · exact .inl h2
  · refine .inr ⟨b, cap, cur, hv, hB, (hk b ?_).trans hb, h3⟩
    rintro rfl
    unfold Row at hr
    rw [hr] at hb
    simp at hb
    exact hne hb.2.symm
theorem own_form {w : World} {B n : Nat} {v : Value} {xs : List Value} {e : TypeId} (h : w.ownsRow B e 32 v n xs) : ∃ A c, v = .slice A n c := by
  rcases h.2 with ⟨rfl, rfl⟩ | ⟨g, cap, cur, rfl, _⟩
  · exact ⟨none, 0, rfl⟩
  · exact ⟨_, _, rfl⟩
theorem own_base {w : World} {B B' e size n : Nat} {v : Value} {xs : List Value} (h : w.ownsRow B e size v n xs) (hB : B' ≤ B) : w.ownsRow B' e size v n xs := by
  refine ⟨h.1, ?_⟩
  rcases h.2 with h2 | ⟨b, cap, cur, hv, hb, h3⟩
  · exact .inl h2
  · exact .inr ⟨b, cap, cur, hv, by omega, h3⟩
theorem own_at {w W : World} {B e size n : Nat} {v : Value} {xs : List Value} (h : w.ownsRow B e size v n xs) (hk : ∀ b, B ≤ b → b < w.heap.size → W.heap[b]? = w.heap[b]?) : W.ownsRow B e size v n xs := by
  refine ⟨h.1, ?_⟩
  rcases h.2 with h2 | ⟨b, cap, cur, hv, hb, hg, h3⟩
  · exact .inl h2
  · exact .inr ⟨b, cap, cur, hv, hb, (hk b hb (Array.getElem?_eq_some_iff.1 hg).1).trans hg, h3⟩
theorem own_ne {w : World} {B1 B2 e1 e2 s1 s2 n1 n2 : Nat} {v1 v2 : Value} {x1 x2 : List Value} (h1 : w.ownsRow B1 e1 s1 v1 n1 x1) (h2 : w.ownsRow B2 e2 s2 v2 n2 x2) (hne : e1 ≠ e2) : v1.ownBlock = none ∨ v1.ownBlock ≠ v2.ownBlock := by
  rcases h1.2 with ⟨rfl, _⟩ | ⟨b, _, _, rfl, _, hb, _⟩
  · exact .inl rfl
  · refine .inr ?_
    rcases h2.2 with ⟨rfl, _⟩ | ⟨b', _, _, rfl, _, hb', _⟩
    · intro h; cases h
    · intro h
      have e : b = b' := by simpa [Value.ownBlock] using h
      subst e
      rw [hb] at hb'
      simp at hb'
      exact hne hb'.2
theorem HL.from {w wr : World} {A : Option Addr} {ls : List (List Int)} (h : HL w w.heap.size A ls) (hb : Below w.heap.size w wr) : HL wr wr.heap.size A ls := (h.next hb (Nat.le_refl _)).more hb.size
theorem results_row2 {P : Program} {fn : Func} {p u : Tmp} {ty : TypeId} (h : fn.results = #[.cell p ty, .tmp u]) (tmps : Array Value) (w : World) (g : Nat) (t : TypeId) (cs : Array Value) (fr : Nat × Nat) (d : TypeDesc)
    (hp : tmps.getD p undef = .pointer (some ⟨g, 0, none⟩)) (hg : w.heap[g]? = some (.cells cs t fr))
    (hu : P.underlying ty = some d) (hd : (match d with | .struct _ | .array _ _ => true | _ => false) = true) (hi : (P.info? ty).map (·.size) = some cs.size) (v : Value) (hv : tmps.getD u undef = v) :
    (results fn tmps).run P w = .ok (.tuple #[.agg cs, v]) w := by
  rw [results_cell_tmp h, hp, hv]
  simp [asAddr, run_loadVar_row w g t ty cs fr d hg hu hd hi, Result.andThen]
/-- A hash into a block that is made for it. -/
theorem made_write (w1 : World) (L : Array Value) (hL : L.size = 32) (oL : L.all (·.oneCell') = true) : ∃ w2, (writeAt (.pointer (some ⟨w1.heap.size, 0, none⟩)) (.agg L)).run Tryd.prog (w1.alloc (.cells #[.int .u8 0, .int .u8 0, .int .u8 0, .int .u8 0, .int .u8 0, .int .u8 0, .int .u8 0, .int .u8 0, .int .u8 0, .int .u8 0, .int .u8 0, .int .u8 0, .int .u8 0, .int .u8 0, .int .u8 0, .int .u8 0, .int .u8 0, .int .u8 0, .int .u8 0, .int .u8 0, .int .u8 0, .int .u8 0, .int .u8 0, .int .u8 0, .int .u8 0, .int .u8 0, .int .u8 0, .int .u8 0, .int .u8 0, .int .u8 0, .int .u8 0, .int .u8 0] 24)) = .ok () w2 ∧ Row w2 w1.heap.size 24 L ∧ Below w1.heap.size w1 w2 ∧ w2.heap.size = w1.heap.size + 1 := by
  refine ⟨(w1.alloc (.cells (nums .u8 (List.replicate 32 0)) 24)).setRow w1.heap.size L, ?_, (Row.made _ _ _).whole _, below_setRow ((Below.refl _ _).alloc (Nat.le_refl _) _) (Nat.le_refl _), by simp⟩
  exact (Row.made w1 24 (nums .u8 (List.replicate 32 0))).write (by rw [nums_size]; simp) hL oL
/-- The same, where the order was drawn. -/
theorem made_writeD (w1 : World) (L : Array Value) (hL : L.size = 32) (oL : L.all (·.oneCell') = true) : ∃ w2, (writeAt (.pointer (some ⟨w1.heap.size, 0, none⟩)) (.agg L)).run Tryd.prog ((w1.alloc (.cells #[.int .u8 0, .int .u8 0, .int .u8 0, .int .u8 0, .int .u8 0, .int .u8 0, .int .u8 0, .int .u8 0, .int .u8 0, .int .u8 0, .int .u8 0, .int .u8 0, .int .u8 0, .int .u8 0, .int .u8 0, .int .u8 0, .int .u8 0, .int .u8 0, .int .u8 0, .int .u8 0, .int .u8 0, .int .u8 0, .int .u8 0, .int .u8 0, .int .u8 0, .int .u8 0, .int .u8 0, .int .u8 0, .int .u8 0, .int .u8 0, .int .u8 0, .int .u8 0] 24)).drew) = .ok () w2 ∧ Row w2 w1.heap.size 24 L ∧ Below w1.heap.size w1 w2 ∧ w2.heap.size = w1.heap.size + 1 := by
  obtain ⟨w2, h1, h2, h3, h4⟩ := made_write w1.drew L hL oL
  exact ⟨w2, h1, h2, (Below.refl w1.heap.size w1).drew.trans h3, h4⟩
/-- A list of hashes in a world's memory. -/
def HW (w : World) (A : Option Addr) (ls : List (List Int)) : Prop := HL w w.heap.size A ls
theorem HW.next {w w1 : World} {A : Option Addr} {ls : List (List Int)} (h : HW w A ls) (hb : Below w.heap.size w w1) : HW w1 A ls := HL.from h hb
/-- A slice literal of hashes. -/
theorem wp_buildL {o : Oper} {a : Act} {w : World} {K : Act → World → Prop} {Q : Exit → Act → World → Prop} (n : Nat) (parts : Array (Nat × Operand)) (ho : o.op = .buildSlice 33 n parts)
    (ls : List (List Int)) (hs : hashes ls) (hn : n = ls.length) (h0 : 0 < n) (hsm : n ≤ 1000)
    (hp : (parts.toList.map fun (i, x) => (i, a.eval x)) = ((ls.map fun l => Value.agg (nums .u8 l)).zipIdx 0).map fun x => (x.2, x.1))
    (h : ∀ W, HW W (some ⟨w.heap.size, 0, none⟩) ls → Below w.heap.size w W → K (a.put o.dst (.slice (some ⟨w.heap.size, 0, none⟩) n n)) W) : o.wp Tryd.prog a w K Q := by
  obtain ⟨i0, hi, hz0, hz1, hz2⟩ := info_parts infoHash
  subst hn
  have hcs : ((Array.range (ls.length * 32)).map ((Value.agg (nums .u8 (List.replicate 32 0))).cells[· % (Value.agg (nums .u8 (List.replicate 32 0))).cells.size]!)).size = ls.length * 32 := by simp
  obtain ⟨r, hr, hsz, hk⟩ := Great.fill_dense (s := 32) (by omega) (ls.map fun l => Value.agg (nums .u8 l)) 0 ((Array.range (ls.length * 32)).map ((Value.agg (nums .u8 (List.replicate 32 0))).cells[· % (Value.agg (nums .u8 (List.replicate 32 0))).cells.size]!))
    (fun v hv => by obtain ⟨l, hl, rfl⟩ := List.mem_map.1 hv; show (nums .u8 l).size = 32; rw [nums_size]; exact (hs l hl).1) (by rw [hcs]; simp)
  refine wp_buildSlice 33 24 ls.length parts ho r i0 _ Tryd.underlying33 hi hz0 (by rw [hz1]; omega) (by rw [hz1]; omega) ?_ (h _ ?_ ((Below.refl _ _).alloc (Nat.le_refl _) _))
  · rw [Array.toList_map, hp, hz1]; exact hr
  · intro i hi2
    refine ⟨_, rfl, by simp, fun j hj => ?_⟩
    rw [add_flat, cell_of_row _ w.heap.size _ r 24 (0, 0) (heap_alloc_new w _), hk, if_pos ⟨by omega, by rw [List.length_map]; omega⟩]
    have e1 : (i * 32 + j) / 32 - 0 = i := by omega
    have e2 : (i * 32 + j) % 32 = j := by omega
    rw [e1, e2, List.getElem?_map, List.getElem?_eq_getElem hi2]
    show (nums .u8 ls[i])[j]? = _
    rw [nums_get .u8 ls[i] j (by rw [(hs _ (List.getElem_mem hi2)).1]; exact hj), List.getD_eq_getElem?_getD (l := ls), List.getElem?_eq_getElem hi2]
    rfl
theorem HL.row {W : World} {g : Nat} {y : List Int} (h : Row W g 24 (nums .u8 y)) (hy : y.length = 32) : HL W W.heap.size (.some ⟨g, 0, none⟩) [y] := by
  intro i hi
  have e : i = 0 := by simp at hi; omega
  subst e
  refine ⟨_, rfl, h.lt, fun j hj => ?_⟩
  rw [add_flat, show 0 * 32 + j = j by omega, h.cell, nums_get .u8 y j (by omega)]
  rfl
/-- Hashes are appended to one's own. -/
theorem wp_appendH {o : Oper} {a : Act} {w : World} {K : Act → World → Prop} {Q : Exit → Act → World → Prop} (s x : Operand) (ho : o.op = .call { callee := .builtin .append, args := #[s, x], argTypes := #[33, 33] })
    (B : Nat) (v : Value) (n : Nat) (hs us : List (List Int)) (hsv : a.eval s = v) (hown : w.ownsRow B 24 32 v n (cellsL hs)) (ad : Addr) (m c : Nat) (hx : a.eval x = .slice (some ad) m c) (hm : m = us.length) (hu : hashes us) (hU : HL w w.heap.size (some ad) us) (hsm : n + m ≤ 8192) (hB : B ≤ w.heap.size)
    (h : ∀ v' w', w'.ownsRow B 24 32 v' (n + m) (cellsL (hs ++ us)) → w.grownBy w' v.ownBlock → K (a.put o.dst v') w') : o.wp Tryd.prog a w K Q := by
  obtain ⟨i0, hi, hz0, hz1, hz2⟩ := info_parts infoHash
  subst hm
  refine wp_append_own _ s x 33 ho B 24 i0 _ 32 32 Tryd.underlying33 hi hz0 hz1 hz2 (by simp [Value.cells, nums]) (by decide) v n (cellsL hs) hsv hown ad us.length c (cellsL us) hx (cellsL_length hu) (fun j u hj => hU.cells hu j u hj) (cellsL_one us) (by unfold maxLen; omega) (by omega) hB (fun v' w' h1 h2 _ => h v' w' ?_ h2)
  rw [cellsL_app]; exact h1
theorem wpList_appendH {ops : Array Oper} {rest : List Oper} {o : Oper} {a : Act} {w : World} {Q : Exit → Act → World → Prop} (hgd : o.guard = none) (s x : Operand) (ho : o.op = .call { callee := .builtin .append, args := #[s, x], argTypes := #[33, 33] })
    (B : Nat) (v : Value) (n : Nat) (hs us : List (List Int)) (hsv : a.eval s = v) (hown : w.ownsRow B 24 32 v n (cellsL hs)) (ad : Addr) (m c : Nat) (hx : a.eval x = .slice (some ad) m c) (hm : m = us.length) (hu : hashes us) (hU : HL w w.heap.size (some ad) us) (hsm : n + m ≤ 8192) (hB : B ≤ w.heap.size)
    (h : ∀ v' w', w'.ownsRow B 24 32 v' (n + m) (cellsL (hs ++ us)) → w.grownBy w' v.ownBlock → wpList Tryd.prog ops Q rest (a.put o.dst v') w') : wpList Tryd.prog ops Q (o :: rest) a w :=
  wpList_plain hgd fun _ hK => wp_appendH s x ho B v n hs us hsv hown ad m c hx hm hu hU hsm hB fun v' w' h1 h2 => hK _ _ (h v' w' h1 h2)
/-- Hashes and an error are returned. -/
def GivesL (w : World) (r : List (List Int) × Int) (e : Ending) (w' : World) : Prop :=
  ∃ A c, e = .returned (.tuple #[.slice A r.1.length c, .int .i64 r.2]) ∧ r.1.length ≤ c ∧ c ≤ maxLen ∧ HL w' w'.heap.size A r.1 ∧ Below w.heap.size w w'
end Go.Proofs.YtllabnhgiojmmaaDoor
