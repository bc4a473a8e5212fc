/-
  The walk of Some (the statements' own leaves, layer 4): so many hashes, in a slice of the call's own. What it makes is new memory; nothing that was there changes.
-/
import Derived.Test.YtkjgkeigfebcmaaDoorTreeCells
import Derived.Great.BuildSlice
namespace Go.Proofs.YtkjgkeigfebcmaaDoor
open Go.RowKit
set_option linter.unusedVariables false
set_option maxRecDepth 100000

/-- Leaf i of a seed. -/
def someH (seed : Int) (i : Nat) : List Int := [seed, (i : Int), 0, 1] ++ List.replicate 28 0
def someN (seed : Int) : Nat → List (List Int)
  | 0 => []
  | k + 1 => someN seed k ++ [someH seed k]
theorem someN_length (seed : Int) (k : Nat) : (someN seed k).length = k := by
  induction k with
  | zero => rfl
  | succ k ih => simp [someN, ih]
theorem someN_hashes (seed : Int) (hs : 0 ≤ seed ∧ seed < 256) (k : Nat) (hk : k ≤ 256) : hashes (someN seed k) := by
  induction k with
  | zero => intro l h; simp [someN] at h
  | succ k ih =>
    intro l h
    simp only [someN, List.mem_append, List.mem_singleton] at h
    rcases h with h | rfl
    · exact ih (by omega) l h
    · refine ⟨by simp [someH], fun x hx => ?_⟩
      simp only [someH, List.mem_append, List.mem_cons, List.not_mem_nil, or_false] at hx
      rcases hx with (rfl | rfl | rfl | rfl) | hx
      · exact hs
      · omega
      · omega
      · omega
      · have := List.eq_of_mem_replicate hx; omega
theorem flat_length {ls : List (List Int)} (h : hashes ls) : ls.flatten.length = 32 * ls.length := by
  induction ls with
  | nil => rfl
  | cons l r ih =>
    rw [List.flatten_cons, List.length_append, ih (fun x hx => h x (by simp [hx])), (h l (by simp)).1, List.length_cons]
    omega
theorem flat_get (ls : List (List Int)) : hashes ls → ∀ i j, i < ls.length → j < 32 → ls.flatten.getD (i * 32 + j) 0 = (ls.getD i []).getD j 0 := by
  induction ls with
  | nil => intro _ i j h; simp at h
  | cons l r ih =>
    intro hs i j hi hj
    have hl := (hs l (by simp)).1
    cases i with
    | zero => simp only [List.flatten_cons, Nat.zero_mul, Nat.zero_add, List.getD_eq_getElem?_getD]; rw [List.getElem?_append_left (by omega)]; rfl
    | succ i =>
      have e : (i + 1) * 32 + j - l.length = i * 32 + j := by omega
      have := ih (fun x hx => hs x (by simp [hx])) i j (by simpa using hi) hj
      simp only [List.getD_eq_getElem?_getD] at this
      simp only [List.flatten_cons, List.getD_eq_getElem?_getD]
      rw [List.getElem?_append_right (by omega), e, this]
      rfl
/-- Hashes as cells. -/
def cellsL (ls : List (List Int)) : List Value := ls.flatten.map (Value.int .u8)
theorem cellsL_snoc (ls : List (List Int)) (l : List Int) : cellsL (ls ++ [l]) = cellsL ls ++ l.map (Value.int .u8) := by simp [cellsL]
theorem cellsL_get {ls : List (List Int)} (hs : hashes ls) (i j : Nat) (hi : i < ls.length) (hj : j < 32) : (cellsL ls)[i * 32 + j]? = some (.int .u8 ((ls.getD i []).getD j 0)) := by
  have hlt : i * 32 + j < ls.flatten.length := by rw [flat_length hs]; omega
  unfold cellsL
  rw [List.getElem?_map, List.getElem?_eq_getElem hlt]
  have := flat_get ls hs i j hi hj
  rw [List.getD_eq_getElem?_getD, List.getElem?_eq_getElem hlt] at this
  simp only [Option.getD_some] at this
  rw [this]
  rfl
/-- A slice of the call's own: k hashes. -/
def OwnL (w wr : World) (v : Value) (k : Nat) (ls : List (List Int)) : Prop := wr.ownsRow w.heap.size 30 32 v k (cellsL ls) ∧ Below w.heap.size w wr
theorem OwnL.lead {w wr : World} {v : Value} {k : Nat} {ls : List (List Int)} (h : OwnL w wr v k ls) (hk : ls.length = k) (hs : hashes ls) : ∃ A c, v = .slice A k c ∧ k ≤ c ∧ HL wr wr.heap.size A ls ∧ (k = 0 ∨ ∃ g, A = some ⟨g, 0, none⟩) := by
  obtain ⟨h1, h2⟩ := h
  rcases h1.2 with ⟨rfl, h0⟩ | ⟨g, cap, cur, rfl, _, hg, h3⟩
  · subst h0
    have : ls = [] := List.eq_nil_of_length_eq_zero hk
    subst this
    exact ⟨none, 0, rfl, Nat.le_refl _, HL.nil _ _ _, .inl rfl⟩
  · refine ⟨_, _, rfl, ?_, fun i hi => ⟨_, rfl, (Array.getElem?_eq_some_iff.1 hg).1, fun j hj => h1.cells (g := g) rfl _ _ (cellsL_get hs i j hi hj)⟩, .inr ⟨g, rfl⟩⟩
    first | exact h3.1 | exact h3.2.1 | omega
theorem own_below {w w' : World} {base size n : Nat} {e : TypeId} {v : Value} {xs : List Value} (h : w.ownsRow base e size v n xs) (hb : Below w.heap.size w w') : w'.ownsRow base e size v n xs := by
  obtain ⟨h1, h2⟩ := h
  refine ⟨h1, ?_⟩
  rcases h2 with h2 | ⟨g, cap, cur, hv, hB, hg, h3⟩
  · exact .inl h2
  · exact .inr ⟨g, cap, cur, hv, hB, (hb.block g (Array.getElem?_eq_some_iff.1 hg).1).trans hg, h3⟩
theorem OwnL.next {w wr w3 w1 : World} {v v' : Value} {k : Nat} {ls : List (List Int)} {l : List Int} {C : Array Value} {t : TypeId} (h : OwnL w wr v k ls) (hb : Below wr.heap.size wr w3)
    (h1 : w1.ownsRow w.heap.size 30 32 v' (k + 1) (cellsL ls ++ l.map (Value.int .u8))) (hg : (w3.alloc (.cells C t)).grownBy w1 v.ownBlock) : OwnL w w1 v' (k + 1) (ls ++ [l]) := by
  refine ⟨by rw [cellsL_snoc]; exact h1, ?_⟩
  have hB := (below_new h.2 hb)
  refine (hB.alloc hB.size _).grown hg (by have := hB.size; simp; omega) (fun g e => ?_)
  rcases h.1.2 with ⟨rfl, _⟩ | ⟨g', cap, cur, rfl, hb', _⟩
  · simp [Value.ownBlock] at e
  · have : g' = g := by simpa [Value.ownBlock] using e
    omega
theorem infoHash : (Tryd.prog.info? 30).map (fun i => (i.zero, i.size, i.bytes)) = some (some (.agg (nums .u8 (List.replicate 32 0))), 32, 32) := by kernel_rfl
theorem fill_one (C cells : Array Value) (hC : C.size = 32) (h : cells.size = 32) : Instr.fill (fun i => some (i * 32, 32)) cells [(0, .agg C)] = some C := by
  obtain ⟨r, hr, hsz, hk⟩ := Great.fill_dense (s := 32) (by omega) [.agg C] 0 cells (fun v hv => by simp at hv; subst hv; exact hC) (by simp; omega)
  have e : ([Value.agg C].zipIdx 0).map (fun x => (x.2, x.1)) = [(0, .agg C)] := rfl
  rw [e] at hr
  rw [hr]
  congr 1
  apply Array.ext_getElem?
  intro k
  rw [hk k]
  by_cases hlt : k < 32
  · rw [if_pos (by simp; omega), show k / 32 - 0 = 0 by omega, Nat.mod_eq_of_lt hlt]
    rfl
  · rw [if_neg (by simp; omega), Array.getElem?_eq_none (by omega), Array.getElem?_eq_none (by omega)]
/-- A slice of one hash, made. -/
theorem wpList_buildOne {ops : Array Oper} {rest : List Oper} {o : Oper} {a : Act} {w : World} {Q : Exit → Act → World → Prop} (hg : o.guard = none) (y : Operand) (ho : o.op = .buildSlice 22 1 #[(0, y)])
    (C : Array Value) (hy : a.eval y = .agg C) (hC : C.size = 32) (h : wpList Tryd.prog ops Q rest (a.put o.dst (.slice (some ⟨w.heap.size, 0, none⟩) 1 1)) (w.alloc (.cells C 30))) : wpList Tryd.prog ops Q (o :: rest) a w := by
  obtain ⟨i0, hi, hz0, hz1, hz2⟩ := info_parts infoHash
  refine wpList_buildSlice hg 22 30 1 _ ho C i0 _ Tryd.underlying22 hi hz0 (by rw [hz1]; decide) (by rw [hz1]; decide) ?_ h
  have e : ((#[(0, y)] : Array (Nat × Operand)).map fun (i, x) => (i, a.eval x)).toList = [(0, .agg C)] := by simp [hy]
  rw [e, hz1]
  exact fill_one C _ hC (by simp)
set_option maxHeartbeats 2000000 in
set_option maxRecDepth 100000 in
theorem some_any (n : Nat) (hn : n ≤ 256) (seed : Int) (hsd : 0 ≤ seed ∧ seed < 256) (w : World) :
    Calls Tryd.prog 13 #[.int .i64 (n : Int), .int .u8 seed] w fun ev w' => (∃ A c, ev = .returned (.slice A n c) ∧ n ≤ c ∧ HL w' w'.heap.size A (someN seed n) ∧ (n = 0 ∨ ∃ g, A = some ⟨g, 0, none⟩)) ∧ Below w.heap.size w w' := by
  obtain ⟨i0, hi, hz0, hz1, hz2⟩ := info_parts infoHash
  have HS := Lib.hid hsd
  clear hsd
  have H0 : Hid (OwnL w w (.slice none 0 0) 0 (someN seed 0)) := Lib.hid ⟨⟨rfl, .inl ⟨rfl, rfl⟩⟩, Below.refl _ _⟩
  go_enter Tryd.func13, Tryd.ntmps13
  go_wp2
  go_loopw [5, 6] (fun s5 s6 wr => ∃ k v, s6 = .int .i64 ((k : Nat) : Int) ∧ v = s5 ∧ k ≤ n ∧ Hid (OwnL w wr v k (someN seed k))) (fun _ s6 _ => (n - intOf s6).toNat)
  case atStart => exact ⟨0, _, rfl, rfl, by omega, H0⟩
  case round =>
    clear H0
    obtain ⟨k, v, rfl, rfl, hk, HH⟩ := hrel
    by_cases hlt : k < n
    · have e0 : (k : Int).tdiv 256 = 0 := by rw [Int.tdiv_eq_ediv_of_nonneg (by omega)]; omega
      have k0 : (0 : Int) ≤ (k : Int) := by omega
      have k1 : (k : Int) < 256 := by omega
      go_wp2_with (first
        | (refine wpList_buildOne rfl _ rfl (nums .u8 (someH seed k)) rfl rfl ?_)
        | (at_builtin; refine wpList_append_own _ rfl (.tmp 12) (.tmp 20) 22 rfl w.heap.size 30 i0 _ 32 32 Tryd.underlying22 hi hz0 hz1 hz2 (by simp [Value.cells, nums]) (by decide) _ _ _ rfl (HH.out.1.alloc _) ⟨wr.heap.size, 0, none⟩ 1 1 ((someH seed k).map (Value.int .u8)) rfl (by simp [someH]) ?cc1 ?cc2 (by unfold maxLen; omega) (by omega) ?cc5 ?_))
      case cc1 =>
        intro j u hj
        rw [add_flat, cell_of_row _ wr.heap.size j _ _ _ (heap_alloc_new wr _)]
        simpa [nums] using hj
      case cc2 =>
        intro u hu
        obtain ⟨z, _, rfl⟩ := List.mem_map.1 hu
        rfl
      case cc5 => have := HH.out.2.size; simp; omega
      intro v' w4 hown hgrow _
      have HN : Hid (OwnL w w4 v' (k + 1) (someN seed (k + 1))) := Lib.hid (HH.out.next (Below.refl _ _) hown hgrow)
      clear hown hgrow
      go_wp2
      go_roundw
      case rel => exact ⟨k + 1, _, by go_num, rfl, by omega, HN⟩
      case measure => simp [intOf]; omega
    · have hk9 : Hid (k = n) := Lib.hid (by omega)
      obtain ⟨A, c, hv, hc, hA, hg⟩ : ∃ A c, Hid (v = .slice A n c) ∧ Hid (n ≤ c) ∧ Hid (HL wr wr.heap.size A (someN seed n)) ∧ Hid (n = 0 ∨ ∃ g, A = some ⟨g, 0, none⟩) := by
        obtain ⟨A, c, e1, e2, e3, e4⟩ := HH.out.lead (someN_length _ _) (someN_hashes seed HS.out k (by omega))
        rw [hk9.out] at e1 e2 e3 e4
        exact ⟨A, c, Lib.hid e1, Lib.hid e2, Lib.hid e3, Lib.hid e4⟩
      go_wp2
      go_ret
      exact ⟨⟨A, c, congrArg Ending.returned hv.out, hc.out, hA.out, hg.out⟩, HH.out.2⟩
end Go.Proofs.YtkjgkeigfebcmaaDoor
