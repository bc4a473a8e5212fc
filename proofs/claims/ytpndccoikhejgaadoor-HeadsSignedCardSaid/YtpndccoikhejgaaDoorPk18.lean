/-
  Several texts in one (a claim has room for 60 files): TreeRefRoot, ForkB, PathReverse.
-/
import Derived.Test.YtpndccoikhejgaaDoorPk17
import Derived.Test.YtpndccoikhejgaaDoorPk04
import Derived.Test.YtpndccoikhejgaaDoorPk15
import Derived.Test.YtpndccoikhejgaaDoorPk05
import Derived.Deep.MidRow
namespace Go.Proofs.YtpndccoikhejgaaDoor
open Go.RowKit
set_option linter.unusedVariables false
set_option maxRecDepth 100000

/-- What the document's Root holds: its result, its list. -/
structure RefH (w wr : World) (A : Option Addr) (ls : List (List Int)) : Prop where
  out : Row wr w.heap.size 23 (nums .u8 (List.replicate 32 0))
  hl : HL wr w.heap.size A ls
  below : Below w.heap.size w wr
theorem RefH.next {w wr w1 : World} {A : Option Addr} {ls : List (List Int)} (h : RefH w wr A ls) (hb : Below wr.heap.size wr w1) : RefH w w1 A ls :=
  ⟨h.out.next hb, h.hl.next hb h.below.size, below_new h.below hb⟩
theorem RefH.drew {w wr : World} {A : Option Addr} {ls : List (List Int)} (h : RefH w wr A ls) : RefH w wr.drew A ls := ⟨h.out.drew, h.hl, h.below.drew⟩
theorem RefH.start {w : World} {A : Option Addr} {ls : List (List Int)} (h : HL w w.heap.size A ls) : RefH w (w.alloc (.cells (nums .u8 (List.replicate 32 0)) 23)) A ls :=
  ⟨Row.made _ _ _, h.next ((Below.refl _ _).alloc (Nat.le_refl _) _) (Nat.le_refl _), (Below.refl _ _).alloc (Nat.le_refl _) _⟩
attribute [local go_sem ↓ high] read_at write_at
end Go.Proofs.YtpndccoikhejgaaDoor
namespace Go.Proofs.YtpndccoikhejgaaDoor
open Go
set_option linter.unusedVariables false

section
variable {P : Program} {ops : Array Oper} {Q : Exit → Act → World → Prop} {S T : World → Prop} {md : Region.Mode} {b : Nat}
/-- Both conditions, as far as they are asked. -/
def Cond (S T : World → Prop) (b : Nat) (l : Array Bool) (w : World) : Prop := S w ∧ (l.getD b false = false → T w)
def wpAnyG (P : Program) (md : Region.Mode) (ops : Array Oper) (Q : Exit → Act → World → Prop) (S T : World → Prop) (b : Nat) : Nat → Array Bool → Act → World → Prop
  | 0, l, a, w => Region.ready md ops l = [] ∧ Q .normal a w
  | n + 1, l, a, w => (Region.ready md ops l = [] → Q .normal a w) ∧ ∀ i ∈ Region.ready md ops l, wpOp P ops Q i (fun a' w' => Cond S T b (l.setIfInBounds i true) w' ∧ wpAnyG P md ops Q S T b n (l.setIfInBounds i true) a' w') a w
theorem wpAny_of_G : ∀ (n : Nat) (l : Array Bool) (a : Act) (w : World), wpAnyG P md ops Q S T b n l a w → wpAny P md ops Q n l a w
  | 0, _, _, _, h => h
  | n + 1, _, _, _, h => ⟨h.1, fun i hi => wpOp_mono (fun a' w' h' => wpAny_of_G n _ a' w' h'.2) (h.2 i hi)⟩
theorem getD_false_ne (l : Array Bool) (i b : Nat) (h : i ≠ b) : (l.setIfInBounds i true).getD b false = l.getD b false := by
  simp [Array.getD_eq_getD_getElem?, Array.getElem?_setIfInBounds_ne h]
theorem wpAnyG_first {U : World → Prop} {G : Array Bool → Prop} {i : Nat} {oi : Oper} {v : Value} (hib : i ≠ b) (hi : ops[i]? = some oi) (hsel : ∀ (j : Nat) (o : Oper) cs d, ops[j]? = some o → o.op ≠ .select cs d)
    (hQ : ∀ c a w, Q (.panic c) (a.put oi.dst v) w → Q (.panic c) a w) (hU : ∀ l w, G l → Cond S T b l w → U w)
    (hG : ∀ l j, G l → i ∈ Region.ready md ops l → j ∈ Region.ready md ops l → j ≠ i → G (l.setIfInBounds j true)) :
    ∀ (n : Nat) (l : Array Bool) (a : Act) (w : World),
      (∀ j oj, ops[j]? = some oj → j ≠ i → l.getD j true = false → (∀ e ∈ oj.after, Region.binds md e = true → e.on ≠ i) → oi.apart ops oj = true) →
      i ∈ Region.ready md ops l → G l → YieldsIf P ops U oi v a → Cond S T b l w →
      wpAnyG P md ops Q S T b n (l.setIfInBounds i true) (a.put oi.dst v) w → wpAnyG P md ops Q S T b (n + 1) l a w := by
  intro n
  induction n with
  | zero =>
    intro l a w _ hr hg hy hS H
    refine ⟨fun h => (by rw [h] at hr; cases hr), fun j hj => ?_⟩
    by_cases hji : j = i
    · subst hji; exact hy.wpOp hi (hU l w hg hS) ⟨⟨hS.1, fun h => hS.2 (by rw [← getD_false_ne l j b hib]; exact h)⟩, H⟩
    · have := ready_mono hj hji
      rw [H.1] at this
      cases this
  | succ n ih =>
    intro l a w hfree hr hg hy hS H
    refine ⟨fun h => (by rw [h] at hr; cases hr), fun j hj => ?_⟩
    by_cases hji : j = i
    · subst hji; exact hy.wpOp hi (hU l w hg hS) ⟨⟨hS.1, fun h => hS.2 (by rw [← getD_false_ne l j b hib]; exact h)⟩, H⟩
    · have h1 := H.2 j (ready_mono hj hji)
      obtain ⟨hjun, oj, hoj, hall⟩ := mem_ready.1 hj
      have hnot : ∀ e ∈ oj.after, Region.binds md e = true → e.on ≠ i := fun e he hb heq => by
        have h2 := hall e he hb
        have h0 := (mem_ready.1 hr).1
        rw [heq] at h2
        rcases Nat.lt_or_ge i l.size with h' | h'
        · simp [h'] at h0 h2; rw [h0] at h2; cases h2
        · simp [Array.getElem?_eq_none h'] at h2
      have h2 := wpOp_putIf hoj (hfree j oj hoj hji hjun hnot) (fun cs d => hsel i oi cs d hi) (fun cs d => hsel j oj cs d hoj) hQ hy h1
      have hfree' : ∀ k ok, ops[k]? = some ok → k ≠ i → (l.setIfInBounds j true).getD k true = false → (∀ e ∈ ok.after, Region.binds md e = true → e.on ≠ i) → oi.apart ops ok = true := fun k ok hk hki hun hno => by
        refine hfree k ok hk hki ?_ hno
        by_cases hjk : j = k
        · subst hjk; exact hjun
        · rw [getD_set_ne true hjk] at hun; exact hun
      refine wpOp_mono (fun a' w' h3 => ?_) h2
      have hc : Cond S T b (l.setIfInBounds j true) w' := ⟨h3.2.1.1, fun h => h3.2.1.2 (by rw [Array.setIfInBounds_comm _ _ (Ne.symm hji), getD_false_ne _ i b hib]; exact h)⟩
      exact ⟨hc, ih (l.setIfInBounds j true) a' w' hfree' (ready_mono hr (Ne.symm hji)) (hG l j hg hr hj hji) h3.1 hc (by rw [Array.setIfInBounds_comm _ _ hji]; exact h3.2.2)⟩
/-- Does b wait for i? -/
def waitsB (md : Region.Mode) (ops : Array Oper) (b i : Nat) : Bool := match ops[b]? with
  | some o => o.after.any fun e => Region.binds md e && e.on == i
  | none => false
theorem early_keeps {i : Nat} (hw : waitsB md ops b i = true) (l : Array Bool) (j : Nat) (hg : l.getD b false = false) (hi : i ∈ Region.ready md ops l) (hj : j ∈ Region.ready md ops l) : (l.setIfInBounds j true).getD b false = false := by
  have hjb : j ≠ b := by
    rintro rfl
    obtain ⟨_, oj, hoj, hall⟩ := mem_ready.1 hj
    unfold waitsB at hw
    rw [hoj] at hw
    simp only [Array.any_eq_true'] at hw
    obtain ⟨e, he, hb⟩ := hw
    simp only [Bool.and_eq_true, beq_iff_eq] at hb
    have h1 := hall e he hb.1
    rw [hb.2] at h1
    have h0 := (mem_ready.1 hi).1
    rcases Nat.lt_or_ge i l.size with h' | h'
    · simp [h'] at h0 h1; rw [h0] at h1; cases h1
    · simp [Array.getElem?_eq_none h'] at h1
  rw [getD_false_ne l j b hjb]; exact hg
/-- An order: 0 what reads under the first condition, 1 under both, 2 what turns the world ahead of b, 3 from b on. -/
def okSq (md : Region.Mode) (ops : Array Oper) (b : Nat) : List (Nat × Nat) → Array Bool → Bool
  | [], l => (Region.ready md ops l).isEmpty
  | (0, i) :: s, l => (Region.free md ops l i && (Region.ready md ops l).contains i && decide (i ≠ b)) && okSq md ops b s (l.setIfInBounds i true)
  | (1, i) :: s, l => (Region.free md ops l i && (Region.ready md ops l).contains i && decide (i ≠ b) && waitsB md ops b i && (l.getD b false == false)) && okSq md ops b s (l.setIfInBounds i true)
  | (2, i) :: s, l => (Region.ready md ops l == [i]) && okSq md ops b s (l.setIfInBounds i true)
  | (_, i) :: s, l => (Region.ready md ops l == [i] && (l.setIfInBounds i true).getD b false) && okSq md ops b s (l.setIfInBounds i true)
def wpSq (P : Program) (ops : Array Oper) (Q : Exit → Act → World → Prop) (S T : World → Prop) : List (Nat × Nat) → Act → World → Prop
  | [], a, w => Q .normal a w
  | (0, i) :: s, a, w => ∃ o v, ops[i]? = some o ∧ YieldsIf P ops S o v a ∧ wpSq P ops Q S T s (a.put o.dst v) w
  | (1, i) :: s, a, w => ∃ o v, ops[i]? = some o ∧ YieldsIf P ops (fun w => S w ∧ T w) o v a ∧ wpSq P ops Q S T s (a.put o.dst v) w
  | (2, i) :: s, a, w => ∃ o, ops[i]? = some o ∧ Region.wanted o (yielded ops a.tmps) = true ∧ Oper.wp P o a w (fun a' w' => (S w' ∧ T w') ∧ wpSq P ops Q S T s a' w') Q
  | (_, i) :: s, a, w => ∃ o, ops[i]? = some o ∧ Region.wanted o (yielded ops a.tmps) = true ∧ Oper.wp P o a w (fun a' w' => S w' ∧ wpSq P ops Q S T s a' w') Q
theorem wpAnyG_sq (hsel : Region.noSelect ops = true) (hQ : ∀ c a d v w, Q (.panic c) (a.put d v) w → Q (.panic c) a w) : ∀ (s : List (Nat × Nat)) (l : Array Bool) (a : Act) (w : World),
    okSq md ops b s l = true → Cond S T b l w → wpSq P ops Q S T s a w → wpAnyG P md ops Q S T b s.length l a w
  | [], l, a, w, hok, hc, h => ⟨by simpa [okSq] using hok, h⟩
  | (0, i) :: s, l, a, w, hok, hc, h => by
    simp only [okSq, Bool.and_eq_true, decide_eq_true_eq] at hok
    obtain ⟨⟨⟨hf, hr⟩, hne⟩, hok⟩ := hok
    obtain ⟨o, v, ho, hy, h⟩ := h
    have hr' : i ∈ Region.ready md ops l := by simpa using hr
    exact wpAnyG_first (G := fun _ => True) hne ho (Region.noSelect_spec hsel) (fun c a w => hQ c a o.dst v w) (fun _ _ _ h => h.1) (fun _ _ _ _ _ _ => trivial) s.length l a w (Region.free_spec ho hf) hr' trivial hy hc
      (wpAnyG_sq hsel hQ s _ _ w hok ⟨hc.1, fun h => hc.2 (by rw [← getD_false_ne l i b hne]; exact h)⟩ h)
  | (1, i) :: s, l, a, w, hok, hc, h => by
    simp only [okSq, Bool.and_eq_true, decide_eq_true_eq, beq_iff_eq] at hok
    obtain ⟨⟨⟨⟨⟨hf, hr⟩, hne⟩, hw⟩, hb⟩, hok⟩ := hok
    obtain ⟨o, v, ho, hy, h⟩ := h
    have hr' : i ∈ Region.ready md ops l := by simpa using hr
    exact wpAnyG_first (G := fun l => l.getD b false = false) hne ho (Region.noSelect_spec hsel) (fun c a w => hQ c a o.dst v w) (fun l w hg h => ⟨h.1, h.2 hg⟩) (fun l j hg hi hj _ => early_keeps hw l j hg hi hj) s.length l a w (Region.free_spec ho hf) hr' hb hy hc
      (wpAnyG_sq hsel hQ s _ _ w hok ⟨hc.1, fun h => hc.2 (by rw [← getD_false_ne l i b hne]; exact h)⟩ h)
  | (2, i) :: s, l, a, w, hok, hc, h => by
    simp only [okSq, Bool.and_eq_true, beq_iff_eq] at hok
    obtain ⟨hr, hok⟩ := hok
    obtain ⟨o, ho, hw, h⟩ := h
    refine ⟨fun h0 => (by rw [hr] at h0; cases h0), fun j hj => ?_⟩
    obtain rfl : j = i := by rw [hr] at hj; simpa using hj
    refine wpOp_mono (K := fun a' w' => (S w' ∧ T w') ∧ wpSq P ops Q S T s a' w') (fun a' w' h' => ⟨⟨h'.1.1, fun _ => h'.1.2⟩, wpAnyG_sq hsel hQ s _ a' w' hok ⟨h'.1.1, fun _ => h'.1.2⟩ h'.2⟩) ?_
    unfold wpOp
    simp only [ho, hw, if_true]
    exact .inl h
  | (k + 3, i) :: s, l, a, w, hok, hc, h => by
    simp only [okSq, Bool.and_eq_true, beq_iff_eq] at hok
    obtain ⟨⟨hr, hb⟩, hok⟩ := hok
    obtain ⟨o, ho, hw, h⟩ := h
    refine ⟨fun h0 => (by rw [hr] at h0; cases h0), fun j hj => ?_⟩
    obtain rfl : j = i := by rw [hr] at hj; simpa using hj
    refine wpOp_mono (K := fun a' w' => S w' ∧ wpSq P ops Q S T s a' w') (fun a' w' h' => ⟨⟨h'.1, fun h => by rw [hb] at h; cases h⟩, wpAnyG_sq hsel hQ s _ a' w' hok ⟨h'.1, fun h => by rw [hb] at h; cases h⟩ h'.2⟩) ?_
    unfold wpOp
    simp only [ho, hw, if_true]
    exact .inl h
theorem wp_region_sq {id : Nat} {a : Act} {w : World} (S T : World → Prop) (b : Nat) (s : List (Nat × Nat)) (hm : P.follows .mixedOrders = true) (hlen : ops.size = s.length) (hsel : Region.noSelect ops = true)
    (hok : okSq .any ops b s (Array.replicate ops.size false) = true) (hQ : ∀ c a d v w, Q (.panic c) (a.put d v) w → Q (.panic c) a w) (hS : S w.drew ∧ T w.drew)
    (h : ∀ Q' : Act → World → Prop, (∀ a' w', Q .normal a' w' → Q' a' w') → wpSq P ops (fun e a' w' => match e with | .normal => Q' a' w' | e => Q e a' w') S T s a w.drew) : (Code.region id ops true).wp P Q a w := by
  refine wp_region_any hm (wpAny_of_G (S := S) (T := T) (b := b) _ _ _ _ ?_)
  rw [hlen]
  rw [hlen] at hok
  refine wpAnyG_sq hsel hQ s _ a _ hok ⟨hS.1, fun _ => hS.2⟩ ?_
  have h1 := h (fun a' w' => Q .normal a' w') (fun _ _ h => h)
  have e : (fun e a' w' => match e with | Exit.normal => Q .normal a' w' | e => Q e a' w') = Q := by
    funext e a' w'
    cases e <;> rfl
  rw [e] at h1
  exact h1
theorem wpSq_get {i : Nat} {s : List (Nat × Nat)} {a : Act} {w : World} {o : Oper} (ho : ops[i]? = some o) (hw : Region.wanted o (yielded ops a.tmps) = true)
    (h : ∀ K : Act → Prop, (∀ a', wpSq P ops Q S T s a' w → K a') → ∃ v, (∀ w', S w' → (execOp a.eval o).run P w' = .ok (.value v) w') ∧ K (a.put o.dst v)) : wpSq P ops Q S T ((0, i) :: s) a w := by
  obtain ⟨v, h1, h2⟩ := h (fun a' => wpSq P ops Q S T s a' w) (fun _ h => h)
  exact ⟨o, v, ho, .inl ⟨hw, h1⟩, h2⟩
theorem wpSq_early {i : Nat} {s : List (Nat × Nat)} {a : Act} {w : World} {o : Oper} (ho : ops[i]? = some o) (hw : Region.wanted o (yielded ops a.tmps) = true)
    (h : ∀ K : Act → Prop, (∀ a', wpSq P ops Q S T s a' w → K a') → ∃ v, (∀ w', S w' ∧ T w' → (execOp a.eval o).run P w' = .ok (.value v) w') ∧ K (a.put o.dst v)) : wpSq P ops Q S T ((1, i) :: s) a w := by
  obtain ⟨v, h1, h2⟩ := h (fun a' => wpSq P ops Q S T s a' w) (fun _ h => h)
  exact ⟨o, v, ho, .inl ⟨hw, h1⟩, h2⟩
theorem wpSq_call {i : Nat} {s : List (Nat × Nat)} {a : Act} {w : World} {o : Oper} (ho : ops[i]? = some o) (hw : Region.wanted o (yielded ops a.tmps) = true)
    (h : ∀ K : Act → World → Prop, (∀ a' w', S w' ∧ T w' → wpSq P ops Q S T s a' w' → K a' w') → Oper.wp P o a w K Q) : wpSq P ops Q S T ((2, i) :: s) a w :=
  ⟨o, ho, hw, h (fun a' w' => (S w' ∧ T w') ∧ wpSq P ops Q S T s a' w') (fun _ _ hS h => ⟨hS, h⟩)⟩
theorem wpSq_late {i : Nat} {s : List (Nat × Nat)} {a : Act} {w : World} {o : Oper} (ho : ops[i]? = some o) (hw : Region.wanted o (yielded ops a.tmps) = true)
    (h : ∀ K : Act → World → Prop, (∀ a' w', S w' → wpSq P ops Q S T s a' w' → K a' w') → Oper.wp P o a w K Q) : wpSq P ops Q S T ((3, i) :: s) a w :=
  ⟨o, ho, hw, h (fun a' w' => S w' ∧ wpSq P ops Q S T s a' w') (fun _ _ hS h => ⟨hS, h⟩)⟩
theorem wpSq_done {a : Act} {w : World} (h : Q .normal a w) : wpSq P ops Q S T [] a w := h
end
end Go.Proofs.YtpndccoikhejgaaDoor
namespace Go.Proofs.YtpndccoikhejgaaDoor
open Go.RowKit Go.Great
set_option linter.unusedVariables false
set_option maxRecDepth 100000

/-- The first k and the last k have changed places. -/
def Rev (ls ms : List (List Int)) (k : Nat) : Prop := ms.length = ls.length ∧ hashes ms ∧ ∀ t, t < ls.length → ms.getD t [] = if t < k ∨ ls.length - k ≤ t then ls.getD (ls.length - 1 - t) [] else ls.getD t []
theorem Rev.start {ls : List (List Int)} (h : hashes ls) : Rev ls ls 0 := ⟨rfl, h, fun t ht => by rw [if_neg (by omega)]⟩
theorem Rev.step {ls ms : List (List Int)} {k j : Nat} (h : Rev ls ms k) (hj : j = ls.length - 1 - k) (hkj : k < j) : Rev ls ((ms.set k (ms.getD j [])).set j (ms.getD k [])) (k + 1) := by
  obtain ⟨h1, h2, h3⟩ := h
  have hk := hashes_at h2 k (by omega)
  have hjj := hashes_at h2 j (by omega)
  refine ⟨by rw [List.length_set, List.length_set, h1], setL_hashes (setL_hashes h2 k _ hjj) j _ hk, fun t ht => ?_⟩
  have e1 := h3 k (by omega)
  have e2 := h3 j (by omega)
  have e3 := h3 t ht
  rw [if_neg (by omega)] at e1 e2
  rw [setL_getD _ _ _ _ (by rw [List.length_set, h1]; exact ht), setL_getD _ _ _ _ (by rw [h1]; exact ht)]
  by_cases ht1 : t = j
  · subst ht1
    rw [if_pos rfl, if_pos (by omega), e1]
    congr 1; omega
  · rw [if_neg ht1]
    by_cases ht2 : t = k
    · subst ht2
      rw [if_pos rfl, if_pos (by omega), e2, hj]
    · rw [if_neg ht2, e3]
      by_cases hc : t < k ∨ ls.length - k ≤ t
      · rw [if_pos hc, if_pos (by omega)]
      · rw [if_neg hc, if_neg (by omega)]
theorem Rev.done {ls ms : List (List Int)} {k : Nat} (h : Rev ls ms k) (hk : ls.length ≤ 2 * k + 1) : ms = ls.reverse := by
  obtain ⟨h1, h2, h3⟩ := h
  refine List.ext_getElem (by rw [h1, List.length_reverse]) (fun t ht1 ht2 => ?_)
  have e := h3 t (by omega)
  rw [List.getD_eq_getElem?_getD, List.getElem?_eq_getElem ht1] at e
  simp only [Option.getD_some] at e
  rw [e, List.getElem_reverse]
  split
  · rw [List.getD_eq_getElem?_getD, List.getElem?_eq_getElem (by omega)]; rfl
  · rw [List.getD_eq_getElem?_getD, List.getElem?_eq_getElem (by omega)]
    show ls[t] = _
    congr 1; omega
attribute [local go_sem ↓ high] read_at write_at
set_option maxHeartbeats 8000000 in
theorem reverse_any (ls : List (List Int)) (hh : hashes ls) (A : Option Addr) (c : Nat) (w : World) (B : Nat) (ho : w.ownsRow B 23 32 (.slice A ls.length c) ls.length (cellsL ls)) :
    Calls Tryd.prog 78 #[.slice A ls.length c] w fun e w' => (∃ v, e = .returned v) ∧ HL w' w'.heap.size A ls.reverse ∧ Below B w w' := by
  obtain ⟨n, hn⟩ : ∃ n, Hid (n = ls.length) := ⟨_, Lib.hid rfl⟩
  have hcm := own_some ho
  have hnm : n ≤ 9223372036854775807 := by rw [hn.out]; omega
  have H0 : Hid (HL w w.heap.size A ls) := Lib.hid (own_HL ho hh)
  have HR : Hid (∀ g, A = some ⟨g, 0, none⟩ → B ≤ g ∧ ∀ k, k < n → w.there g (k * 32) 32) := Lib.hid fun g hg => by
    rcases hcm.2.2 with ⟨h1, _⟩ | ⟨g', h1, h2, _⟩
    · rw [h1] at hg; cases hg
    · rw [h1] at hg
      cases hg
      exact ⟨h2, fun k hk => by rw [hn.out] at hk; subst h1; exact own_room ho k hk⟩
  have HG : Hid (0 < n → ∃ g, A = some ⟨g, 0, none⟩) := Lib.hid fun h => by
    rcases hcm.2.2 with ⟨h1, h2⟩ | ⟨g', h1, h2, _⟩
    · rw [hn.out] at h; omega
    · exact ⟨g', h1⟩
  have HV : Hid (Rev ls ls 0) := Lib.hid (Rev.start hh)
  rw [← hn.out]
  clear ho hcm hh
  go_enter Tryd.func78, Tryd.ntmps78
  go_wp2
  go_loopw [2, 3] (fun s2 s3 wr => ∃ (k : Nat) (ms : List (List Int)), s2 = .int .i64 (k : Int) ∧ s3 = .int .i64 ((n : Int) - 1 - (k : Int)) ∧ 2 * k ≤ n + 1 ∧ Hid (Rev ls ms k) ∧ Hid (HL wr wr.heap.size A ms ∧ (∀ g, A = some ⟨g, 0, none⟩ → ∀ k, k < n → wr.there g (k * 32) 32) ∧ Below B w wr)) (fun s2 s3 _ => (intOf s3 - intOf s2 + 1).toNat)
  case atStart => exact ⟨0, ls, rfl, by go_num, by omega, HV, Lib.hid ⟨H0.out, fun g hg => (HR.out g hg).2, Below.refl _ _⟩⟩
  case round =>
    obtain ⟨k, ms, rfl, rfl, hk, HV, HW⟩ := hrel
    by_cases hlt : (k : Int) < (n : Int) - 1 - (k : Int)
    · obtain ⟨g, rfl⟩ := HG.out (by omega)
      obtain ⟨j, hj⟩ : ∃ j : Nat, Hid (j = n - 1 - k) := ⟨_, Lib.hid rfl⟩
      have e0 : (n : Int) - 1 - (k : Int) = (j : Int) := by rw [hj.out]; omega
      rw [e0] at hlt ⊢
      have b1 : (k : Int) < (n : Int) := by omega
      have b2 : (j : Int) < (n : Int) := by rw [hj.out]; omega
      have hwk : IntKind.i64.wrap (k : Int) = (k : Int) := by rw [IntKind.wrap_i64]; omega
      have hwj : IntKind.i64.wrap (j : Int) = (j : Int) := by rw [IntKind.wrap_i64]; omega
      have hml : ms.length = n := by rw [HV.out.1, hn.out]
      obtain ⟨X, hX⟩ : ∃ X, Hid (X = nums .u8 (ms.getD k [])) := ⟨_, Lib.hid rfl⟩
      obtain ⟨Y, hY⟩ : ∃ Y, Hid (Y = nums .u8 (ms.getD j [])) := ⟨_, Lib.hid rfl⟩
      have hxk := hashes_at HV.out.2.1 k (by omega)
      have hyj := hashes_at HV.out.2.1 j (by omega)
      have zX : Hid (X.size = 32) := Lib.hid (by rw [hX.out, nums_size]; exact hxk.1)
      have oX : Hid (X.all (·.oneCell') = true) := Lib.hid (by rw [hX.out]; exact nums_one _ _)
      have zY : Hid (Y.size = 32) := Lib.hid (by rw [hY.out, nums_size]; exact hyj.1)
      have oY : Hid (Y.all (·.oneCell') = true) := Lib.hid (by rw [hY.out]; exact nums_one _ _)
      have HN : Hid (Rev ls ((ms.set k (ms.getD j [])).set j (ms.getD k [])) (k + 1)) := Lib.hid (HV.out.step (by rw [hj.out, hn.out]) (by omega))
      have HW2 : Hid (HL ((wr.drew.setCells g (k * 32) Y.toList).setCells g (j * 32) X.toList) wr.heap.size (some ⟨g, 0, none⟩) ((ms.set k (ms.getD j [])).set j (ms.getD k []))) := Lib.hid (by
        rw [hX.out, hY.out]
        exact HL.set (ls := ms.set k (ms.getD j [])) (HL.set (wr := wr.drew) HW.out.1 k (by omega) _ hyj.1 (HW.out.2.1 g rfl k (by omega))) j (by rw [List.length_set, hml, hj.out]; omega) _ hxk.1 (World.there_setCells (w := wr.drew) (HW.out.2.1 g rfl j (by omega)) _ _ _))
      have HT2 : Hid (∀ k2, k2 < n → ((wr.drew.setCells g (k * 32) Y.toList).setCells g (j * 32) X.toList).there g (k2 * 32) 32) := Lib.hid fun k2 hk2 =>
        World.there_setCells (World.there_setCells (w := wr.drew) (HW.out.2.1 g rfl k2 hk2) _ _ _) _ _ _
      have HB1 : Hid (Below B w (wr.drew.setCells g (k * 32) Y.toList)) := Lib.hid (HW.out.2.2.drew.trans (below_setCells_w (HR.out g rfl).1 _ _ _))
      have HB2 : Hid (Below B w ((wr.drew.setCells g (k * 32) Y.toList).setCells g (j * 32) X.toList)) := Lib.hid (HB1.out.trans (below_setCells_w (HR.out g rfl).1 _ _ _))
      have HZ : Hid (((wr.drew.setCells g (k * 32) Y.toList).setCells g (j * 32) X.toList).heap.size = wr.heap.size) := Lib.hid (by rw [size_setCells, size_setCells]; rfl)
      have T1 : Hid (wr.drew.there g (k * 32) Y.size) := Lib.hid (by rw [zY.out]; exact HW.out.2.1 g rfl k (by omega))
      have T2 : Hid ((wr.drew.setCells g (k * 32) Y.toList).there g (j * 32) X.size) := Lib.hid (by rw [zX.out]; exact World.there_setCells (w := wr.drew) (HW.out.2.1 g rfl j (by omega)) _ _ _)
      have RD : Hid (∀ W, HL W W.heap.size (some ⟨g, 0, none⟩) ms → (readAt (.pointer (some ⟨g, k * 32, none⟩))).run Tryd.prog W = .ok (.agg X) W ∧ (readAt (.pointer (some ⟨g, j * 32, none⟩))).run Tryd.prog W = .ok (.agg Y) W) := Lib.hid fun W h =>
        ⟨by rw [hX.out, ← add_flat]; exact h.read HV.out.2.1 k (by omega), by rw [hY.out, ← add_flat]; exact h.read HV.out.2.1 j (by omega)⟩
      have hx6 := sizeH _ zX.out
      have hy6 := sizeH _ zY.out
      clear hml hxk hyj
      go_upto_region 3 with fail
      refine wp_region_sq (fun W => Below B w W) (fun W => HL W W.heap.size (some ⟨g, 0, none⟩) ms) 13 [(0, 0), (0, 1), (0, 2), (0, 3), (0, 4), (0, 5), (0, 6), (1, 7), (0, 8), (0, 9), (0, 10), (1, 11), (0, 12), (3, 13), (0, 14), (3, 15)] (by kernel_rfl) rfl (by kernel_rfl) (by kernel_rfl) (by intro c a d v w h; cases d <;> exact h) (⟨HW.out.2.2.drew, HW.out.1⟩) (fun Q' hQ => ?_)
      have HQ := Lib.hid hQ
      clear hQ
      refine wpSq_get rfl (by rfl) (fun K hK => ?_)
      refine ⟨?_, fun w' hS' => ?_, ?_⟩
      rotate_left
      · go_simp
        try (with_reducible rfl)
      try go_simp
      refine hK _ ?_
      clear hK K
      refine wpSq_get rfl (by rfl) (fun K hK => ?_)
      refine ⟨?_, fun w' hS' => ?_, ?_⟩
      rotate_left
      · go_simp
        try (with_reducible rfl)
      try go_simp
      refine hK _ ?_
      clear hK K
      refine wpSq_get rfl (by rfl) (fun K hK => ?_)
      refine ⟨?_, fun w' hS' => ?_, ?_⟩
      rotate_left
      · go_simp
        try (with_reducible rfl)
      try go_simp
      refine hK _ ?_
      clear hK K
      refine wpSq_get rfl (by rfl) (fun K hK => ?_)
      refine ⟨?_, fun w' hS' => ?_, ?_⟩
      rotate_left
      · go_simp
        try (with_reducible rfl)
      try go_simp
      refine hK _ ?_
      clear hK K
      refine wpSq_get rfl (by rfl) (fun K hK => ?_)
      refine ⟨?_, fun w' hS' => ?_, ?_⟩
      rotate_left
      · go_simp
        try (with_reducible rfl)
      try go_simp
      refine hK _ ?_
      clear hK K
      refine wpSq_get rfl (by rfl) (fun K hK => ?_)
      refine ⟨?_, fun w' hS' => ?_, ?_⟩
      rotate_left
      · go_simp
        try (with_reducible rfl)
      try go_simp
      refine hK _ ?_
      clear hK K
      refine wpSq_get rfl (by rfl) (fun K hK => ?_)
      refine ⟨?_, fun w' hS' => ?_, ?_⟩
      rotate_left
      · go_simp
        try (with_reducible rfl)
      try go_simp
      refine hK _ ?_
      clear hK K
      refine wpSq_early rfl (by rfl) (fun K hK => ?_)
      refine ⟨_, fun w' hS' => get_load rfl rfl (RD.out _ hS'.2).2, ?_⟩
      try go_simp
      refine hK _ ?_
      clear hK K
      refine wpSq_get rfl (by rfl) (fun K hK => ?_)
      refine ⟨?_, fun w' hS' => ?_, ?_⟩
      rotate_left
      · go_simp
        try (with_reducible rfl)
      try go_simp
      refine hK _ ?_
      clear hK K
      refine wpSq_get rfl (by rfl) (fun K hK => ?_)
      refine ⟨?_, fun w' hS' => ?_, ?_⟩
      rotate_left
      · go_simp
        try (with_reducible rfl)
      try go_simp
      refine hK _ ?_
      clear hK K
      refine wpSq_get rfl (by rfl) (fun K hK => ?_)
      refine ⟨?_, fun w' hS' => ?_, ?_⟩
      rotate_left
      · go_simp
        try (with_reducible rfl)
      try go_simp
      refine hK _ ?_
      clear hK K
      refine wpSq_early rfl (by rfl) (fun K hK => ?_)
      refine ⟨_, fun w' hS' => get_load rfl rfl (RD.out _ hS'.2).1, ?_⟩
      try go_simp
      refine hK _ ?_
      clear hK K
      refine wpSq_get rfl (by rfl) (fun K hK => ?_)
      refine ⟨?_, fun w' hS' => ?_, ?_⟩
      rotate_left
      · go_simp
        try (with_reducible rfl)
      try go_simp
      refine hK _ ?_
      clear hK K
      refine wpSq_late rfl (by rfl) (fun K hK => ?_)
      refine wp_store_mid 23 _ _ rfl g (k * 32) Y (by go_simp; try rw [add_flat]) rfl T1.out hy6 oY.out ?_
      try go_simp
      refine hK _ _ (HB1.out) ?_
      clear hK K
      refine wpSq_get rfl (by rfl) (fun K hK => ?_)
      refine ⟨?_, fun w' hS' => ?_, ?_⟩
      rotate_left
      · go_simp
        try (with_reducible rfl)
      try go_simp
      refine hK _ ?_
      clear hK K
      refine wpSq_late rfl (by rfl) (fun K hK => ?_)
      refine wp_store_mid 23 _ _ rfl g (j * 32) X (by go_simp; try rw [add_flat]) rfl T2.out hx6 oX.out ?_
      try go_simp
      refine hK _ _ (HB2.out) ?_
      clear hK K
      refine wpSq_done ?_
      refine HQ.out _ _ ?_
      go_wp2
      go_roundw
      case rel => exact ⟨k + 1, _, by go_num, by go_num, by omega, HN, Lib.hid ⟨by rw [HZ.out]; exact HW2.out, fun g' hg' => by cases hg'; exact HT2.out, HB2.out⟩⟩
      case measure => simp [intOf]; omega
    · have HD : Hid (ms = ls.reverse) := Lib.hid (HV.out.done (by rw [← hn.out]; omega))
      go_wp2
      go_end0
      exact ⟨⟨_, rfl⟩, by rw [← HD.out]; exact HW.out.1, HW.out.2.2⟩
end Go.Proofs.YtpndccoikhejgaaDoor
