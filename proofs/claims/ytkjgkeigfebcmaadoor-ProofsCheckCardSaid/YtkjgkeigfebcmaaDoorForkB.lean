/-
  A region that draws its order and stores at its end: two conditions on the world, one that holds all along, one that holds until the operation b (the first store) has come up; what reads under the second is waited for by b. No program is named here.
-/
import Derived.Test.YtkjgkeigfebcmaaDoorFork
namespace Go.Proofs.YtkjgkeigfebcmaaDoor
open Go
set_option linter.unusedVariables false

section
variable {P : Program} {ops : Array Oper} {Q : Exit → Act → World → Prop} {S T : World → Prop} {md : Region.Mode} {b : Nat}
/-- Both conditions, as far as they are asked. -/
def Cond (S T : World → Prop) (b : Nat) (l : Array Bool) (w : World) : Prop := S w ∧ (l.getD b false = false → T w)
def wpAnyG (P : Program) (md : Region.Mode) (ops : Array Oper) (Q : Exit → Act → World → Prop) (S T : World → Prop) (b : Nat) : Nat → Array Bool → Act → World → Prop
  | 0, l, a, w => Region.ready md ops l = [] ∧ Q .normal a w
  | n + 1, l, a, w => (Region.ready md ops l = [] → Q .normal a w) ∧ ∀ i ∈ Region.ready md ops l, wpOp P ops Q i (fun a' w' => Cond S T b (l.setIfInBounds i true) w' ∧ wpAnyG P md ops Q S T b n (l.setIfInBounds i true) a' w') a w
theorem wpAny_of_G : ∀ (n : Nat) (l : Array Bool) (a : Act) (w : World), wpAnyG P md ops Q S T b n l a w → wpAny P md ops Q n l a w
  | 0, _, _, _, h => h
  | n + 1, _, _, _, h => ⟨h.1, fun i hi => wpOp_mono (fun a' w' h' => wpAny_of_G n _ a' w' h'.2) (h.2 i hi)⟩
theorem getD_false_ne (l : Array Bool) (i b : Nat) (h : i ≠ b) : (l.setIfInBounds i true).getD b false = l.getD b false := by
  simp [Array.getD_eq_getD_getElem?, Array.getElem?_setIfInBounds_ne h]
theorem wpAnyG_first {U : World → Prop} {G : Array Bool → Prop} {i : Nat} {oi : Oper} {v : Value} (hib : i ≠ b) (hi : ops[i]? = some oi) (hsel : ∀ (j : Nat) (o : Oper) cs d, ops[j]? = some o → o.op ≠ .select cs d)
    (hQ : ∀ c a w, Q (.panic c) (a.put oi.dst v) w → Q (.panic c) a w) (hU : ∀ l w, G l → Cond S T b l w → U w)
    (hG : ∀ l j, G l → i ∈ Region.ready md ops l → j ∈ Region.ready md ops l → j ≠ i → G (l.setIfInBounds j true)) :
    ∀ (n : Nat) (l : Array Bool) (a : Act) (w : World),
      (∀ j oj, ops[j]? = some oj → j ≠ i → l.getD j true = false → (∀ e ∈ oj.after, Region.binds md e = true → e.on ≠ i) → oi.apart ops oj = true) →
      i ∈ Region.ready md ops l → G l → YieldsIf P ops U oi v a → Cond S T b l w →
      wpAnyG P md ops Q S T b n (l.setIfInBounds i true) (a.put oi.dst v) w → wpAnyG P md ops Q S T b (n + 1) l a w := by
  intro n
  induction n with
  | zero =>
    intro l a w _ hr hg hy hS H
    refine ⟨fun h => (by rw [h] at hr; cases hr), fun j hj => ?_⟩
    by_cases hji : j = i
    · subst hji; exact hy.wpOp hi (hU l w hg hS) ⟨⟨hS.1, fun h => hS.2 (by rw [← getD_false_ne l j b hib]; exact h)⟩, H⟩
    · have := ready_mono hj hji
      rw [H.1] at this
      cases this
  | succ n ih =>
    intro l a w hfree hr hg hy hS H
    refine ⟨fun h => (by rw [h] at hr; cases hr), fun j hj => ?_⟩
    by_cases hji : j = i
    · subst hji; exact hy.wpOp hi (hU l w hg hS) ⟨⟨hS.1, fun h => hS.2 (by rw [← getD_false_ne l j b hib]; exact h)⟩, H⟩
    · have h1 := H.2 j (ready_mono hj hji)
      obtain ⟨hjun, oj, hoj, hall⟩ := mem_ready.1 hj
      have hnot : ∀ e ∈ oj.after, Region.binds md e = true → e.on ≠ i := fun e he hb heq => by
        have h2 := hall e he hb
        have h0 := (mem_ready.1 hr).1
        rw [heq] at h2
        rcases Nat.lt_or_ge i l.size with h' | h'
        · simp [h'] at h0 h2; rw [h0] at h2; cases h2
        · simp [Array.getElem?_eq_none h'] at h2
      have h2 := wpOp_putIf hoj (hfree j oj hoj hji hjun hnot) (fun cs d => hsel i oi cs d hi) (fun cs d => hsel j oj cs d hoj) hQ hy h1
      have hfree' : ∀ k ok, ops[k]? = some ok → k ≠ i → (l.setIfInBounds j true).getD k true = false → (∀ e ∈ ok.after, Region.binds md e = true → e.on ≠ i) → oi.apart ops ok = true := fun k ok hk hki hun hno => by
        refine hfree k ok hk hki ?_ hno
        by_cases hjk : j = k
        · subst hjk; exact hjun
        · rw [getD_set_ne true hjk] at hun; exact hun
      refine wpOp_mono (fun a' w' h3 => ?_) h2
      have hc : Cond S T b (l.setIfInBounds j true) w' := ⟨h3.2.1.1, fun h => h3.2.1.2 (by rw [Array.setIfInBounds_comm _ _ (Ne.symm hji), getD_false_ne _ i b hib]; exact h)⟩
      exact ⟨hc, ih (l.setIfInBounds j true) a' w' hfree' (ready_mono hr (Ne.symm hji)) (hG l j hg hr hj hji) h3.1 hc (by rw [Array.setIfInBounds_comm _ _ hji]; exact h3.2.2)⟩
/-- Does b wait for i? -/
def waitsB (md : Region.Mode) (ops : Array Oper) (b i : Nat) : Bool := match ops[b]? with
  | some o => o.after.any fun e => Region.binds md e && e.on == i
  | none => false
theorem early_keeps {i : Nat} (hw : waitsB md ops b i = true) (l : Array Bool) (j : Nat) (hg : l.getD b false = false) (hi : i ∈ Region.ready md ops l) (hj : j ∈ Region.ready md ops l) : (l.setIfInBounds j true).getD b false = false := by
  have hjb : j ≠ b := by
    rintro rfl
    obtain ⟨_, oj, hoj, hall⟩ := mem_ready.1 hj
    unfold waitsB at hw
    rw [hoj] at hw
    simp only [Array.any_eq_true'] at hw
    obtain ⟨e, he, hb⟩ := hw
    simp only [Bool.and_eq_true, beq_iff_eq] at hb
    have h1 := hall e he hb.1
    rw [hb.2] at h1
    have h0 := (mem_ready.1 hi).1
    rcases Nat.lt_or_ge i l.size with h' | h'
    · simp [h'] at h0 h1; rw [h0] at h1; cases h1
    · simp [Array.getElem?_eq_none h'] at h1
  rw [getD_false_ne l j b hjb]; exact hg
/-- An order: 0 what reads under the first condition, 1 under both, 2 what turns the world ahead of b, 3 from b on. -/
def okSq (md : Region.Mode) (ops : Array Oper) (b : Nat) : List (Nat × Nat) → Array Bool → Bool
  | [], l => (Region.ready md ops l).isEmpty
  | (0, i) :: s, l => (Region.free md ops l i && (Region.ready md ops l).contains i && decide (i ≠ b)) && okSq md ops b s (l.setIfInBounds i true)
  | (1, i) :: s, l => (Region.free md ops l i && (Region.ready md ops l).contains i && decide (i ≠ b) && waitsB md ops b i && (l.getD b false == false)) && okSq md ops b s (l.setIfInBounds i true)
  | (2, i) :: s, l => (Region.ready md ops l == [i]) && okSq md ops b s (l.setIfInBounds i true)
  | (_, i) :: s, l => (Region.ready md ops l == [i] && (l.setIfInBounds i true).getD b false) && okSq md ops b s (l.setIfInBounds i true)
def wpSq (P : Program) (ops : Array Oper) (Q : Exit → Act → World → Prop) (S T : World → Prop) : List (Nat × Nat) → Act → World → Prop
  | [], a, w => Q .normal a w
  | (0, i) :: s, a, w => ∃ o v, ops[i]? = some o ∧ YieldsIf P ops S o v a ∧ wpSq P ops Q S T s (a.put o.dst v) w
  | (1, i) :: s, a, w => ∃ o v, ops[i]? = some o ∧ YieldsIf P ops (fun w => S w ∧ T w) o v a ∧ wpSq P ops Q S T s (a.put o.dst v) w
  | (2, i) :: s, a, w => ∃ o, ops[i]? = some o ∧ Region.wanted o (yielded ops a.tmps) = true ∧ Oper.wp P o a w (fun a' w' => (S w' ∧ T w') ∧ wpSq P ops Q S T s a' w') Q
  | (_, i) :: s, a, w => ∃ o, ops[i]? = some o ∧ Region.wanted o (yielded ops a.tmps) = true ∧ Oper.wp P o a w (fun a' w' => S w' ∧ wpSq P ops Q S T s a' w') Q
theorem wpAnyG_sq (hsel : Region.noSelect ops = true) (hQ : ∀ c a d v w, Q (.panic c) (a.put d v) w → Q (.panic c) a w) : ∀ (s : List (Nat × Nat)) (l : Array Bool) (a : Act) (w : World),
    okSq md ops b s l = true → Cond S T b l w → wpSq P ops Q S T s a w → wpAnyG P md ops Q S T b s.length l a w
  | [], l, a, w, hok, hc, h => ⟨by simpa [okSq] using hok, h⟩
  | (0, i) :: s, l, a, w, hok, hc, h => by
    simp only [okSq, Bool.and_eq_true, decide_eq_true_eq] at hok
    obtain ⟨⟨⟨hf, hr⟩, hne⟩, hok⟩ := hok
    obtain ⟨o, v, ho, hy, h⟩ := h
    have hr' : i ∈ Region.ready md ops l := by simpa using hr
    exact wpAnyG_first (G := fun _ => True) hne ho (Region.noSelect_spec hsel) (fun c a w => hQ c a o.dst v w) (fun _ _ _ h => h.1) (fun _ _ _ _ _ _ => trivial) s.length l a w (Region.free_spec ho hf) hr' trivial hy hc
      (wpAnyG_sq hsel hQ s _ _ w hok ⟨hc.1, fun h => hc.2 (by rw [← getD_false_ne l i b hne]; exact h)⟩ h)
  | (1, i) :: s, l, a, w, hok, hc, h => by
    simp only [okSq, Bool.and_eq_true, decide_eq_true_eq, beq_iff_eq] at hok
    obtain ⟨⟨⟨⟨⟨hf, hr⟩, hne⟩, hw⟩, hb⟩, hok⟩ := hok
    obtain ⟨o, v, ho, hy, h⟩ := h
    have hr' : i ∈ Region.ready md ops l := by simpa using hr
    exact wpAnyG_first (G := fun l => l.getD b false = false) hne ho (Region.noSelect_spec hsel) (fun c a w => hQ c a o.dst v w) (fun l w hg h => ⟨h.1, h.2 hg⟩) (fun l j hg hi hj _ => early_keeps hw l j hg hi hj) s.length l a w (Region.free_spec ho hf) hr' hb hy hc
      (wpAnyG_sq hsel hQ s _ _ w hok ⟨hc.1, fun h => hc.2 (by rw [← getD_false_ne l i b hne]; exact h)⟩ h)
  | (2, i) :: s, l, a, w, hok, hc, h => by
    simp only [okSq, Bool.and_eq_true, beq_iff_eq] at hok
    obtain ⟨hr, hok⟩ := hok
    obtain ⟨o, ho, hw, h⟩ := h
    refine ⟨fun h0 => (by rw [hr] at h0; cases h0), fun j hj => ?_⟩
    obtain rfl : j = i := by rw [hr] at hj; simpa using hj
    refine wpOp_mono (K := fun a' w' => (S w' ∧ T w') ∧ wpSq P ops Q S T s a' w') (fun a' w' h' => ⟨⟨h'.1.1, fun _ => h'.1.2⟩, wpAnyG_sq hsel hQ s _ a' w' hok ⟨h'.1.1, fun _ => h'.1.2⟩ h'.2⟩) ?_
    unfold wpOp
    simp only [ho, hw, if_true]
    exact .inl h
  | (k + 3, i) :: s, l, a, w, hok, hc, h => by
    simp only [okSq, Bool.and_eq_true, beq_iff_eq] at hok
    obtain ⟨⟨hr, hb⟩, hok⟩ := hok
    obtain ⟨o, ho, hw, h⟩ := h
    refine ⟨fun h0 => (by rw [hr] at h0; cases h0), fun j hj => ?_⟩
    obtain rfl : j = i := by rw [hr] at hj; simpa using hj
    refine wpOp_mono (K := fun a' w' => S w' ∧ wpSq P ops Q S T s a' w') (fun a' w' h' => ⟨⟨h'.1, fun h => by rw [hb] at h; cases h⟩, wpAnyG_sq hsel hQ s _ a' w' hok ⟨h'.1, fun h => by rw [hb] at h; cases h⟩ h'.2⟩) ?_
    unfold wpOp
    simp only [ho, hw, if_true]
    exact .inl h
theorem wp_region_sq {id : Nat} {a : Act} {w : World} (S T : World → Prop) (b : Nat) (s : List (Nat × Nat)) (hm : P.follows .mixedOrders = true) (hlen : ops.size = s.length) (hsel : Region.noSelect ops = true)
    (hok : okSq .any ops b s (Array.replicate ops.size false) = true) (hQ : ∀ c a d v w, Q (.panic c) (a.put d v) w → Q (.panic c) a w) (hS : S w.drew ∧ T w.drew)
    (h : ∀ Q' : Act → World → Prop, (∀ a' w', Q .normal a' w' → Q' a' w') → wpSq P ops (fun e a' w' => match e with | .normal => Q' a' w' | e => Q e a' w') S T s a w.drew) : (Code.region id ops true).wp P Q a w := by
  refine wp_region_any hm (wpAny_of_G (S := S) (T := T) (b := b) _ _ _ _ ?_)
  rw [hlen]
  rw [hlen] at hok
  refine wpAnyG_sq hsel hQ s _ a _ hok ⟨hS.1, fun _ => hS.2⟩ ?_
  have h1 := h (fun a' w' => Q .normal a' w') (fun _ _ h => h)
  have e : (fun e a' w' => match e with | Exit.normal => Q .normal a' w' | e => Q e a' w') = Q := by
    funext e a' w'
    cases e <;> rfl
  rw [e] at h1
  exact h1
theorem wpSq_get {i : Nat} {s : List (Nat × Nat)} {a : Act} {w : World} {o : Oper} (ho : ops[i]? = some o) (hw : Region.wanted o (yielded ops a.tmps) = true)
    (h : ∀ K : Act → Prop, (∀ a', wpSq P ops Q S T s a' w → K a') → ∃ v, (∀ w', S w' → (execOp a.eval o).run P w' = .ok (.value v) w') ∧ K (a.put o.dst v)) : wpSq P ops Q S T ((0, i) :: s) a w := by
  obtain ⟨v, h1, h2⟩ := h (fun a' => wpSq P ops Q S T s a' w) (fun _ h => h)
  exact ⟨o, v, ho, .inl ⟨hw, h1⟩, h2⟩
theorem wpSq_early {i : Nat} {s : List (Nat × Nat)} {a : Act} {w : World} {o : Oper} (ho : ops[i]? = some o) (hw : Region.wanted o (yielded ops a.tmps) = true)
    (h : ∀ K : Act → Prop, (∀ a', wpSq P ops Q S T s a' w → K a') → ∃ v, (∀ w', S w' ∧ T w' → (execOp a.eval o).run P w' = .ok (.value v) w') ∧ K (a.put o.dst v)) : wpSq P ops Q S T ((1, i) :: s) a w := by
  obtain ⟨v, h1, h2⟩ := h (fun a' => wpSq P ops Q S T s a' w) (fun _ h => h)
  exact ⟨o, v, ho, .inl ⟨hw, h1⟩, h2⟩
theorem wpSq_call {i : Nat} {s : List (Nat × Nat)} {a : Act} {w : World} {o : Oper} (ho : ops[i]? = some o) (hw : Region.wanted o (yielded ops a.tmps) = true)
    (h : ∀ K : Act → World → Prop, (∀ a' w', S w' ∧ T w' → wpSq P ops Q S T s a' w' → K a' w') → Oper.wp P o a w K Q) : wpSq P ops Q S T ((2, i) :: s) a w :=
  ⟨o, ho, hw, h (fun a' w' => (S w' ∧ T w') ∧ wpSq P ops Q S T s a' w') (fun _ _ hS h => ⟨hS, h⟩)⟩
theorem wpSq_late {i : Nat} {s : List (Nat × Nat)} {a : Act} {w : World} {o : Oper} (ho : ops[i]? = some o) (hw : Region.wanted o (yielded ops a.tmps) = true)
    (h : ∀ K : Act → World → Prop, (∀ a' w', S w' → wpSq P ops Q S T s a' w' → K a' w') → Oper.wp P o a w K Q) : wpSq P ops Q S T ((3, i) :: s) a w :=
  ⟨o, ho, hw, h (fun a' w' => S w' ∧ wpSq P ops Q S T s a' w') (fun _ _ hS h => ⟨hS, h⟩)⟩
theorem wpSq_done {a : Act} {w : World} (h : Q .normal a w) : wpSq P ops Q S T [] a w := h
end
end Go.Proofs.YtkjgkeigfebcmaaDoor
