/-
  A region that draws its order, walked by a tree of orders that is given ahead: where two calls (or what else turns the world) may come up, both are walked. As XSched, but for that. No program is named here.
-/
import Derived.Test.YtllabnhgiojmmaaDoorSched
namespace Go.Proofs.YtllabnhgiojmmaaDoor
open Go
set_option linter.unusedVariables false

inductive Fk where
  | done : Fk
  | get : Nat → Fk → Fk
  | call : Nat → Fk → Fk
  | fork : Nat → Nat → Fk → Fk → Fk
def lenFk : Fk → Nat
  | .done => 0
  | .get _ s => lenFk s + 1
  | .call _ s => lenFk s + 1
  | .fork _ _ s _ => lenFk s + 1
/-- Is the tree one that serves? -/
def okFk (md : Region.Mode) (ops : Array Oper) : Fk → Array Bool → Bool
  | .done, listed => (Region.ready md ops listed).isEmpty
  | .get i s, listed => (Region.free md ops listed i && (Region.ready md ops listed).contains i) && okFk md ops s (listed.setIfInBounds i true)
  | .call i s, listed => (Region.ready md ops listed == [i]) && okFk md ops s (listed.setIfInBounds i true)
  | .fork i j s t, listed => (Region.ready md ops listed == [i, j] && lenFk s == lenFk t) && (okFk md ops s (listed.setIfInBounds i true) && okFk md ops t (listed.setIfInBounds j true))
/-- The walk by that tree. -/
def wpFk (P : Program) (ops : Array Oper) (Q : Exit → Act → World → Prop) (S : World → Prop) : Fk → Act → World → Prop
  | .done, a, w => Q .normal a w
  | .get i s, a, w => ∃ o v, ops[i]? = some o ∧ YieldsIf P ops S o v a ∧ wpFk P ops Q S s (a.put o.dst v) w
  | .call i s, a, w => ∃ o, ops[i]? = some o ∧ Region.wanted o (yielded ops a.tmps) = true ∧ Oper.wp P o a w (fun a' w' => S w' ∧ wpFk P ops Q S s a' w') Q
  | .fork i j s t, a, w => (∃ o, ops[i]? = some o ∧ Region.wanted o (yielded ops a.tmps) = true ∧ Oper.wp P o a w (fun a' w' => S w' ∧ wpFk P ops Q S s a' w') Q) ∧
      (∃ o, ops[j]? = some o ∧ Region.wanted o (yielded ops a.tmps) = true ∧ Oper.wp P o a w (fun a' w' => S w' ∧ wpFk P ops Q S t a' w') Q)
section
variable {P : Program} {ops : Array Oper} {Q : Exit → Act → World → Prop} {S : World → Prop} {md : Region.Mode}
theorem wpAnyH_fk (hsel : Region.noSelect ops = true) (hQ : ∀ c a d v w, Q (.panic c) (a.put d v) w → Q (.panic c) a w) : ∀ (sch : Fk) (listed : Array Bool) (a : Act) (w : World),
    okFk md ops sch listed = true → S w → wpFk P ops Q S sch a w → wpAnyH P md ops Q S (lenFk sch) listed a w
  | .done, listed, a, w, hok, hS, h => wpAnyH_done (by simpa [okFk] using hok) h 0
  | .call i s, listed, a, w, hok, hS, h => by
    simp only [okFk, Bool.and_eq_true, beq_iff_eq] at hok
    obtain ⟨hr, hok⟩ := hok
    obtain ⟨o, ho, hw, h⟩ := h
    refine wpAnyH_all hr (by simp) (fun j hj => ?_)
    obtain rfl : j = i := by simpa using hj
    refine wpOp_mono (K := fun a' w' => S w' ∧ wpFk P ops Q S s a' w') (fun a' w' h' => ⟨h'.1, wpAnyH_fk hsel hQ s _ a' w' hok h'.1 h'.2⟩) ?_
    unfold wpOp
    simp only [ho, hw, if_true]
    exact .inl h
  | .get i s, listed, a, w, hok, hS, h => by
    simp only [okFk, Bool.and_eq_true] at hok
    obtain ⟨⟨hf, hc⟩, hok⟩ := hok
    obtain ⟨o, v, ho, hy, h⟩ := h
    exact wpAnyH_take ho hsel hf hc (fun c a w => hQ c a o.dst v w) hy hS (wpAnyH_fk hsel hQ s _ _ w hok hS h)
  | .fork i j s t, listed, a, w, hok, hS, h => by
    simp only [okFk, Bool.and_eq_true, beq_iff_eq] at hok
    obtain ⟨⟨hr, hl⟩, hok1, hok2⟩ := hok
    obtain ⟨⟨o1, ho1, hw1, h1⟩, ⟨o2, ho2, hw2, h2⟩⟩ := h
    refine wpAnyH_all hr (by simp) (fun k hk => ?_)
    rcases List.mem_cons.1 hk with rfl | hk
    · refine wpOp_mono (K := fun a' w' => S w' ∧ wpFk P ops Q S s a' w') (fun a' w' h' => ⟨h'.1, wpAnyH_fk hsel hQ s _ a' w' hok1 h'.1 h'.2⟩) ?_
      unfold wpOp
      simp only [ho1, hw1, if_true]
      exact .inl h1
    · obtain rfl : k = j := by simpa using hk
      refine wpOp_mono (K := fun a' w' => S w' ∧ wpFk P ops Q S t a' w') (fun a' w' h' => ⟨h'.1, by rw [hl]; exact wpAnyH_fk hsel hQ t _ a' w' hok2 h'.1 h'.2⟩) ?_
      unfold wpOp
      simp only [ho2, hw2, if_true]
      exact .inl h2
theorem wp_region_fk {id : Nat} {a : Act} {w : World} (S : World → Prop) (sch : Fk) (hm : P.follows .mixedOrders = true) (hlen : ops.size = lenFk sch) (hsel : Region.noSelect ops = true)
    (hok : okFk .any ops sch (Array.replicate ops.size false) = true) (hQ : ∀ c a d v w, Q (.panic c) (a.put d v) w → Q (.panic c) a w) (hS : S w.drew)
    (h : ∀ Q' : Act → World → Prop, (∀ a' w', Q .normal a' w' → Q' a' w') → wpFk P ops (fun e a' w' => match e with | .normal => Q' a' w' | e => Q e a' w') S sch a w.drew) : (Code.region id ops true).wp P Q a w := by
  refine wp_region_held_drew (S := S) hm hS (fun _ => ?_)
  rw [hlen]
  rw [hlen] at hok
  refine wpAnyH_fk hsel hQ sch _ a _ hok hS ?_
  have h1 := h (fun a' w' => Q .normal a' w') (fun _ _ h => h)
  have e : (fun e a' w' => match e with | Exit.normal => Q .normal a' w' | e => Q e a' w') = Q := by
    funext e a' w'
    cases e <;> rfl
  rw [e] at h1
  exact h1
theorem wpFk_get {i : Nat} {s : Fk} {a : Act} {w : World} {o : Oper} (ho : ops[i]? = some o) (hw : Region.wanted o (yielded ops a.tmps) = true)
    (h : ∀ K : Act → Prop, (∀ a', wpFk P ops Q S s a' w → K a') → ∃ v, (∀ w', S w' → (execOp a.eval o).run P w' = .ok (.value v) w') ∧ K (a.put o.dst v)) : wpFk P ops Q S (.get i s) a w := by
  obtain ⟨v, h1, h2⟩ := h (fun a' => wpFk P ops Q S s a' w) (fun _ h => h)
  exact ⟨o, v, ho, .inl ⟨hw, h1⟩, h2⟩
theorem wpFk_skip {i : Nat} {s : Fk} {a : Act} {w : World} {o : Oper} (ho : ops[i]? = some o) (hw : Region.wanted o (yielded ops a.tmps) = false)
    (h : ∀ K : Act → Prop, (∀ a', wpFk P ops Q S s a' w → K a') → K (a.put o.dst undef)) : wpFk P ops Q S (.get i s) a w :=
  ⟨o, undef, ho, .inr ⟨hw, rfl⟩, h (fun a' => wpFk P ops Q S s a' w) (fun _ h => h)⟩
theorem wpFk_call {i : Nat} {s : Fk} {a : Act} {w : World} {o : Oper} (ho : ops[i]? = some o) (hw : Region.wanted o (yielded ops a.tmps) = true)
    (h : ∀ K : Act → World → Prop, (∀ a' w', S w' → wpFk P ops Q S s a' w' → K a' w') → Oper.wp P o a w K Q) : wpFk P ops Q S (.call i s) a w :=
  ⟨o, ho, hw, h (fun a' w' => S w' ∧ wpFk P ops Q S s a' w') (fun _ _ hS h => ⟨hS, h⟩)⟩
theorem wpFk_fork {i j : Nat} {s t : Fk} {a : Act} {w : World} (h1 : wpFk P ops Q S (.call i s) a w) (h2 : wpFk P ops Q S (.call j t) a w) : wpFk P ops Q S (.fork i j s t) a w := ⟨h1, h2⟩
theorem wpFk_done {a : Act} {w : World} (h : Q .normal a w) : wpFk P ops Q S .done a w := h
end
end Go.Proofs.YtllabnhgiojmmaaDoor
