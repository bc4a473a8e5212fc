/-
  A region that draws its order, walked in one order that is given ahead: what only yields a value, in every world that meets a condition, is taken first; a call comes up only where nothing else may. The condition is shown anew behind each call. No program is named here.
-/
import Derived.Test.YtllabnhgiojmmaaDoorRow
import Derived.OrdersHeld
import Derived.Deep.RegionHeld
namespace Go.Proofs.YtllabnhgiojmmaaDoor
open Go
set_option linter.unusedVariables false

/-- Is the order one that serves? (true: a call.) -/
def okSched (md : Region.Mode) (ops : Array Oper) : List (Bool × Nat) → Array Bool → Bool
  | [], listed => (Region.ready md ops listed).isEmpty
  | (true, i) :: l, listed => (Region.ready md ops listed == [i]) && okSched md ops l (listed.setIfInBounds i true)
  | (false, i) :: l, listed => (Region.free md ops listed i && (Region.ready md ops listed).contains i) && okSched md ops l (listed.setIfInBounds i true)
/-- The walk in that order. -/
def wpSched (P : Program) (ops : Array Oper) (Q : Exit → Act → World → Prop) (S : World → Prop) : List (Bool × Nat) → Act → World → Prop
  | [], a, w => Q .normal a w
  | (true, i) :: l, a, w => ∃ o, ops[i]? = some o ∧ Region.wanted o (yielded ops a.tmps) = true ∧ Oper.wp P o a w (fun a' w' => S w' ∧ wpSched P ops Q S l a' w') Q
  | (false, i) :: l, a, w => ∃ o v, ops[i]? = some o ∧ YieldsIf P ops S o v a ∧ wpSched P ops Q S l (a.put o.dst v) w
section
variable {P : Program} {ops : Array Oper} {Q : Exit → Act → World → Prop} {S : World → Prop} {md : Region.Mode}
theorem wpAnyH_sched (hsel : Region.noSelect ops = true) (hQ : ∀ c a d v w, Q (.panic c) (a.put d v) w → Q (.panic c) a w) : ∀ (sch : List (Bool × Nat)) (listed : Array Bool) (a : Act) (w : World),
    okSched md ops sch listed = true → S w → wpSched P ops Q S sch a w → wpAnyH P md ops Q S sch.length listed a w
  | [], listed, a, w, hok, hS, h => wpAnyH_done (by simpa [okSched] using hok) h 0
  | (true, i) :: l, listed, a, w, hok, hS, h => by
    simp only [okSched, Bool.and_eq_true, beq_iff_eq] at hok
    obtain ⟨hr, hok⟩ := hok
    obtain ⟨o, ho, hw, h⟩ := h
    refine wpAnyH_all hr (by simp) (fun j hj => ?_)
    obtain rfl : j = i := by simpa using hj
    refine wpOp_mono (K := fun a' w' => S w' ∧ wpSched P ops Q S l a' w') (fun a' w' h' => ⟨h'.1, wpAnyH_sched hsel hQ l _ a' w' hok h'.1 h'.2⟩) ?_
    unfold wpOp
    simp only [ho, hw, if_true]
    exact .inl h
  | (false, i) :: l, listed, a, w, hok, hS, h => by
    simp only [okSched, Bool.and_eq_true] at hok
    obtain ⟨⟨hf, hc⟩, hok⟩ := hok
    obtain ⟨o, v, ho, hy, h⟩ := h
    exact wpAnyH_take ho hsel hf hc (fun c a w => hQ c a o.dst v w) hy hS (wpAnyH_sched hsel hQ l _ _ w hok hS h)
theorem wp_region_sched {id : Nat} {a : Act} {w : World} (S : World → Prop) (sch : List (Bool × Nat)) (hm : P.follows .mixedOrders = true) (hlen : ops.size = sch.length) (hsel : Region.noSelect ops = true)
    (hok : okSched .any ops sch (Array.replicate ops.size false) = true) (hQ : ∀ c a d v w, Q (.panic c) (a.put d v) w → Q (.panic c) a w) (hS : S w.drew)
    (h : ∀ Q' : Act → World → Prop, (∀ a' w', Q .normal a' w' → Q' a' w') → wpSched P ops (fun e a' w' => match e with | .normal => Q' a' w' | e => Q e a' w') S sch a w.drew) : (Code.region id ops true).wp P Q a w := by
  refine wp_region_held_drew (S := S) hm hS (fun _ => ?_)
  rw [hlen]
  rw [hlen] at hok
  refine wpAnyH_sched hsel hQ sch _ a _ hok hS ?_
  have h1 := h (fun a' w' => Q .normal a' w') (fun _ _ h => h)
  have e : (fun e a' w' => match e with | Exit.normal => Q .normal a' w' | e => Q e a' w') = Q := by
    funext e a' w'
    cases e <;> rfl
  rw [e] at h1
  exact h1
theorem wpSched_get {i : Nat} {l : List (Bool × Nat)} {a : Act} {w : World} {o : Oper} (ho : ops[i]? = some o) (hw : Region.wanted o (yielded ops a.tmps) = true)
    (h : ∀ K : Act → Prop, (∀ a', wpSched P ops Q S l a' w → K a') → ∃ v, (∀ w', S w' → (execOp a.eval o).run P w' = .ok (.value v) w') ∧ K (a.put o.dst v)) : wpSched P ops Q S ((false, i) :: l) a w := by
  obtain ⟨v, h1, h2⟩ := h (fun a' => wpSched P ops Q S l a' w) (fun _ h => h)
  exact ⟨o, v, ho, .inl ⟨hw, h1⟩, h2⟩
theorem wpSched_skip {i : Nat} {l : List (Bool × Nat)} {a : Act} {w : World} {o : Oper} (ho : ops[i]? = some o) (hw : Region.wanted o (yielded ops a.tmps) = false)
    (h : ∀ K : Act → Prop, (∀ a', wpSched P ops Q S l a' w → K a') → K (a.put o.dst undef)) : wpSched P ops Q S ((false, i) :: l) a w :=
  ⟨o, undef, ho, .inr ⟨hw, rfl⟩, h (fun a' => wpSched P ops Q S l a' w) (fun _ h => h)⟩
theorem wpSched_call {i : Nat} {l : List (Bool × Nat)} {a : Act} {w : World} {o : Oper} (ho : ops[i]? = some o) (hw : Region.wanted o (yielded ops a.tmps) = true)
    (h : ∀ K : Act → World → Prop, (∀ a' w', S w' → wpSched P ops Q S l a' w' → K a' w') → Oper.wp P o a w K Q) : wpSched P ops Q S ((true, i) :: l) a w :=
  ⟨o, ho, hw, h (fun a' w' => S w' ∧ wpSched P ops Q S l a' w') (fun _ _ hS h => ⟨hS, h⟩)⟩
theorem wpSched_done {a : Act} {w : World} (h : Q .normal a w) : wpSched P ops Q S [] a w := h
end
end Go.Proofs.YtllabnhgiojmmaaDoor
