/-
  A list copied: append to nothing, of a slice that may be nil.
-/
import Derived.Test.YtkjgkeigfebcmaaDoorListMem
namespace Go.Proofs.YtkjgkeigfebcmaaDoor
open Go.RowKit Go.Great
set_option linter.unusedVariables false
set_option maxRecDepth 100000

theorem append_nilH (ty : TypeId) (c : Nat) (w : World) : (Builtin.append_ #[22, 22] ty #[.slice none 0 0, .slice none 0 c]).run Tryd.prog w = .ok (.slice none 0 0) w := by
  obtain ⟨i0, hi, hz0, hz1, hz2⟩ := info_parts infoHash
  simp [Builtin.append_, run_underlying Tryd.underlying22, sizeOf, typeInfo, hi, Builtin.lenOf, Builtin.firstCells]
theorem wp_appendC {o : Oper} {a : Act} {w : World} {K : Act → World → Prop} {Q : Exit → Act → World → Prop} (s x : Operand) (ho : o.op = .call { callee := .builtin .append, args := #[s, x], argTypes := #[22, 22] })
    (B : Nat) (us : List (List Int)) (hsv : a.eval s = .slice none 0 0) (A : Option Addr) (m c : Nat) (hx : a.eval x = .slice A m c) (hm : m = us.length) (hu : hashes us) (hU : HL w w.heap.size A us) (hsm : m ≤ 8192) (hB : B ≤ w.heap.size)
    (h : ∀ v' w', w'.ownsRow B 30 32 v' m (cellsL us) → w.grownBy w' none → K (a.put o.dst v') w') : o.wp Tryd.prog a w K Q := by
  cases A with
  | some ad =>
    refine wp_appendH s x ho B (.slice none 0 0) 0 [] us hsv ⟨rfl, .inl ⟨rfl, rfl⟩⟩ ad m c hx hm hu hU (by omega) hB (fun v' w' h1 h2 => ?_)
    rw [Nat.zero_add] at h1
    exact h v' w' h1 h2
  | none =>
    have e0 : us = [] := by
      cases us with
      | nil => rfl
      | cons u us => obtain ⟨ad, e⟩ := hU.some 0 (by simp); cases e
    subst e0
    obtain rfl : m = 0 := hm
    have hk := h (.slice none 0 0) w ⟨rfl, .inl ⟨rfl, rfl⟩⟩ (grown_of_below (Below.refl _ _) none)
    unfold Oper.wp execOp
    simp only [ho, resolve, invoke, builtin, Sem.run_bind, Sem.run_pure, Result.andThen_ok, List.map_toArray, List.map_cons, List.map_nil, hsv, hx, append_nilH]
    exact hk
end Go.Proofs.YtkjgkeigfebcmaaDoor
