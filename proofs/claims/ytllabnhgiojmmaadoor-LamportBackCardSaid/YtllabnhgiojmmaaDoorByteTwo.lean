/-
  Two slices of bytes of the call's own, that append grows in turn: neither lies in the other's block. Shared by the layers from 8 on.
-/
import Derived.Test.YtllabnhgiojmmaaDoorByteMem
import Derived.Maps.AppendAt
namespace Go.Proofs.YtllabnhgiojmmaaDoor
open Go.RowKit Go.Great
set_option linter.unusedVariables false
set_option maxRecDepth 100000

/-- Bytes are appended to one's own; they stay where they are, or lie in a new block. -/
theorem wp_appendB_at {o : Oper} {a : Act} {w : World} {K : Act → World → Prop} {Q : Exit → Act → World → Prop} (s x : Operand) (ho : o.op = .call { callee := .builtin .append, args := #[s, x], argTypes := #[41, 41] })
    (B : Nat) (v : Value) (n : Nat) (bs us : List Int) (hsv : a.eval s = v) (hown : w.ownsRow B 5 1 v n (cellsB bs)) (ad : Addr) (m c : Nat) (hx : a.eval x = .slice (some ad) m c) (hm : us.length = m) (hU : BytesAt w ad us) (hsm : n + m ≤ 100000) (hB : B ≤ w.heap.size)
    (h : ∀ v' w', w'.ownsRow B 5 1 v' (n + m) (cellsB (bs ++ us)) → w.grownBy w' v.ownBlock → (v'.ownBlock = v.ownBlock ∨ v'.ownBlock = some w.heap.size) → K (a.put o.dst v') w') : o.wp Tryd.prog a w K Q := by
  obtain ⟨i0, hi, hz0, hz1, hz2⟩ := info_parts info_byte
  subst hm
  have hnews : ∀ j u, (cellsB us)[j]? = some u → w.cell? (ad.add j) = some u := fun j u hj => by
    have hj2 : j < us.length := by
      rcases Nat.lt_or_ge j us.length with h' | h'
      · exact h'
      · rw [List.getElem?_eq_none (by rw [cellsB_length]; exact h')] at hj; cases hj
    rw [cellsB_get us j hj2] at hj
    cases hj
    exact hU j hj2
  obtain ⟨v', w', hr, h2, h3, h4, h5⟩ := run_append_own_at (P := Tryd.prog) w B 41 o.type 5 i0 _ 1 1 Tryd.underlying41 hi hz0 hz1 hz2 rfl (by decide) v n (cellsB bs) hown ad us.length c (cellsB us) (by rw [cellsB_length, Nat.mul_one]) hnews (cellsB_one us) (by unfold maxLen; omega) (by omega) hB
  unfold Oper.wp execOp
  simp only [ho, resolve, invoke, builtin, Sem.run_bind, Sem.run_pure, Result.andThen_ok, List.map_toArray, List.map_cons, List.map_nil, hsv, hx, hr]
  exact h v' w' (by rw [cellsB_app]; exact h2) h3 h5
/-- Two slices of the call's own. -/
structure TwoB (B : Nat) (w : World) (v1 v2 : Value) (n1 n2 : Nat) (b1 b2 : List Int) : Prop where
  fst : w.ownsRow B 5 1 v1 n1 (cellsB b1)
  snd : w.ownsRow B 5 1 v2 n2 (cellsB b2)
  ne : v1.ownBlock = none ∨ v1.ownBlock ≠ v2.ownBlock
theorem TwoB.start (B : Nat) (w : World) : TwoB B w (.slice none 0 0) (.slice none 0 0) 0 0 [] [] := ⟨World.ownsRow_nil _ _ _ _, World.ownsRow_nil _ _ _ _, .inl rfl⟩
theorem TwoB.ne' {B : Nat} {w : World} {v1 v2 : Value} {n1 n2 : Nat} {b1 b2 : List Int} (h : TwoB B w v1 v2 n1 n2 b1 b2) : v2.ownBlock = none ∨ v2.ownBlock ≠ v1.ownBlock := by
  rcases h.ne with e | e
  · rw [e]; exact Classical.em _
  · exact .inr fun e' => e e'.symm
theorem TwoB.next {B : Nat} {w w' : World} {v1 v2 : Value} {n1 n2 : Nat} {b1 b2 : List Int} (h : TwoB B w v1 v2 n1 n2 b1 b2) (hb : Below w.heap.size w w') : TwoB B w' v1 v2 n1 n2 b1 b2 :=
  ⟨own_below h.fst hb, own_below h.snd hb, h.ne⟩
theorem TwoB.putA {B : Nat} {w w' : World} {v1 v2 v1' : Value} {n1 n2 m : Nat} {b1 b2 us : List Int} (h : TwoB B w v1 v2 n1 n2 b1 b2) (h1 : w'.ownsRow B 5 1 v1' m (cellsB us)) (hg : w.grownBy w' v1.ownBlock) (ha : v1'.ownBlock = v1.ownBlock ∨ v1'.ownBlock = some w.heap.size) : TwoB B w' v1' v2 m n2 us b2 := by
  refine ⟨h1, h.snd.kept hg h.ne', ?_⟩
  rcases ha with e | e
  · rw [e]; exact h.ne
  · refine .inr fun e' => ?_
    have := (h.snd.lt _ (e'.symm.trans e)).2
    omega
theorem TwoB.putB {B : Nat} {w w' : World} {v1 v2 v2' : Value} {n1 n2 m : Nat} {b1 b2 us : List Int} (h : TwoB B w v1 v2 n1 n2 b1 b2) (h1 : w'.ownsRow B 5 1 v2' m (cellsB us)) (hg : w.grownBy w' v2.ownBlock) (ha : v2'.ownBlock = v2.ownBlock ∨ v2'.ownBlock = some w.heap.size) : TwoB B w' v1 v2' n1 m b1 us := by
  refine ⟨h.fst.kept hg h.ne, h1, ?_⟩
  rcases ha with e | e
  · rw [e]; exact h.ne
  · refine .inr fun e' => ?_
    have := (h.fst.lt _ (e'.trans e)).2
    omega
/-- Below a mark nothing turns when one's own bytes grow. -/
theorem own_grown {B n : Nat} {w w' : World} {v : Value} {bs : List Int} (h : w.ownsRow B 5 1 v n (cellsB bs)) (hg : w.grownBy w' v.ownBlock) (hB : B ≤ w.heap.size) : Below B w w' := (Below.refl B w).grown hg hB (fun k hk => (h.lt k hk).1)
end Go.Proofs.YtllabnhgiojmmaaDoor
