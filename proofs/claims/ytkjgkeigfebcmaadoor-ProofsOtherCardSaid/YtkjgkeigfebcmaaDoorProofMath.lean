/-
  Proofs that leaves are the beginning of others, as plain functions (layer 7): the sub-proof, what a proof says, what Check answers, and that each proof says both roots. No program is named here.
-/
import Derived.Test.YtkjgkeigfebcmaaDoorTreeMath
namespace Go.Proofs.YtkjgkeigfebcmaaDoor
open Go.RowKit
set_option linter.unusedVariables false
set_option maxRecDepth 100000

/-- The sub-proof of m among leaves, known or not (m from 1 to how many there are). -/
def subL (ls : List (List Int)) (m : Nat) (known : Bool) : List (List Int) :=
  if h : ls.length ≤ m ∨ ls.length < 2 then (if known then [] else [rootL ls])
  else if m ≤ splitN ls.length then subL (ls.take (splitN ls.length)) m known ++ [rootL (ls.drop (splitN ls.length))]
  else subL (ls.drop (splitN ls.length)) (m - splitN ls.length) false ++ [rootL (ls.take (splitN ls.length))]
termination_by ls.length
decreasing_by
  · rw [List.length_take]; have := splitN_lt ls.length (by omega); omega
  · rw [List.length_drop]; have := splitN_pos ls.length (by omega); omega
theorem subL_known (ls : List (List Int)) (m : Nat) (h : ls.length ≤ m) : subL ls m true = [] := by rw [subL, dif_pos (.inl h), if_pos rfl]
theorem subL_not (ls : List (List Int)) (m : Nat) (h : ls.length ≤ m) : subL ls m false = [rootL ls] := by rw [subL, dif_pos (.inl h), if_neg (by decide)]
theorem subL_left (ls : List (List Int)) (m : Nat) (known : Bool) (h0 : 1 ≤ m) (h : m < ls.length) (hk : m ≤ splitN ls.length) : subL ls m known = subL (ls.take (splitN ls.length)) m known ++ [rootL (ls.drop (splitN ls.length))] := by
  rw [subL, dif_neg (by omega), if_pos hk]
theorem subL_right (ls : List (List Int)) (m : Nat) (known : Bool) (h0 : 1 ≤ m) (h : m < ls.length) (hk : ¬ m ≤ splitN ls.length) : subL ls m known = subL (ls.drop (splitN ls.length)) (m - splitN ls.length) false ++ [rootL (ls.take (splitN ls.length))] := by
  rw [subL, dif_neg (by omega), if_neg hk]
theorem subL_hashes (n : Nat) : ∀ (ls : List (List Int)) (m : Nat) (known : Bool), ls.length = n → hashes ls → hashes (subL ls m known) := by
  induction n using Nat.strongRecOn with
  | ind n ih =>
    intro ls m known hn h
    have snoc : ∀ (p : List (List Int)) (x : List Int), hashes p → (x.length = 32 ∧ bytes x) → hashes (p ++ [x]) := fun p x hp hx l hl => by
      rcases List.mem_append.1 hl with hl | hl
      · exact hp l hl
      · rw [List.mem_singleton.1 hl]; exact hx
    by_cases h2 : ls.length ≤ m ∨ ls.length < 2
    · rw [subL, dif_pos h2]
      split
      · intro l hl; cases hl
      · intro l hl; rw [List.mem_singleton.1 hl]; exact rootL_is _ h
    · have h3 := splitN_lt ls.length (by omega)
      have h4 := splitN_pos ls.length (by omega)
      rw [subL, dif_neg h2]
      split
      · exact snoc _ _ (ih (splitN ls.length) (by omega) _ m known (by rw [List.length_take]; omega) (hashes_take h _)) (rootL_is _ (hashes_drop h _))
      · exact snoc _ _ (ih (ls.length - splitN ls.length) (by omega) _ _ false (by rw [List.length_drop]) (hashes_drop h _)) (rootL_is _ (hashes_take h _))
/-- Where n is parted. -/
theorem split_two (n : Nat) (h : 2 ≤ n) : ∃ b, splitN n = 2 ^ b ∧ 2 ^ b < n ∧ n ≤ 2 ^ (b + 1) := by
  have h1 := Nat.log2_self_le (n := n - 1) (by omega)
  have h2 := Nat.lt_log2_self (n := n - 1)
  exact ⟨Nat.log2 (n - 1), by unfold splitN; rw [if_neg (by omega)], by omega, by omega⟩
/-- A sub-proof is short. -/
theorem subL_length (b : Nat) : ∀ (ls : List (List Int)) (m : Nat) (known : Bool), ls.length ≤ 2 ^ b → (subL ls m known).length ≤ b + 1 := by
  induction b with
  | zero =>
    intro ls m known h
    simp at h
    rw [subL, dif_pos (.inr (by omega))]
    split <;> simp
  | succ b ih =>
    intro ls m known h
    by_cases h2 : ls.length ≤ m ∨ ls.length < 2
    · rw [subL, dif_pos h2]
      split <;> simp
    · obtain ⟨c, e, h3, h4⟩ := split_two ls.length (by omega)
      have hcb : c ≤ b := by
        by_cases hc : c ≤ b
        · exact hc
        · have := Nat.pow_le_pow_right (n := 2) (by decide) (show b + 1 ≤ c by omega)
          omega
      have hp := Nat.pow_le_pow_right (n := 2) (by decide) hcb
      have h5 : (2 : Nat) ^ (c + 1) = 2 * 2 ^ c := by rw [Nat.pow_succ]; omega
      rw [subL, dif_neg h2, e]
      split
      · rw [List.length_append, List.length_singleton]
        have := ih (ls.take (2 ^ c)) m known (by rw [List.length_take]; omega)
        omega
      · rw [List.length_append, List.length_singleton]
        have := ih (ls.drop (2 ^ c)) (m - 2 ^ c) false (by rw [List.length_drop]; omega)
        omega
/-- What a proof, its last hash first, says of m among n. -/
def saysR (older : List Int) : Nat → Nat → Bool → List (List Int) → Option (List Int × List Int)
  | m, n, known, [] => if n ≤ m then (if known then some (older, older) else none) else none
  | m, n, known, x :: r => if n ≤ m then (if known then none else if r.length = 0 then some (x, x) else none)
    else if m ≤ splitN n then (saysR older m (splitN n) known r).map (fun y => (y.1, nodeL y.2 x))
    else (saysR older (m - splitN n) (n - splitN n) false r).map (fun y => (nodeL x y.1, nodeL x y.2))
theorem saysR_none {older : List Int} {m n : Nat} {known : Bool} (h : ¬ n ≤ m) : saysR older m n known [] = none := by unfold saysR; rw [if_neg h]
theorem saysR_known {older : List Int} {m n : Nat} (h : n ≤ m) (r : List (List Int)) : saysR older m n true r = if r.length = 0 then some (older, older) else none := by
  cases r with
  | nil => unfold saysR; rw [if_pos h]; rfl
  | cons x r => unfold saysR; rw [if_pos h, if_pos rfl, if_neg (by simp)]
theorem saysR_not {older : List Int} {m n : Nat} (h : n ≤ m) (r : List (List Int)) : saysR older m n false r = if r.length = 1 then some (r.getD 0 [], r.getD 0 []) else none := by
  cases r with
  | nil => unfold saysR; rw [if_pos h]; rfl
  | cons x r =>
    unfold saysR; rw [if_pos h, if_neg (by decide)]
    by_cases h0 : r.length = 0
    · rw [if_pos h0, if_pos (by rw [List.length_cons]; omega)]; rfl
    · rw [if_neg h0, if_neg (by rw [List.length_cons]; omega)]
theorem saysR_left {older : List Int} {m n : Nat} {known : Bool} {x : List Int} {r : List (List Int)} (h : ¬ n ≤ m) (hk : m ≤ splitN n) : saysR older m n known (x :: r) = (saysR older m (splitN n) known r).map (fun y => (y.1, nodeL y.2 x)) := by
  rw [saysR, if_neg h, if_pos hk]
theorem saysR_right {older : List Int} {m n : Nat} {known : Bool} {x : List Int} {r : List (List Int)} (h : ¬ n ≤ m) (hk : ¬ m ≤ splitN n) : saysR older m n known (x :: r) = (saysR older (m - splitN n) (n - splitN n) false r).map (fun y => (nodeL x y.1, nodeL x y.2)) := by
  rw [saysR, if_neg h, if_neg hk]
/-- Of one length only it says something. -/
theorem saysR_length (r : List (List Int)) : ∀ (o1 o2 : List Int) (m n : Nat) (known : Bool) (r2 : List (List Int)), saysR o1 m n known r ≠ none → saysR o2 m n known r2 ≠ none → r2.length = r.length := by
  induction r with
  | nil =>
    intro o1 o2 m n known r2 h1 h2
    by_cases hm : n ≤ m
    · cases known with
      | true => rw [saysR_known hm] at h2; split at h2
                · assumption
                · exact absurd rfl h2
      | false => rw [saysR_not hm] at h1; exact absurd rfl h1
    · rw [saysR_none hm] at h1; exact absurd rfl h1
  | cons x r ih =>
    intro o1 o2 m n known r2 h1 h2
    by_cases hm : n ≤ m
    · cases known with
      | true => rw [saysR_known hm, if_neg (by simp)] at h1; exact absurd rfl h1
      | false =>
        rw [saysR_not hm] at h1 h2
        split at h1
        · split at h2
          · omega
          · exact absurd rfl h2
        · exact absurd rfl h1
    · cases r2 with
      | nil => rw [saysR_none hm] at h2; exact absurd rfl h2
      | cons x2 r2 =>
        rw [List.length_cons, List.length_cons]
        congr 1
        by_cases hk : m ≤ splitN n
        · rw [saysR_left hm hk] at h1 h2
          exact ih o1 o2 m (splitN n) known r2 (fun e => h1 (by rw [e]; rfl)) (fun e => h2 (by rw [e]; rfl))
        · rw [saysR_right hm hk] at h1 h2
          exact ih o1 o2 (m - splitN n) (n - splitN n) false r2 (fun e => h1 (by rw [e]; rfl)) (fun e => h2 (by rw [e]; rfl))
/-- Each proof says both roots. -/
theorem saysR_sub (n : Nat) : ∀ (ls : List (List Int)) (m : Nat) (known : Bool) (o : List Int), ls.length = n → 1 ≤ m → m ≤ n → (known = true → o = rootL (ls.take m)) → saysR o m n known (subL ls m known).reverse = some (rootL (ls.take m), rootL ls) := by
  induction n using Nat.strongRecOn with
  | ind n ih =>
    intro ls m known o hn h1 hm ho
    by_cases he : n ≤ m
    · obtain rfl : m = n := by omega
      have ht : ls.take m = ls := List.take_of_length_le (by omega)
      cases known with
      | true => rw [subL_known ls m (by omega), saysR_known (Nat.le_refl _), ho rfl, ht]; rfl
      | false => rw [subL_not ls m (by omega), saysR_not (Nat.le_refl _), ht]; rfl
    · obtain ⟨b, e, h3, h4⟩ := split_two n (by omega)
      have hp := Nat.two_pow_pos b
      have h5 : (2 : Nat) ^ (b + 1) = 2 * 2 ^ b := by rw [Nat.pow_succ]; omega
      by_cases hk : m ≤ splitN n
      · rw [subL_left ls m known h1 (by omega) (by rw [hn]; exact hk), List.reverse_append, hn]
        show saysR o m n known (_ :: (subL (ls.take (splitN n)) m known).reverse) = _
        have et : (ls.take (splitN n)).take m = ls.take m := by rw [List.take_take, Nat.min_eq_left hk]
        rw [saysR_left he hk, ih (splitN n) (by omega) (ls.take (splitN n)) m known o (by rw [List.length_take]; omega) h1 hk (by rw [et]; exact ho), et, rootL_more ls (by omega), hn]
        rfl
      · rw [subL_right ls m known h1 (by omega) (by rw [hn]; exact hk), List.reverse_append, hn]
        show saysR o m n known (_ :: (subL (ls.drop (splitN n)) (m - splitN n) false).reverse) = _
        rw [saysR_right he hk, ih (n - splitN n) (by omega) (ls.drop (splitN n)) (m - splitN n) false o (by rw [List.length_drop]; omega) (by omega) (by omega) (by intro h; cases h)]
        have em : (ls.take m).length = m := by rw [List.length_take]; omega
        have es : splitN m = splitN n := by rw [e]; exact splitN_is m b (by omega) (by omega)
        have e1 : (ls.take m).take (splitN n) = ls.take (splitN n) := by rw [List.take_take, Nat.min_eq_left (by omega)]
        have e2 : (ls.take m).drop (splitN n) = (ls.drop (splitN n)).take (m - splitN n) := by rw [List.drop_take]
        rw [rootL_more (ls.take m) (by omega), em, es, e1, e2, rootL_more ls (by omega), hn]
        rfl
/-- The proof of m among leaves. -/
def proofL (ls : List (List Int)) (m : Nat) : List (List Int) := if m = 0 then [] else subL ls m true
/-- The proof, and the error. -/
def proofF (ls : List (List Int)) (m : Int) : List (List Int) × Int := if m < 0 ∨ ls.length < m then ([], 2) else (proofL ls m.toNat, 0)
theorem proofF_no {ls : List (List Int)} {m : Int} (h : m < 0 ∨ ls.length < m) : proofF ls m = ([], 2) := by unfold proofF; rw [if_pos h]
theorem proofF_ok {ls : List (List Int)} {m : Nat} (h : m ≤ ls.length) : proofF ls m = (proofL ls m, 0) := by unfold proofF; rw [if_neg (by omega)]; rfl
theorem proofL_zero (ls : List (List Int)) : proofL ls 0 = [] := by unfold proofL; rw [if_pos rfl]
theorem proofL_some (ls : List (List Int)) (m : Nat) (h : 1 ≤ m) : proofL ls m = subL ls m true := by unfold proofL; rw [if_neg (by omega)]
theorem proofL_hashes {ls : List (List Int)} (m : Nat) (h : hashes ls) : hashes (proofL ls m) := by
  unfold proofL
  split
  · intro x hx; cases hx
  · exact subL_hashes _ ls m true rfl h
theorem proofF_hashes {ls : List (List Int)} {m : Int} (h : hashes ls) : hashes (proofF ls m).1 := by
  unfold proofF
  split
  · intro x hx; cases hx
  · exact proofL_hashes _ h
theorem proofL_length (b : Nat) (ls : List (List Int)) (m : Nat) (h : ls.length ≤ 2 ^ b) : (proofL ls m).length ≤ b + 1 := by
  unfold proofL
  split
  · simp
  · exact subL_length b ls m true h
/-- Whether a proof holds. -/
def holdsP (m n : Nat) (older newer : List Int) (p : List (List Int)) : Prop :=
  if m = 0 then older = rootL [] ∧ p.length = 0 ∧ (0 < n ∨ newer = older) else saysR older m n true p.reverse = some (older, newer)
instance (m n : Nat) (older newer : List Int) (p : List (List Int)) : Decidable (holdsP m n older newer p) := by unfold holdsP; infer_instance
theorem holdsP_zero {n : Nat} {older newer : List Int} {p : List (List Int)} : holdsP 0 n older newer p ↔ (older = rootL [] ∧ p.length = 0 ∧ (0 < n ∨ newer = older)) := by unfold holdsP; rw [if_pos rfl]
theorem holdsP_some {m n : Nat} {older newer : List Int} {p : List (List Int)} (h : 1 ≤ m) : holdsP m n older newer p ↔ saysR older m n true p.reverse = some (older, newer) := by unfold holdsP; rw [if_neg (by omega)]
/-- What Check answers: 0, 2 or 80. -/
def checkP (m n : Int) (older newer : List Int) (p : List (List Int)) : Int :=
  if n < 0 ∨ 4096 < n ∨ m < 0 ∨ n < m then 2 else if holdsP m.toNat n.toNat older newer p then 0 else 80
theorem checkP_arg {m n : Int} {older newer : List Int} {p : List (List Int)} (h : n < 0 ∨ 4096 < n ∨ m < 0 ∨ n < m) : checkP m n older newer p = 2 := by unfold checkP; rw [if_pos h]
theorem checkP_in {m n : Nat} {older newer : List Int} {p : List (List Int)} (hm : m ≤ n) (hn : n ≤ 4096) : checkP m n older newer p = if holdsP m n older newer p then 0 else 80 := by
  unfold checkP; rw [if_neg (by omega)]; rfl
theorem holdsP_proof {ls : List (List Int)} {m : Nat} (hm : m ≤ ls.length) : holdsP m ls.length (rootL (ls.take m)) (rootL ls) (proofL ls m) := by
  by_cases h : m = 0
  · subst h
    rw [holdsP_zero, proofL_zero]
    refine ⟨rfl, rfl, ?_⟩
    by_cases h0 : ls.length = 0
    · right; rw [List.eq_nil_of_length_eq_zero h0]; rfl
    · left; omega
  · rw [holdsP_some (by omega), proofL_some ls m (by omega)]
    exact saysR_sub ls.length ls m true _ rfl (by omega) hm (fun _ => rfl)
theorem checkP_proof {ls : List (List Int)} {m : Nat} (hm : m ≤ ls.length) (hn : ls.length ≤ 4096) : checkP m ls.length (rootL (ls.take m)) (rootL ls) (proofL ls m) = 0 := by
  rw [checkP_in hm hn, if_pos (holdsP_proof hm)]
/-- With more hashes, or fewer, nothing holds. -/
theorem checkP_length {ls : List (List Int)} {m : Nat} {older newer : List Int} {p : List (List Int)} (hm : m ≤ ls.length) (hn : ls.length ≤ 4096) (hl : p.length ≠ (proofL ls m).length) : checkP m ls.length older newer p = 80 := by
  rw [checkP_in hm hn, if_neg]
  intro h
  apply hl
  by_cases h0 : m = 0
  · subst h0
    rw [holdsP_zero] at h
    rw [proofL_zero, h.2.1]; rfl
  · rw [holdsP_some (by omega)] at h
    rw [proofL_some ls m (by omega)]
    have h1 := saysR_sub ls.length ls m true _ rfl (by omega) hm (fun _ => rfl)
    have := saysR_length (subL ls m true).reverse _ older m ls.length true p.reverse (by rw [h1]; intro e; cases e) (by rw [h]; intro e; cases e)
    rw [List.length_reverse, List.length_reverse] at this
    exact this
end Go.Proofs.YtkjgkeigfebcmaaDoor
