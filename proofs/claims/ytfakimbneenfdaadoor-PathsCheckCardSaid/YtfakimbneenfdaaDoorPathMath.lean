/-
  Paths of leaves as plain functions (layer 6): the path, what it comes to (from below, and from above), and that each leaf's path comes to the root. No program is named here.
-/
import Derived.Test.YtfakimbneenfdaaDoorTreeMath
namespace Go.Proofs.YtfakimbneenfdaaDoor
open Go.RowKit
set_option linter.unusedVariables false
set_option maxRecDepth 100000

/-- The path of a leaf. -/
def pathL (ls : List (List Int)) (i : Nat) : List (List Int) :=
  if h : ls.length < 2 then []
  else if i < splitN ls.length then pathL (ls.take (splitN ls.length)) i ++ [rootL (ls.drop (splitN ls.length))]
  else pathL (ls.drop (splitN ls.length)) (i - splitN ls.length) ++ [rootL (ls.take (splitN ls.length))]
termination_by ls.length
decreasing_by
  · rw [List.length_take]; have := splitN_lt ls.length (by omega); omega
  · rw [List.length_drop]; have := splitN_pos ls.length (by omega); omega
theorem pathL_few (ls : List (List Int)) (i : Nat) (h : ls.length < 2) : pathL ls i = [] := by rw [pathL, dif_pos h]
theorem pathL_left (ls : List (List Int)) (i : Nat) (h : 2 ≤ ls.length) (hi : i < splitN ls.length) : pathL ls i = pathL (ls.take (splitN ls.length)) i ++ [rootL (ls.drop (splitN ls.length))] := by
  rw [pathL, dif_neg (by omega), if_pos hi]
theorem pathL_right (ls : List (List Int)) (i : Nat) (h : 2 ≤ ls.length) (hi : ¬ i < splitN ls.length) : pathL ls i = pathL (ls.drop (splitN ls.length)) (i - splitN ls.length) ++ [rootL (ls.take (splitN ls.length))] := by
  rw [pathL, dif_neg (by omega), if_neg hi]
theorem pathL_hashes (n : Nat) : ∀ (ls : List (List Int)) (i : Nat), ls.length = n → hashes ls → hashes (pathL ls i) := by
  induction n using Nat.strongRecOn with
  | ind n ih =>
    intro ls i hn h
    have snoc : ∀ (p : List (List Int)) (x : List Int), hashes p → (x.length = 32 ∧ bytes x) → hashes (p ++ [x]) := fun p x hp hx l hl => by
      rcases List.mem_append.1 hl with hl | hl
      · exact hp l hl
      · rw [List.mem_singleton.1 hl]; exact hx
    by_cases h2 : ls.length < 2
    · rw [pathL_few ls i h2]; intro l hl; cases hl
    · have h3 := splitN_lt ls.length (by omega)
      have h4 := splitN_pos ls.length (by omega)
      by_cases hi : i < splitN ls.length
      · rw [pathL_left ls i (by omega) hi]
        exact snoc _ _ (ih (splitN ls.length) (by omega) _ i (by rw [List.length_take]; omega) (hashes_take h _)) (rootL_is _ (hashes_drop h _))
      · rw [pathL_right ls i (by omega) hi]
        exact snoc _ _ (ih (ls.length - splitN ls.length) (by omega) _ _ (by rw [List.length_drop]) (hashes_drop h _)) (rootL_is _ (hashes_take h _))
/-- What a leaf, its number among n and a path, its last one first, come to. -/
def comeR (h : List Int) : Nat → Nat → List (List Int) → Option (List Int)
  | i, n, [] => if n = 1 then some h else none
  | i, n, x :: r => if n = 1 then none else if i < splitN n then (comeR h i (splitN n) r).map (fun y => nodeL y x) else (comeR h (i - splitN n) (n - splitN n) r).map (fun y => nodeL x y)
/-- On which side a leaf is, level by level from below: true: left. -/
def sides (i last : Nat) : List Bool :=
  if h : last = 0 then [] else if i = last ∧ i % 2 = 0 then sides (i / 2) (last / 2) else (i % 2 == 0) :: sides (i / 2) (last / 2)
termination_by last
decreasing_by all_goals omega
theorem sides_zero (i : Nat) : sides i 0 = [] := by rw [sides, dif_pos rfl]
theorem sides_skip (i last : Nat) (h0 : last ≠ 0) (h : i = last ∧ i % 2 = 0) : sides i last = sides (i / 2) (last / 2) := by rw [sides, dif_neg h0, if_pos h]
theorem sides_more (i last : Nat) (h0 : last ≠ 0) (h : ¬ (i = last ∧ i % 2 = 0)) : sides i last = (i % 2 == 0) :: sides (i / 2) (last / 2) := by rw [sides, dif_neg h0, if_neg h]
theorem sides_left (b : Nat) : ∀ i last, i < 2 ^ b → 2 ^ b ≤ last → last < 2 ^ (b + 1) → sides i last = sides i (2 ^ b - 1) ++ [true] := by
  induction b with
  | zero =>
    intro i last h1 h2 h3
    simp at h1 h2 h3
    obtain rfl : last = 1 := by omega
    subst h1
    rw [sides_more 0 1 (by omega) (by omega)]
    simp [sides_zero]
  | succ b ih =>
    intro i last h1 h2 h3
    have hp := Nat.two_pow_pos b
    have e1 : 2 ^ (b + 1) = 2 * 2 ^ b := by rw [Nat.pow_succ]; omega
    have e2 : 2 ^ (b + 1 + 1) = 4 * 2 ^ b := by rw [Nat.pow_succ, e1]; omega
    rw [e1] at h1 h2
    rw [e2] at h3
    rw [e1, sides_more i last (by omega) (by omega), sides_more i (2 * 2 ^ b - 1) (by omega) (by omega), ih (i / 2) (last / 2) (by omega) (by omega) (by rw [e1]; omega), show (2 * 2 ^ b - 1) / 2 = 2 ^ b - 1 by omega]
    rfl
theorem sides_right (b : Nat) : ∀ i last, 2 ^ b ≤ i → i ≤ last → last < 2 ^ (b + 1) → sides i last = sides (i - 2 ^ b) (last - 2 ^ b) ++ [false] := by
  induction b with
  | zero =>
    intro i last h1 h2 h3
    simp at h1 h2 h3
    obtain rfl : last = 1 := by omega
    obtain rfl : i = 1 := by omega
    rw [sides_more 1 1 (by omega) (by omega)]
    simp [sides_zero]
  | succ b ih =>
    intro i last h1 h2 h3
    have hp := Nat.two_pow_pos b
    have e1 : 2 ^ (b + 1) = 2 * 2 ^ b := by rw [Nat.pow_succ]; omega
    have e2 : 2 ^ (b + 1 + 1) = 4 * 2 ^ b := by rw [Nat.pow_succ, e1]; omega
    rw [e1] at h1
    rw [e2] at h3
    rw [e1]
    have hi := ih (i / 2) (last / 2) (by omega) (by omega) (by rw [e1]; omega)
    have d1 : (i - 2 * 2 ^ b) / 2 = i / 2 - 2 ^ b := by omega
    have d2 : (last - 2 * 2 ^ b) / 2 = last / 2 - 2 ^ b := by omega
    by_cases hs : i = last ∧ i % 2 = 0
    · rw [sides_skip i last (by omega) hs, hi]
      by_cases h0 : last - 2 * 2 ^ b = 0
      · rw [h0, sides_zero, show last / 2 - 2 ^ b = 0 by omega, sides_zero]
      · rw [sides_skip (i - 2 * 2 ^ b) (last - 2 * 2 ^ b) h0 (by omega), d1, d2]
    · rw [sides_more i last (by omega) hs, hi, sides_more (i - 2 * 2 ^ b) (last - 2 * 2 ^ b) (by omega) (by omega), d1, d2, show (i - 2 * 2 ^ b) % 2 = i % 2 by omega]
      rfl
/-- Where n is parted. -/
theorem split_pow (n : Nat) (h : 2 ≤ n) : ∃ b, splitN n = 2 ^ b ∧ 2 ^ b < n ∧ n ≤ 2 ^ (b + 1) := by
  have h1 := Nat.log2_self_le (n := n - 1) (by omega)
  have h2 := Nat.lt_log2_self (n := n - 1)
  exact ⟨Nat.log2 (n - 1), by unfold splitN; rw [if_neg (by omega)], by omega, by omega⟩
theorem sides_split (i n : Nat) (h : 2 ≤ n) (hi : i < n) : sides i (n - 1) = if i < splitN n then sides i (splitN n - 1) ++ [true] else sides (i - splitN n) (n - splitN n - 1) ++ [false] := by
  obtain ⟨b, e, h1, h2⟩ := split_pow n h
  rw [e]
  split
  · rename_i hk
    exact sides_left b i (n - 1) hk (by omega) (by omega)
  · rename_i hk
    rw [sides_right b i (n - 1) (by omega) (by omega) (by omega), show n - 1 - 2 ^ b = n - 2 ^ b - 1 by omega]
/-- A hash put together with others, from below. -/
def climbD (h : List Int) : List Bool → List (List Int) → List Int
  | true :: d, x :: p => climbD (nodeL h x) d p
  | false :: d, x :: p => climbD (nodeL x h) d p
  | _, _ => h
theorem climbD_snoc (d : List Bool) : ∀ (h : List Int) (p : List (List Int)) (b : Bool) (x : List Int), d.length = p.length → climbD h (d ++ [b]) (p ++ [x]) = if b then nodeL (climbD h d p) x else nodeL x (climbD h d p) := by
  induction d with
  | nil =>
    intro h p b x hl
    obtain rfl : p = [] := List.eq_nil_of_length_eq_zero hl.symm
    cases b <;> rfl
  | cons c d ih =>
    intro h p b x hl
    cases p with
    | nil => simp at hl
    | cons y p =>
      have := ih (if c then nodeL h y else nodeL y h) p b x (by simpa using hl)
      cases c <;> exact this
theorem comeR_sides (r : List (List Int)) : ∀ (h : List Int) (i n : Nat), i < n → comeR h i n r = if (sides i (n - 1)).length = r.length then some (climbD h (sides i (n - 1)) r.reverse) else none := by
  induction r with
  | nil =>
    intro h i n hi
    by_cases hn : n = 1
    · subst hn
      rw [sides_zero]; rfl
    · have := sides_split i n (by omega) hi
      have hl : 0 < (sides i (n - 1)).length := by rw [this]; split <;> simp
      unfold comeR
      rw [if_neg hn, if_neg (by rw [List.length_nil]; omega)]
  | cons x r ih =>
    intro h i n hi
    by_cases hn : n = 1
    · subst hn
      unfold comeR
      rw [if_pos rfl, sides_zero, if_neg (by simp)]
    · have hsp := sides_split i n (by omega) hi
      have hk1 := splitN_lt n (by omega)
      have hk2 := splitN_pos n (by omega)
      unfold comeR
      rw [if_neg hn, hsp, List.reverse_cons]
      by_cases hk : i < splitN n
      · rw [if_pos hk, if_pos hk, ih h i (splitN n) hk, List.length_append, List.length_singleton, List.length_cons]
        by_cases hl : (sides i (splitN n - 1)).length = r.length
        · rw [if_pos hl, if_pos (by omega), climbD_snoc _ _ _ _ _ (by rw [hl, List.length_reverse])]; rfl
        · rw [if_neg hl, if_neg (by omega)]; rfl
      · rw [if_neg hk, if_neg hk, ih h (i - splitN n) (n - splitN n) (by omega), List.length_append, List.length_singleton, List.length_cons]
        by_cases hl : (sides (i - splitN n) (n - splitN n - 1)).length = r.length
        · rw [if_pos hl, if_pos (by omega), climbD_snoc _ _ _ _ _ (by rw [hl, List.length_reverse])]; rfl
        · rw [if_neg hl, if_neg (by omega)]; rfl
/-- What a leaf and a path come to, of its number i among last + 1. -/
def comeL (h : List Int) (i last : Nat) (p : List (List Int)) : Option (List Int) := if (sides i last).length = p.length then some (climbD h (sides i last) p) else none
theorem comeR_L (h : List Int) (i n : Nat) (hi : i < n) (p : List (List Int)) : comeR h i n p.reverse = comeL h i (n - 1) p := by
  rw [comeR_sides _ h i n hi, List.length_reverse, List.reverse_reverse]; rfl
theorem comeL_done (h : List Int) (i : Nat) : comeL h i 0 [] = some h := by unfold comeL; rw [sides_zero]; rfl
theorem comeL_left (h : List Int) (i : Nat) (x : List Int) (p : List (List Int)) : comeL h i 0 (x :: p) = none := by unfold comeL; rw [sides_zero]; rfl
theorem sides_length_pos (last : Nat) : ∀ i, last ≠ 0 → i ≤ last → 0 < (sides i last).length := by
  induction last using Nat.strongRecOn with
  | ind last ih =>
    intro i h0 hi
    by_cases hs : i = last ∧ i % 2 = 0
    · rw [sides_skip i last h0 hs]; exact ih (last / 2) (by omega) (i / 2) (by omega) (by omega)
    · rw [sides_more i last h0 hs]; simp
theorem comeL_few (h : List Int) (i last : Nat) (h0 : last ≠ 0) (hi : i ≤ last) : comeL h i last [] = none := by
  unfold comeL
  have := sides_length_pos last i h0 hi
  rw [if_neg (by rw [List.length_nil]; omega)]
theorem comeL_skip (h : List Int) (i last : Nat) (p : List (List Int)) (h0 : last ≠ 0) (hs : i = last ∧ i % 2 = 0) : comeL h i last p = comeL h (i / 2) (last / 2) p := by
  unfold comeL; rw [sides_skip i last h0 hs]
theorem comeL_even (h : List Int) (i last : Nat) (x : List Int) (p : List (List Int)) (h0 : last ≠ 0) (hs : ¬ (i = last ∧ i % 2 = 0)) (he : i % 2 = 0) : comeL h i last (x :: p) = comeL (nodeL h x) (i / 2) (last / 2) p := by
  unfold comeL
  rw [sides_more i last h0 hs, show (i % 2 == 0) = true by simp [he]]
  simp only [List.length_cons, Nat.add_right_cancel_iff]
  rfl
theorem comeL_odd (h : List Int) (i last : Nat) (x : List Int) (p : List (List Int)) (h0 : last ≠ 0) (he : i % 2 = 1) : comeL h i last (x :: p) = comeL (nodeL x h) (i / 2) (last / 2) p := by
  unfold comeL
  rw [sides_more i last h0 (by omega), show (i % 2 == 0) = false by simp; omega]
  simp only [List.length_cons, Nat.add_right_cancel_iff]
  rfl
/-- Each leaf's path comes to the root. -/
theorem comeR_path (n : Nat) : ∀ (ls : List (List Int)) (i : Nat), ls.length = n → i < n → comeR (ls.getD i []) i n (pathL ls i).reverse = some (rootL ls) := by
  induction n using Nat.strongRecOn with
  | ind n ih =>
    intro ls i hn hi
    by_cases h2 : ls.length < 2
    · obtain rfl : n = 1 := by omega
      obtain rfl : i = 0 := by omega
      rw [pathL_few ls 0 h2, rootL_one ls hn]
      rfl
    · have h3 := splitN_lt ls.length (by omega)
      have h4 := splitN_pos ls.length (by omega)
      rw [rootL_more ls (by omega)]
      by_cases hk : i < splitN ls.length
      · rw [pathL_left ls i (by omega) hk, List.reverse_append]
        show comeR _ i n (_ :: (pathL (ls.take (splitN ls.length)) i).reverse) = _
        have e : ls.getD i [] = (ls.take (splitN ls.length)).getD i [] := by
          rw [List.getD_eq_getElem?_getD, List.getD_eq_getElem?_getD, List.getElem?_take, if_pos hk]
        unfold comeR
        rw [if_neg (by omega), ← hn, if_pos hk, e, ih (splitN ls.length) (by omega) _ i (by rw [List.length_take]; omega) hk]
        rfl
      · rw [pathL_right ls i (by omega) hk, List.reverse_append]
        show comeR _ i n (_ :: (pathL (ls.drop (splitN ls.length)) (i - splitN ls.length)).reverse) = _
        have e : ls.getD i [] = (ls.drop (splitN ls.length)).getD (i - splitN ls.length) [] := by
          rw [List.getD_eq_getElem?_getD, List.getD_eq_getElem?_getD, List.getElem?_drop, show splitN ls.length + (i - splitN ls.length) = i by omega]
        unfold comeR
        rw [if_neg (by omega), ← hn, if_neg hk, e, ih (ls.length - splitN ls.length) (by omega) _ (i - splitN ls.length) (by rw [List.length_drop]) (by omega)]
        rfl
theorem comeL_path (ls : List (List Int)) (i : Nat) (hi : i < ls.length) : comeL (ls.getD i []) i (ls.length - 1) (pathL ls i) = some (rootL ls) := by
  rw [← comeR_L _ i ls.length hi]; exact comeR_path _ ls i rfl hi
theorem pathL_sides (ls : List (List Int)) (i : Nat) (hi : i < ls.length) : (pathL ls i).length = (sides i (ls.length - 1)).length := by
  have := comeL_path ls i hi
  unfold comeL at this
  split at this
  · rename_i h; exact h.symm
  · cases this
theorem comeL_length (h : List Int) (i last : Nat) (p : List (List Int)) (hl : p.length ≠ (sides i last).length) : comeL h i last p = none := by
  unfold comeL; rw [if_neg (by omega)]
theorem sides_length (b : Nat) : ∀ i last, last < 2 ^ b → (sides i last).length ≤ b := by
  induction b with
  | zero => intro i last h; simp at h; subst h; rw [sides_zero]; simp
  | succ b ih =>
    intro i last h
    rw [Nat.pow_succ] at h
    by_cases h0 : last = 0
    · subst h0; rw [sides_zero]; simp
    · by_cases hs : i = last ∧ i % 2 = 0
      · rw [sides_skip i last h0 hs]; have := ih (i / 2) (last / 2) (by omega); omega
      · rw [sides_more i last h0 hs, List.length_cons]; have := ih (i / 2) (last / 2) (by omega); omega
theorem climbD_is (d : List Bool) : ∀ (h : List Int) (p : List (List Int)), h.length = 32 ∧ bytes h → (climbD h d p).length = 32 ∧ bytes (climbD h d p) := by
  induction d with
  | nil => intro h p hh; exact hh
  | cons b d ih =>
    intro h p hh
    cases p with
    | nil => cases b <;> exact hh
    | cons x p => cases b <;> exact ih _ p ⟨sumL_length _, sumL_bytes _⟩
/-- What Check answers: 0, 2 or 80. -/
def checkF (h : List Int) (i n : Int) (p : List (List Int)) (root : List Int) : Int :=
  if n < 1 ∨ 4096 < n ∨ i < 0 ∨ n ≤ i then 2 else if comeL h i.toNat (n.toNat - 1) p = some root then 0 else 80
theorem checkF_arg {h : List Int} {i n : Int} {p : List (List Int)} {root : List Int} (k : n < 1 ∨ 4096 < n ∨ i < 0 ∨ n ≤ i) : checkF h i n p root = 2 := by unfold checkF; rw [if_pos k]
theorem checkF_in {h : List Int} {i n : Nat} {p : List (List Int)} {root : List Int} (hi : i < n) (hn : n ≤ 4096) : checkF h i n p root = if comeL h i (n - 1) p = some root then 0 else 80 := by
  unfold checkF; rw [if_neg (by omega)]; rfl
theorem checkF_path {ls : List (List Int)} {i : Nat} (hi : i < ls.length) (hn : ls.length ≤ 4096) : checkF (ls.getD i []) i ls.length (pathL ls i) (rootL ls) = 0 := by
  rw [checkF_in hi hn, comeL_path ls i hi, if_pos rfl]
theorem checkF_length {h : List Int} {i n : Nat} {p : List (List Int)} {root : List Int} (hi : i < n) (hn : n ≤ 4096) (hl : p.length ≠ (sides i (n - 1)).length) : checkF h i n p root = 80 := by
  rw [checkF_in hi hn, comeL_length h i _ p hl, if_neg (by intro h; cases h)]
end Go.Proofs.YtfakimbneenfdaaDoor
