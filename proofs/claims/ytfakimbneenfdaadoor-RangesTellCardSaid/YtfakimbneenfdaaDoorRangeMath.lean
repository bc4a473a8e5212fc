/-
  Ranges of leaves as plain functions: how leaves are parted, a tree put behind others, and that it makes no difference in which parts leaves come. No program is named here.
-/
import Derived.Test.YtfakimbneenfdaaDoorListMem
import Derived.Test.YtfakimbneenfdaaDoorTreeMath
import Derived.Test.YtfakimbneenfdaaDoorMath
namespace Go.Proofs.YtfakimbneenfdaaDoor
open Go.RowKit
set_option linter.unusedVariables false
set_option maxRecDepth 100000

/-! ### bits that are 1 -/
def ones (n : Nat) : Nat := if h : n = 0 then 0 else n % 2 + ones (n / 2)
termination_by n
decreasing_by omega
theorem ones_zero : ones 0 = 0 := by rw [ones, dif_pos rfl]
theorem ones_half (n : Nat) : ones n = n % 2 + ones (n / 2) := by
  by_cases h : n = 0
  · subst h; simp [ones_zero]
  · rw [ones, dif_neg h]
theorem ones_odd (q : Nat) : ones (2 * q + 1) = ones q + 1 := by
  rw [ones_half, show (2 * q + 1) % 2 = 1 by omega, show (2 * q + 1) / 2 = q by omega]; omega
theorem ones_even (q : Nat) : ones (2 * q) = ones q := by
  rw [ones_half, show (2 * q) % 2 = 0 by omega, show (2 * q) / 2 = q by omega]; omega
theorem ones_popF (b : Nat) : ∀ n, n < 2 ^ b → Math.popF b n = ones n := by
  induction b with
  | zero => intro n h; simp at h; subst h; rw [ones_zero]; rfl
  | succ b ih =>
    intro n h
    rw [Nat.pow_succ] at h
    show n % 2 + Math.popF b (n / 2) = _
    rw [ih _ (by omega), ← ones_half]
theorem ones_le (b : Nat) (n : Nat) (h : n < 2 ^ b) : ones n ≤ b := by
  rw [← ones_popF b n h]; exact Math.popF_le b n
theorem ones_pos (n : Nat) (h : 0 < n) : 0 < ones n := by
  induction n using Nat.strongRecOn with
  | ind n ih =>
    rw [ones_half]
    by_cases h2 : n % 2 = 1
    · omega
    · have := ih (n / 2) (by omega) (by omega); omega
theorem ones_shift (m j : Nat) : ones (m * 2 ^ j) = ones m := by
  induction j with
  | zero => simp
  | succ j ih => rw [Nat.pow_succ, ← Nat.mul_assoc, Nat.mul_comm, ones_even, ih]

/-! ### how leaves are parted -/
/-- The greatest power of two that divides from, and that is not above rest. -/
def growN : Nat → Nat → Nat → Nat → Nat
  | 0, _, _, n => n
  | k + 1, f, r, n => if f % (2 * n) = 0 ∧ 2 * n ≤ r then growN k f r (2 * n) else n
def partN (f r : Nat) : Nat := growN r f r 1
/-- 2 ^ j is it. -/
def IsPart (f r j : Nat) : Prop := f % 2 ^ j = 0 ∧ 2 ^ j ≤ r ∧ ¬ (f % 2 ^ (j + 1) = 0 ∧ 2 ^ (j + 1) ≤ r)
theorem mod_pow_le (f a b : Nat) (h : a ≤ b) (hb : f % 2 ^ b = 0) : f % 2 ^ a = 0 :=
  Nat.mod_eq_zero_of_dvd (Nat.dvd_trans (Nat.pow_dvd_pow 2 h) (Nat.dvd_of_mod_eq_zero hb))
theorem isPart_one (f r a b : Nat) (ha : IsPart f r a) (hb : IsPart f r b) : a = b := by
  obtain ⟨a1, a2, a3⟩ := ha
  obtain ⟨b1, b2, b3⟩ := hb
  rcases Nat.lt_trichotomy a b with h | h | h
  · exact absurd ⟨mod_pow_le f (a + 1) b h b1, Nat.le_trans (Nat.pow_le_pow_right (by omega) h) b2⟩ a3
  · exact h
  · exact absurd ⟨mod_pow_le f (b + 1) a h a1, Nat.le_trans (Nat.pow_le_pow_right (by omega) h) a2⟩ b3
theorem pow_lt_self (j : Nat) : j < 2 ^ j := Nat.lt_two_pow_self
theorem growN_is (k : Nat) : ∀ f r j, f % 2 ^ j = 0 → 2 ^ j ≤ r → r ≤ j + k → ∃ i, growN k f r (2 ^ j) = 2 ^ i ∧ IsPart f r i := by
  induction k with
  | zero => intro f r j h1 h2 h3; have := pow_lt_self j; omega
  | succ k ih =>
    intro f r j h1 h2 h3
    have e : 2 * 2 ^ j = 2 ^ (j + 1) := by rw [Nat.pow_succ]; omega
    unfold growN
    rw [e]
    by_cases h : f % 2 ^ (j + 1) = 0 ∧ 2 ^ (j + 1) ≤ r
    · rw [if_pos h]; exact ih f r (j + 1) h.1 h.2 (by omega)
    · rw [if_neg h]; exact ⟨j, rfl, h1, h2, h⟩
theorem partN_exists (f r : Nat) (h : 0 < r) : ∃ j, partN f r = 2 ^ j ∧ IsPart f r j := by
  have := growN_is r f r 0 (by simp [Nat.mod_one]) (by simp only [Nat.pow_zero]; omega) (by omega)
  exact this
theorem partN_is (f r j : Nat) (h : IsPart f r j) : partN f r = 2 ^ j := by
  obtain ⟨i, e, hi⟩ := partN_exists f r (by have := h.2.1; have := Nat.two_pow_pos j; omega)
  rw [e, isPart_one f r i j hi h]
theorem partN_pos (f r : Nat) (h : 0 < r) : 0 < partN f r := by
  obtain ⟨j, e, _⟩ := partN_exists f r h; rw [e]; exact Nat.two_pow_pos j
theorem partN_le (f r : Nat) (h : 0 < r) : partN f r ≤ r := by
  obtain ⟨j, e, hj⟩ := partN_exists f r h; rw [e]; exact hj.2.1
/-- The parts of the leaves from f up to t. -/
def partsL (f t : Nat) : List Nat := if h : f < t then partN f (t - f) :: partsL (f + partN f (t - f)) t else []
termination_by t - f
decreasing_by have := partN_pos f (t - f) (by omega); have := partN_le f (t - f) (by omega); omega
theorem partsL_more (f t : Nat) (h : f < t) : partsL f t = partN f (t - f) :: partsL (f + partN f (t - f)) t := by rw [partsL, dif_pos h]
theorem partsL_done (f t : Nat) (h : t ≤ f) : partsL f t = [] := by rw [partsL, dif_neg (by omega)]
theorem partsL_length (f t : Nat) : (partsL f t).length ≤ t - f := by
  induction hn : t - f using Nat.strongRecOn generalizing f with
  | ind n ih =>
    by_cases h : f < t
    · have h1 := partN_pos f (t - f) (by omega)
      have h2 := partN_le f (t - f) (by omega)
      have := ih (t - (f + partN f (t - f))) (by omega) (f + partN f (t - f)) rfl
      rw [partsL_more f t h, List.length_cons]; omega
    · rw [partsL_done f t (by omega)]; simp
theorem partsL_le (f t : Nat) : ∀ n ∈ partsL f t, n ≤ t - f := by
  induction hn : t - f using Nat.strongRecOn generalizing f with
  | ind n ih =>
    by_cases h : f < t
    · have h1 := partN_pos f (t - f) (by omega)
      have h2 := partN_le f (t - f) (by omega)
      intro m hm
      rw [partsL_more f t h] at hm
      rcases List.mem_cons.1 hm with rfl | hm
      · omega
      · have := ih (t - (f + partN f (t - f))) (by omega) (f + partN f (t - f)) rfl m hm; omega
    · rw [partsL_done f t (by omega)]; intro m hm; cases hm
/-- The roots of the parts of leaves. -/
def rootsOf : List Nat → List (List Int) → List (List Int)
  | [], _ => []
  | n :: ns, ls => rootL (ls.take n) :: rootsOf ns (ls.drop n)
theorem rootsOf_length (ns : List Nat) : ∀ ls, (rootsOf ns ls).length = ns.length := by
  induction ns with
  | nil => intro ls; rfl
  | cons n ns ih => intro ls; simp [rootsOf, ih]
theorem rootsOf_hashes (ns : List Nat) : ∀ ls, hashes ls → hashes (rootsOf ns ls) := by
  induction ns with
  | nil => intro ls _ x hx; cases hx
  | cons n ns ih =>
    intro ls h x hx
    rcases List.mem_cons.1 hx with rfl | hx
    · exact rootL_is _ (hashes_take h n)
    · exact ih _ (hashes_drop h n) x hx
def rootsL (f : Nat) (ls : List (List Int)) : List (List Int) := rootsOf (partsL f (f + ls.length)) ls
theorem rootsL_hashes (f : Nat) (ls : List (List Int)) (h : hashes ls) : hashes (rootsL f ls) := rootsOf_hashes _ _ h
theorem rootsL_length (f : Nat) (ls : List (List Int)) : (rootsL f ls).length = (partsL f (f + ls.length)).length := rootsOf_length _ _

/-! ### a tree behind others -/
/-- Trees side by side, m counted in such as the one that comes. -/
def carry (m : Nat) (hs : List (List Int)) (x : List Int) : List (List Int) :=
  if h : m % 2 = 1 then carry (m / 2) hs.dropLast (nodeL (hs.getLastD []) x) else hs ++ [x]
termination_by m
decreasing_by omega
theorem carry_even (m : Nat) (hs : List (List Int)) (x : List Int) (h : m % 2 = 0) : carry m hs x = hs ++ [x] := by
  rw [carry, dif_neg (by omega)]
theorem carry_odd (m : Nat) (hs : List (List Int)) (x : List Int) (h : m % 2 = 1) : carry m hs x = carry (m / 2) hs.dropLast (nodeL (hs.getLastD []) x) := by
  rw [carry, dif_pos h]
theorem hashes_dropLast {hs : List (List Int)} (h : hashes hs) : hashes hs.dropLast := fun l hl => h l (by rw [List.dropLast_eq_take] at hl; exact List.mem_of_mem_take hl)
theorem carry_hashes (m : Nat) : ∀ (hs : List (List Int)) (x : List Int), hashes hs → (x.length = 32 ∧ bytes x) → hashes (carry m hs x) := by
  induction m using Nat.strongRecOn with
  | ind m ih =>
    intro hs x h hx
    by_cases hm : m % 2 = 1
    · rw [carry_odd m hs x hm]; exact ih (m / 2) (by omega) _ _ (hashes_dropLast h) (nodeL_is _ _)
    · rw [carry_even m hs x (by omega)]; exact hashes_snoc h hx
theorem carry_length (m : Nat) : ∀ (hs : List (List Int)) (x : List Int), hs.length = ones m → (carry m hs x).length = ones (m + 1) := by
  induction m using Nat.strongRecOn with
  | ind m ih =>
    intro hs x h
    by_cases hm : m % 2 = 1
    · obtain ⟨q, rfl⟩ : ∃ q, m = 2 * q + 1 := ⟨m / 2, by omega⟩
      rw [ones_odd] at h
      rw [carry_odd _ hs x hm, show (2 * q + 1) / 2 = q by omega, ih q (by omega) _ _ (by rw [List.length_dropLast, h]; rfl), show 2 * q + 1 + 1 = 2 * (q + 1) by omega, ones_even]
    · obtain ⟨q, rfl⟩ : ∃ q, m = 2 * q := ⟨m / 2, by omega⟩
      rw [ones_even] at h
      rw [carry_even _ hs x (by omega), List.length_append, List.length_singleton, h, ones_odd]
/-- Trees put behind others, one by one: how many leaves each has, its root; how many leaves there are. -/
def pushes : List Nat → List (List Int) → Nat → List (List Int) → List (List Int)
  | n :: ns, x :: xs, s, hs => pushes ns xs (s + n) (carry (s / n) hs x)
  | _, _, _, hs => hs
theorem pushes_nil (xs : List (List Int)) (s : Nat) (hs : List (List Int)) : pushes [] xs s hs = hs := by cases xs <;> rfl
theorem pushes_hashes (ns : List Nat) : ∀ (xs : List (List Int)) (s : Nat) (hs : List (List Int)), hashes xs → hashes hs → hashes (pushes ns xs s hs) := by
  induction ns with
  | nil => intro xs s hs _ h; rw [pushes_nil]; exact h
  | cons n ns ih =>
    intro xs s hs hx h
    cases xs with
    | nil => exact h
    | cons x xs => exact ih xs _ _ (fun l hl => hx l (List.mem_cons_of_mem _ hl)) (carry_hashes _ _ _ h (hx x (List.mem_cons_self ..)))
/-- Leaves put behind others, one by one. -/
def adds (s : Nat) (hs : List (List Int)) : List (List Int) → List (List Int)
  | [] => hs
  | x :: xs => adds (s + 1) (carry s hs x) xs
theorem adds_app (a b : List (List Int)) : ∀ s hs, adds s hs (a ++ b) = adds (s + a.length) (adds s hs a) b := by
  induction a with
  | nil => intro s hs; rfl
  | cons x xs ih =>
    intro s hs
    show adds (s + 1) (carry s hs x) (xs ++ b) = _
    rw [ih, show s + 1 + xs.length = s + (x :: xs).length by simp; omega]
    rfl
theorem adds_one (s : Nat) (hs : List (List Int)) (x : List Int) : adds s hs [x] = carry s hs x := rfl
theorem adds_hashes (ls : List (List Int)) : ∀ s hs, hashes ls → hashes hs → hashes (adds s hs ls) := by
  induction ls with
  | nil => intro s hs _ h; exact h
  | cons x xs ih => intro s hs h h2; exact ih _ _ (fun l hl => h l (List.mem_cons_of_mem _ hl)) (carry_hashes _ _ _ h2 (h x (List.mem_cons_self ..)))
theorem splitN_pow (k : Nat) : splitN (2 ^ (k + 1)) = 2 ^ k :=
  splitN_is _ k (by rw [Nat.pow_succ]; have := Nat.two_pow_pos k; omega) (Nat.le_refl _)
/-- As many leaves as a power of two, one by one, are one tree. -/
theorem adds_block (k : Nat) : ∀ (q : Nat) (hs ls : List (List Int)), ls.length = 2 ^ k → adds (q * 2 ^ k) hs ls = carry q hs (rootL ls) := by
  induction k with
  | zero =>
    intro q hs ls h
    rw [Nat.pow_zero] at h
    match ls, h with
    | [x], _ => rw [rootL_one [x] rfl, Nat.pow_zero, Nat.mul_one]; rfl
  | succ k ih =>
    intro q hs ls h
    have hp := Nat.two_pow_pos k
    have e2 : 2 ^ (k + 1) = 2 ^ k + 2 ^ k := by rw [Nat.pow_succ]; omega
    have l1 : (ls.take (2 ^ k)).length = 2 ^ k := by rw [List.length_take]; omega
    have l2 : (ls.drop (2 ^ k)).length = 2 ^ k := by rw [List.length_drop]; omega
    have e3 : q * 2 ^ (k + 1) = (2 * q) * 2 ^ k := by rw [Nat.pow_succ, Nat.mul_comm (2 ^ k) 2, ← Nat.mul_assoc, Nat.mul_comm q 2]
    have hr : rootL ls = nodeL (rootL (ls.take (2 ^ k))) (rootL (ls.drop (2 ^ k))) := by rw [rootL_more ls (by omega), h, splitN_pow]
    conv => lhs; rw [← List.take_append_drop (2 ^ k) ls]
    rw [adds_app, l1, e3, ih (2 * q) hs _ l1, carry_even _ _ _ (by omega), show 2 * q * 2 ^ k + 2 ^ k = (2 * q + 1) * 2 ^ k by rw [Nat.add_mul, Nat.one_mul], ih (2 * q + 1) _ _ l2, carry_odd _ _ _ (by omega), show (2 * q + 1) / 2 = q by omega, List.dropLast_concat, hr]
    congr 2
    simp
/-- In parts it is the same. -/
theorem pushes_parts (n : Nat) : ∀ (s : Nat) (hs ls : List (List Int)), ls.length = n → pushes (partsL s (s + ls.length)) (rootsL s ls) s hs = adds s hs ls := by
  induction n using Nat.strongRecOn with
  | ind n ih =>
    intro s hs ls hn
    unfold rootsL
    by_cases h0 : ls.length = 0
    · rw [partsL_done _ _ (by omega), pushes_nil, List.eq_nil_of_length_eq_zero h0]; rfl
    · have hp := partN_pos s ls.length (by omega)
      have hl := partN_le s ls.length (by omega)
      obtain ⟨j, ej, h1, h2, _⟩ := partN_exists s ls.length (by omega)
      obtain ⟨q, rfl⟩ : ∃ q, s = q * 2 ^ j := ⟨s / 2 ^ j, by rw [Nat.mul_comm]; have := Nat.div_add_mod s (2 ^ j); omega⟩
      have e1 : (ls.take (partN (q * 2 ^ j) ls.length)).length = 2 ^ j := by rw [List.length_take]; omega
      have e2 : (ls.drop (partN (q * 2 ^ j) ls.length)).length = ls.length - partN (q * 2 ^ j) ls.length := List.length_drop ..
      rw [partsL_more _ _ (by omega), show q * 2 ^ j + ls.length - q * 2 ^ j = ls.length by omega]
      have e3 : q * 2 ^ j + ls.length = q * 2 ^ j + partN (q * 2 ^ j) ls.length + (ls.drop (partN (q * 2 ^ j) ls.length)).length := by omega
      have := ih _ (by omega) (q * 2 ^ j + partN (q * 2 ^ j) ls.length) (carry (q * 2 ^ j / partN (q * 2 ^ j) ls.length) hs (rootL (ls.take (partN (q * 2 ^ j) ls.length)))) (ls.drop (partN (q * 2 ^ j) ls.length)) rfl
      unfold rootsL at this
      rw [← e3] at this
      show pushes (partsL _ _) (rootsOf (partsL _ _) _) _ _ = _
      rw [this]
      conv => rhs; rw [← List.take_append_drop (partN (q * 2 ^ j) ls.length) ls]
      rw [adds_app, e1, adds_block j q hs _ e1, ej, Nat.mul_div_cancel _ (Nat.two_pow_pos j)]

/-! ### the range of leaves -/
/-- The roots of leaves, parted into powers of two below 2 ^ b, the largest ones first. -/
def chunks : Nat → List (List Int) → List (List Int)
  | 0, _ => []
  | b + 1, ls => if 2 ^ b ≤ ls.length then rootL (ls.take (2 ^ b)) :: chunks b (ls.drop (2 ^ b)) else chunks b ls
theorem chunks_adds (b : Nat) : ∀ (q : Nat) (hs ls : List (List Int)), ls.length < 2 ^ b → adds (q * 2 ^ b) hs ls = hs ++ chunks b ls := by
  induction b with
  | zero => intro q hs ls h; simp at h; subst h; simp [chunks, adds]
  | succ b ih =>
    intro q hs ls h
    rw [Nat.pow_succ] at h
    have e3 : q * 2 ^ (b + 1) = (2 * q) * 2 ^ b := by rw [Nat.pow_succ, Nat.mul_comm (2 ^ b) 2, ← Nat.mul_assoc, Nat.mul_comm q 2]
    rw [e3]
    unfold chunks
    by_cases hc : 2 ^ b ≤ ls.length
    · have l1 : (ls.take (2 ^ b)).length = 2 ^ b := by rw [List.length_take]; omega
      rw [if_pos hc]
      conv => lhs; rw [← List.take_append_drop (2 ^ b) ls]
      rw [adds_app, l1, adds_block b _ _ _ l1, carry_even _ _ _ (by omega), show 2 * q * 2 ^ b + 2 ^ b = (2 * q + 1) * 2 ^ b by rw [Nat.add_mul, Nat.one_mul], ih _ _ _ (by rw [List.length_drop]; omega)]
      simp
    · rw [if_neg hc]; exact ih _ _ _ (by omega)
theorem adds_chunks (ls : List (List Int)) (h : ls.length < 8192) : adds 0 [] ls = chunks 13 ls := by
  have := chunks_adds 13 0 [] ls h
  simpa using this
/-- Hashes put together from the last one on. -/
def rootFold : List (List Int) → List Int
  | [] => sumL ⟨#[]⟩
  | [x] => x
  | x :: y :: l => nodeL x (rootFold (y :: l))
theorem chunks_none (b : Nat) : ∀ ls : List (List Int), ls.length = 0 → chunks b ls = [] := by
  induction b with
  | zero => intro ls _; rfl
  | succ b ih => intro ls h; unfold chunks; rw [if_neg (by have := Nat.two_pow_pos b; omega), ih ls h]
theorem chunks_some (b : Nat) : ∀ ls : List (List Int), 0 < ls.length → ls.length < 2 ^ b → ∃ x l, chunks b ls = x :: l := by
  induction b with
  | zero => intro ls h1 h2; simp only [Nat.pow_zero] at h2; omega
  | succ b ih =>
    intro ls h1 h2
    unfold chunks
    by_cases hc : 2 ^ b ≤ ls.length
    · rw [if_pos hc]; exact ⟨_, _, rfl⟩
    · rw [if_neg hc]; exact ih ls h1 (by omega)
theorem rootFold_chunks (b : Nat) : ∀ ls : List (List Int), ls.length < 2 ^ b → rootFold (chunks b ls) = rootL ls := by
  induction b with
  | zero => intro ls h; simp at h; subst h; rw [rootL_none [] rfl]; rfl
  | succ b ih =>
    intro ls h
    rw [Nat.pow_succ] at h
    unfold chunks
    by_cases hc : 2 ^ b ≤ ls.length
    · rw [if_pos hc]
      by_cases he : ls.length = 2 ^ b
      · rw [chunks_none b _ (by rw [List.length_drop]; omega), List.take_of_length_le (by omega)]; rfl
      · have hd : (ls.drop (2 ^ b)).length = ls.length - 2 ^ b := List.length_drop ..
        obtain ⟨x, l, e⟩ := chunks_some b (ls.drop (2 ^ b)) (by omega) (by omega)
        have hi := ih (ls.drop (2 ^ b)) (by omega)
        rw [e] at hi ⊢
        have hp := Nat.two_pow_pos b
        show nodeL _ (rootFold (x :: l)) = _
        rw [hi, rootL_more ls (by omega), splitN_is ls.length b (by omega) (by rw [Nat.pow_succ]; omega)]
    · rw [if_neg hc]; exact ih ls (by omega)
theorem adds_root (ls : List (List Int)) (h : ls.length < 8192) : rootFold (adds 0 [] ls) = rootL ls := by
  rw [adds_chunks ls h]; exact rootFold_chunks 13 ls h
/-! ### how many hashes -/
theorem adds_length (ls : List (List Int)) : ∀ s hs, hs.length = ones s → (adds s hs ls).length = ones (s + ls.length) := by
  induction ls with
  | nil => intro s hs h; exact h
  | cons x xs ih =>
    intro s hs h
    show (adds (s + 1) (carry s hs x) xs).length = _
    rw [ih (s + 1) _ (carry_length s hs x h), List.length_cons]
    congr 1; omega
end Go.Proofs.YtfakimbneenfdaaDoor
