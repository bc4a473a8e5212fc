/-
  Trees of hashes as plain functions: where a number of leaves is parted, the hashes of leaves and nodes, roots. No program is named here.
-/
import Derived.Test.YtllabnhgiojmmaaDoorShaSum
import Derived.Test.YtllabnhgiojmmaaDoorTextAt
import Derived.Test.YtllabnhgiojmmaaDoorHexMath
import Derived.Test.YtllabnhgiojmmaaDoorText
namespace Go.Proofs.YtllabnhgiojmmaaDoor
open Go.RowKit
set_option linter.unusedVariables false
set_option maxRecDepth 100000

/-- The greatest power of two below n; 0, if n is below 2. -/
def splitN (n : Nat) : Nat := if n < 2 then 0 else 2 ^ Nat.log2 (n - 1)
theorem splitN_few (n : Nat) (h : n < 2) : splitN n = 0 := by unfold splitN; rw [if_pos h]
theorem splitN_is (n e : Nat) (h1 : 2 ^ e < n) (h2 : n ≤ 2 ^ (e + 1)) : splitN n = 2 ^ e := by
  have h0 : 0 < 2 ^ e := Nat.two_pow_pos e
  unfold splitN
  rw [if_neg (by omega)]
  congr 1
  exact (Nat.log2_eq_iff (by omega)).2 ⟨by omega, by omega⟩
theorem splitN_pos (n : Nat) (h : 2 ≤ n) : 0 < splitN n := by
  unfold splitN
  rw [if_neg (by omega)]
  exact Nat.two_pow_pos _
theorem splitN_lt (n : Nat) (h : 2 ≤ n) : splitN n < n := by
  unfold splitN
  rw [if_neg (by omega)]
  have := Nat.log2_self_le (n := n - 1) (by omega)
  omega
theorem splitN_ge (n : Nat) (h : 2 ≤ n) : n ≤ 2 * splitN n := by
  unfold splitN
  rw [if_neg (by omega)]
  have := Nat.lt_log2_self (n := n - 1)
  rw [Nat.pow_succ] at this
  omega
/-- What is hashed of an entry, and of two hashes. -/
def leafS (s : ByteArray) : ByteArray := ⟨#[0]⟩ ++ s
def nodeS (a b : List Int) : ByteArray := ⟨#[1]⟩ ++ strOfNums a ++ strOfNums b
def leafL (s : ByteArray) : List Int := sumL (leafS s)
def nodeL (a b : List Int) : List Int := sumL (nodeS a b)
/-- The root of leaves. -/
def rootL (ls : List (List Int)) : List Int :=
  if h : ls.length < 2 then (if ls.length = 0 then sumL ⟨#[]⟩ else ls.getD 0 [])
  else nodeL (rootL (ls.take (splitN ls.length))) (rootL (ls.drop (splitN ls.length)))
termination_by ls.length
decreasing_by
  · rw [List.length_take]; have := splitN_lt ls.length (by omega); omega
  · rw [List.length_drop]; have := splitN_pos ls.length (by omega); omega
theorem rootL_none (ls : List (List Int)) (h : ls.length = 0) : rootL ls = sumL ⟨#[]⟩ := by
  rw [rootL, dif_pos (by omega), if_pos h]
theorem rootL_one (ls : List (List Int)) (h : ls.length = 1) : rootL ls = ls.getD 0 [] := by
  rw [rootL, dif_pos (by omega), if_neg (by omega)]
theorem rootL_more (ls : List (List Int)) (h : 2 ≤ ls.length) : rootL ls = nodeL (rootL (ls.take (splitN ls.length))) (rootL (ls.drop (splitN ls.length))) := by
  rw [rootL, dif_neg (by omega)]
theorem sumL_length (s : ByteArray) : (sumL s).length = 32 := by
  unfold sumL
  rw [bytesL_length, list8]
theorem bytesL_bytes (l : List Int) : bytes (bytesL l) := by
  induction l with
  | nil => intro x hx; cases hx
  | cons n l ih =>
    intro x hx
    simp only [bytesL, List.mem_append] at hx
    rcases hx with hx | hx
    · exact putL_byte n 4 x hx
    · exact ih x hx
theorem sumL_bytes (s : ByteArray) : bytes (sumL s) := bytesL_bytes _
/-- Each is 32 bytes. -/
def hashes (ls : List (List Int)) : Prop := ∀ l ∈ ls, l.length = 32 ∧ bytes l
theorem hashes_at {ls : List (List Int)} (h : hashes ls) (i : Nat) (hi : i < ls.length) : (ls.getD i []).length = 32 ∧ bytes (ls.getD i []) := by
  rw [List.getD_eq_getElem?_getD, List.getElem?_eq_getElem hi]
  exact h _ (List.getElem_mem hi)
theorem hashes_take {ls : List (List Int)} (h : hashes ls) (k : Nat) : hashes (ls.take k) := fun l hl => h l (List.mem_of_mem_take hl)
theorem hashes_drop {ls : List (List Int)} (h : hashes ls) (k : Nat) : hashes (ls.drop k) := fun l hl => h l (List.mem_of_mem_drop hl)
theorem rootL_is (ls : List (List Int)) (h : hashes ls) : (rootL ls).length = 32 ∧ bytes (rootL ls) := by
  by_cases h0 : ls.length = 0
  · rw [rootL_none ls h0]; exact ⟨sumL_length _, sumL_bytes _⟩
  · by_cases h1 : ls.length = 1
    · rw [rootL_one ls h1]; exact hashes_at h 0 (by omega)
    · rw [rootL_more ls (by omega)]; exact ⟨sumL_length _, sumL_bytes _⟩
/-- Leaves from one place to another. -/
def part (ls : List (List Int)) (a b : Nat) : List (List Int) := (ls.drop a).take (b - a)
theorem part_length (ls : List (List Int)) (a b : Nat) (h : b ≤ ls.length) : (part ls a b).length = b - a := by
  unfold part
  rw [List.length_take, List.length_drop]
  omega
theorem part_all (ls : List (List Int)) : part ls 0 ls.length = ls := by simp [part]
theorem part_left (ls : List (List Int)) (a b k : Nat) (hk : k ≤ b - a) : (part ls a b).take k = part ls a (a + k) := by
  unfold part
  rw [List.take_take, Nat.min_eq_left hk]
  congr 1
  omega
theorem part_right (ls : List (List Int)) (a b k : Nat) : (part ls a b).drop k = part ls (a + k) b := by
  unfold part
  rw [List.drop_take, List.drop_drop]
  congr 1
  omega
theorem part_one (ls : List (List Int)) (a b : Nat) (h : b = a + 1) (hb : b ≤ ls.length) : rootL (part ls a b) = ls.getD a [] := by
  subst h
  rw [rootL_one _ (by rw [part_length _ _ _ hb]; omega)]
  unfold part
  simp [List.getD_eq_getElem?_getD]
theorem part_more (ls : List (List Int)) (a b : Nat) (h : a + 2 ≤ b) (hb : b ≤ ls.length) : rootL (part ls a b) = nodeL (rootL (part ls a (a + splitN (b - a)))) (rootL (part ls (a + splitN (b - a)) b)) := by
  have hl := part_length ls a b hb
  have hs := splitN_lt (b - a) (by omega)
  rw [rootL_more _ (by omega), hl, part_left ls a b _ (by omega), part_right]
theorem textL_node (a b : List Int) (ha : bytes a) (hb : bytes b) : textL (nodeS a b) = 1 :: (a ++ b) := by
  unfold nodeS
  rw [textL_app, textL_app, textL_nums a ha, textL_nums b hb]
  rfl
theorem textL_leaf (s : ByteArray) : textL (leafS s) = 0 :: textL s := by
  unfold leafS
  rw [textL_app]
  rfl
end Go.Proofs.YtllabnhgiojmmaaDoor
