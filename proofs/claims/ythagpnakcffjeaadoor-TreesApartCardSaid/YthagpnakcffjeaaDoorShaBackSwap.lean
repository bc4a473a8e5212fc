/-
  A hash's text with one letter that is another one: whether it is a hash's, and which.
-/
import Derived.Test.YthagpnakcffjeaaDoorShaBackMath
import Derived.Test.YthagpnakcffjeaaDoorShaS
namespace Go.Proofs.YthagpnakcffjeaaDoor
open Go.RowKit
set_option linter.unusedVariables false

def swapS (T : ByteArray) (k : Nat) (c : Int) : ByteArray := (T.extract 0 k ++ strOfNums [c]) ++ T.extract (k + 1) T.size
theorem getb_left (a b : ByteArray) (i : Nat) (h : i < a.size) : (a ++ b).get! i = a.get! i := by
  rw [get_elem _ i (by rw [ByteArray.size_append]; omega), get_elem a i h]
  exact ByteArray.getElem_append_left h
theorem getb_right (a b : ByteArray) (i : Nat) (h : a.size ≤ i) (h2 : i < a.size + b.size) : (a ++ b).get! i = b.get! (i - a.size) := by
  rw [get_elem _ i (by rw [ByteArray.size_append]; omega), get_elem b (i - a.size) (by omega)]
  exact ByteArray.getElem_append_right h
theorem one_size (c : Int) : (strOfNums [c]).size = 1 := by rw [strOfNums_size]; rfl
theorem swapS_size (T : ByteArray) (k : Nat) (c : Int) (h : k < T.size) : (swapS T k c).size = T.size := by
  unfold swapS
  rw [ByteArray.size_append, ByteArray.size_append, one_size, ByteArray.size_extract, ByteArray.size_extract]
  omega
theorem swapS_at (T : ByteArray) (k : Nat) (c : Int) (h : k < T.size) (hc : 0 ≤ c ∧ c < 256) : (((swapS T k c).get! k).toNat : Int) = c := by
  have e : (T.extract 0 k).size = k := by rw [ByteArray.size_extract]; omega
  unfold swapS
  rw [getb_left _ _ k (by rw [ByteArray.size_append, one_size, e]; omega), getb_right _ _ k (by omega) (by rw [one_size, e]; omega), e, Nat.sub_self]
  exact text_get [c] 0 (by simp) (by simpa [List.getD] using hc)
theorem swapS_other (T : ByteArray) (k i : Nat) (c : Int) (h : k < T.size) (hi : i < T.size) (hne : i ≠ k) : (swapS T k c).get! i = T.get! i := by
  have e : (T.extract 0 k).size = k := by rw [ByteArray.size_extract]; omega
  unfold swapS
  rcases Nat.lt_or_gt_of_ne hne with hlt | hgt
  · rw [getb_left _ _ i (by rw [ByteArray.size_append, one_size, e]; omega), getb_left _ _ i (by omega), getb_extract T 0 k i (by omega) (by omega), Nat.zero_add]
  · rw [getb_right _ _ i (by rw [ByteArray.size_append, one_size, e]; omega) (by rw [ByteArray.size_append, one_size, e, ByteArray.size_extract]; omega), ByteArray.size_append, one_size, e, getb_extract T (k + 1) T.size (i - (k + 1)) (by omega) (by omega)]
    congr 1; omega
theorem swap_ok (l : List Int) (hl : l.length = 32) (hb : bytes l) (k : Nat) (hk : k < 64) (c : Int) (hc : 0 ≤ c ∧ c < 256) : okS (swapS (hexS l) k c) = decide (0 ≤ dig c) := by
  have hs := hexS_size l hl
  have hk2 : k < (hexS l).size := by omega
  have hdk : digB (swapS (hexS l) k c) k = dig c := by unfold digB; rw [swapS_at _ k c hk2 hc]
  by_cases h : 0 ≤ dig c
  · rw [decide_eq_true h]
    refine okS_good _ (by rw [swapS_size _ k c hk2, hs]) (okUpto_all _ _ fun i hi => ?_)
    by_cases e : i = k
    · subst e; rw [hdk]; exact h
    · have hx := okS_hex l hl hb
      simp only [okS, Bool.and_eq_true] at hx
      have := okUpto_at _ 64 hx.2 i hi
      unfold digB at this ⊢
      rw [swapS_other _ k i c hk2 (by omega) e]
      exact this
  · rw [decide_eq_false h]
    exact okS_bad _ k hk (by rw [hdk]; omega)
/-- It is parsed as the hash just where it is the hash's text. -/
theorem swap_same (l : List Int) (hl : l.length = 32) (hb : bytes l) (k : Nat) (hk : k < 64) (c : Int) (hc : 0 ≤ c ∧ c < 256) (h : 0 ≤ dig c) : (parseL (swapS (hexS l) k c) = l) ↔ (swapS (hexS l) k c = hexS l) := by
  have ho : okS (swapS (hexS l) k c) = true := by rw [swap_ok l hl hb k hk c hc, decide_eq_true h]
  constructor
  · intro e
    have := hex_parse _ ho
    rw [e] at this
    exact this.symm
  · intro e
    rw [e, parse_hex l hl hb]
theorem swap_none (l : List Int) (hl : l.length = 32) (hb : bytes l) (k : Nat) (hk : k < 64) (c : Int) (hc : 0 ≤ c ∧ c < 256) (h : ¬ 0 ≤ dig c) : parseL (swapS (hexS l) k c) = zero32 :=
  parse_none _ (by rw [swap_ok l hl hb k hk c hc, decide_eq_false h])
end Go.Proofs.YthagpnakcffjeaaDoor
