/-
  Hashes as texts, and back, as plain functions; how an array of numbers is read in a walk.
-/
import Derived.Test.YtllabnhgiojmmaaDoorShaMath
import Derived.Test.YtllabnhgiojmmaaDoorPut
import Derived.Test.YtllabnhgiojmmaaDoorShelf
namespace Go.Proofs.YtllabnhgiojmmaaDoor
open Go.RowKit
set_option linter.unusedVariables false
set_option maxRecDepth 100000

theorem index_nums (k : IntKind) (l : List Int) (n i : Nat) (T e : TypeId) (hu : Tryd.prog.underlying T = some (.array n e)) (ha : ∀ w, (isAgg e).run Tryd.prog w = .ok false w) (hz : ∀ w, (sizeOf e).run Tryd.prog w = .ok 1 w) (hl : l.length = n) (hi : i < n) (w : World) :
    (Instr.index T (.agg (nums k l)) (.int .i64 (i : Int))).run Tryd.prog w = .ok (.int k (l.getD i 0)) w := by
  have h1 := nums_get k l i (by omega)
  have h2 : (0 : Int) ≤ (i : Int) ∧ (i : Int) < (n : Int) := by omega
  simp [Instr.index, run_underlying hu, asIntOf, hi, hz, part, ha, h1, Result.andThen]
theorem index_hash (l : List Int) (hl : l.length = 32) (i : Nat) (hi : i < 32) (w : World) : (Instr.index 24 (.agg (nums .u8 l)) (.int .i64 (i : Int))).run Tryd.prog w = .ok (.int .u8 (l.getD i 0)) w :=
  index_nums .u8 l 32 i 24 5 Tryd.underlying24 Tryd.isAgg5 Tryd.sizeOf5 hl hi w

/-- A digit to the base 16, as a letter. -/
def hexd (x : Int) : Int := if x < 10 then 48 + x else 87 + x
/-- A letter's digit; -1: it is none. -/
def dig (c : Int) : Int := if 48 ≤ c ∧ c ≤ 57 then c - 48 else if 97 ≤ c ∧ c ≤ 102 then c - 87 else -1
def digitsS : ByteArray := ⟨#[48, 49, 50, 51, 52, 53, 54, 55, 56, 57, 97, 98, 99, 100, 101, 102]⟩
theorem digit_at : ∀ x : Nat, x < 16 → ∀ w : World, (Instr.index 9 (.string ⟨#[48, 49, 50, 51, 52, 53, 54, 55, 56, 57, 97, 98, 99, 100, 101, 102]⟩) (.int .u8 (x : Int))).run Tryd.prog w = .ok (.int .u8 (hexd x)) w
  | 0, _, _ => rfl
  | 1, _, _ => rfl
  | 2, _, _ => rfl
  | 3, _, _ => rfl
  | 4, _, _ => rfl
  | 5, _, _ => rfl
  | 6, _, _ => rfl
  | 7, _, _ => rfl
  | 8, _, _ => rfl
  | 9, _, _ => rfl
  | 10, _, _ => rfl
  | 11, _, _ => rfl
  | 12, _, _ => rfl
  | 13, _, _ => rfl
  | 14, _, _ => rfl
  | 15, _, _ => rfl
  | x + 16, h, _ => absurd h (by omega)
theorem digit_run (x : Int) (h : 0 ≤ x ∧ x < 16) (w : World) : (Instr.index 9 (.string ⟨#[48, 49, 50, 51, 52, 53, 54, 55, 56, 57, 97, 98, 99, 100, 101, 102]⟩) (.int .u8 x)).run Tryd.prog w = .ok (.int .u8 (hexd x)) w := by
  obtain ⟨n, rfl⟩ : ∃ n : Nat, x = n := ⟨x.toNat, by omega⟩
  exact digit_at n (by omega) w
theorem hexd_bd (x : Int) (h : 0 ≤ x ∧ x < 16) : 0 ≤ hexd x ∧ hexd x < 256 := by unfold hexd; split <;> omega
theorem dig_bd (c : Int) : -1 ≤ dig c ∧ dig c ≤ 15 := by unfold dig; split <;> (try split) <;> omega
theorem dig_hexd (x : Int) (h : 0 ≤ x ∧ x < 16) : dig (hexd x) = x := by
  unfold dig hexd
  by_cases h1 : x < 10
  · rw [if_pos h1, if_pos (by omega)]; omega
  · rw [if_neg h1, if_neg (by omega), if_pos (by omega)]; omega
theorem hexd_dig (c : Int) (h : 0 ≤ dig c) : hexd (dig c) = c := by
  unfold dig hexd at *
  by_cases h1 : 48 ≤ c ∧ c ≤ 57
  · rw [if_pos h1, if_pos (by omega)]; omega
  · rw [if_neg h1] at h ⊢
    by_cases h2 : 97 ≤ c ∧ c ≤ 102
    · rw [if_pos h2, if_neg (by omega)]; omega
    · rw [if_neg h2] at h; omega
/-- A hash's letters. -/
def hexL : List Int → List Int
  | [] => []
  | b :: l => hexd (b / 16) :: hexd (b % 16) :: hexL l
theorem hexL_length (l : List Int) : (hexL l).length = 2 * l.length := by
  induction l with
  | nil => rfl
  | cons b l ih => simp [hexL, ih]; omega
theorem hexL_snoc (l : List Int) (b : Int) : hexL (l ++ [b]) = hexL l ++ [hexd (b / 16), hexd (b % 16)] := by
  induction l with
  | nil => rfl
  | cons c l ih => simp [hexL, ih]
def hexS (l : List Int) : ByteArray := strOfNums (hexL l)
def bytes (l : List Int) : Prop := ∀ x ∈ l, 0 ≤ x ∧ x < 256
theorem hexL_bytes (l : List Int) (h : bytes l) : bytes (hexL l) := by
  induction l with
  | nil => intro x hx; cases hx
  | cons b l ih =>
    have hb := h b (by simp)
    intro x hx
    simp only [hexL, List.mem_cons] at hx
    rcases hx with rfl | rfl | hx
    · exact hexd_bd _ (by omega)
    · exact hexd_bd _ (by omega)
    · exact ih (fun y hy => h y (by simp [hy])) x hx
theorem getD_bytes (l : List Int) (h : bytes l) (i : Nat) (hi : i < l.length) : 0 ≤ l.getD i 0 ∧ l.getD i 0 < 256 := by
  simp only [List.getD, List.getElem?_eq_getElem hi, Option.getD_some]
  exact h _ (List.getElem_mem hi)
theorem take_nextL (l : List Int) (k : Nat) (h : k < l.length) : l.take (k + 1) = l.take k ++ [l.getD k 0] := by
  rw [List.take_succ_eq_append_getElem h]
  simp [List.getD, List.getElem?_eq_getElem h]
/-- What the 64 letters are behind k bytes. -/
def hexRow (l : List Int) (k : Nat) : List Int := hexL (l.take k) ++ List.replicate (64 - 2 * k) 0
theorem hexRow_length (l : List Int) (hl : l.length = 32) (k : Nat) (hk : k ≤ 32) : (hexRow l k).length = 64 := by
  simp [hexRow, hexL_length]; omega
theorem hexRow_step (l : List Int) (hl : l.length = 32) (k : Nat) (hk : k < 32) : ((hexRow l k).set (2 * k) (hexd (l.getD k 0 / 16))).set (2 * k + 1) (hexd (l.getD k 0 % 16)) = hexRow l (k + 1) := by
  have h1 : (hexL (l.take k)).length = 2 * k := by rw [hexL_length, List.length_take]; omega
  unfold hexRow
  rw [take_nextL l k (by omega), hexL_snoc, List.set_append_right _ _ (by omega), h1, Nat.sub_self, show 64 - 2 * k = (64 - 2 * (k + 1)) + 1 + 1 by omega, List.replicate_succ, List.replicate_succ, List.set_cons_zero, List.set_append_right _ _ (by omega), h1, show 2 * k + 1 - 2 * k = 1 by omega]
  simp
theorem hexRow_all (l : List Int) (hl : l.length = 32) : hexRow l 32 = hexL l := by
  simp [hexRow, List.take_of_length_le (show l.length ≤ 32 by omega)]
theorem hexS_size (l : List Int) (hl : l.length = 32) : (hexS l).size = 64 := by
  unfold hexS; rw [strOfNums_size, hexL_length]; omega

/-- The digit of a text's byte. -/
def digB (s : ByteArray) (i : Nat) : Int := dig ((s.get! i).toNat : Int)
def okUpto (s : ByteArray) : Nat → Bool
  | 0 => true
  | n + 1 => okUpto s n && decide (0 ≤ digB s n)
theorem okUpto_at (s : ByteArray) (n : Nat) (h : okUpto s n = true) (i : Nat) (hi : i < n) : 0 ≤ digB s i := by
  induction n with
  | zero => omega
  | succ n ih =>
    simp only [okUpto, Bool.and_eq_true, decide_eq_true_eq] at h
    by_cases e : i = n
    · subst e; exact h.2
    · exact ih h.1 (by omega)
theorem okUpto_less (s : ByteArray) (n m : Nat) (h : n ≤ m) (ho : okUpto s m = true) : okUpto s n = true := by
  induction m with
  | zero => obtain rfl : n = 0 := by omega
            exact ho
  | succ m ih =>
    by_cases e : n = m + 1
    · subst e; exact ho
    · simp only [okUpto, Bool.and_eq_true] at ho
      exact ih (by omega) ho.1
theorem okUpto_no (s : ByteArray) (n i : Nat) (hi : i < n) (h : digB s i < 0) : okUpto s n = false := by
  cases e : okUpto s n with
  | false => rfl
  | true => have := okUpto_at s n e i hi; omega
/-- Is a text a hash's? -/
def okS (s : ByteArray) : Bool := decide (s.size = 64) && okUpto s 64
def pairB (s : ByteArray) (j : Nat) : Int := 16 * digB s (2 * j) + digB s (2 * j + 1)
def parL (s : ByteArray) : Nat → List Int
  | 0 => []
  | n + 1 => parL s n ++ [pairB s n]
theorem parL_length (s : ByteArray) (n : Nat) : (parL s n).length = n := by
  induction n with
  | zero => rfl
  | succ n ih => simp [parL, ih]
def zero32 : List Int := List.replicate 32 0
/-- The hash of a text: zero, if it is none's. -/
def parseL (s : ByteArray) : List Int := if okS s = true then parL s 32 else zero32
end Go.Proofs.YtllabnhgiojmmaaDoor
