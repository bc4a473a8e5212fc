/-
  Several texts in one (a claim has room for 60 files): TextAt, HexMath, Text, TreeMath, ShaEqB, ShaAt, ShaCells, Hash, TreeCells, OwnList, Sched, Fork, ListMem, NumMath, ReadB, CutB, UnhashB.
-/
import Derived.Test.YtpndccoikhejgaaDoorPk02
import Derived.Test.YtpndccoikhejgaaDoorPk00
import Derived.Test.YtpndccoikhejgaaDoorShelf
import Derived.Laws.BytesArg
import Derived.Test.YtpndccoikhejgaaDoorPk03
import Derived.Stop.BytesEq
import Derived.BigRegion
import Derived.Deep.DeepCutAuto
import Derived.Laws.ResultCell
import Derived.Deep.CutRange
import Derived.RegionTactic
import Derived.Lib.BufferWrite
import Derived.Deep.RegionWith
import Derived.Deep.RegionLaw
import Derived.Laws.AppendOwn
import Derived.Laws.OwnMore
import Derived.Great.BuildSlice
import Derived.OrdersHeld
import Derived.Deep.RegionHeld
import Derived.Deep.QuietTactic
import Derived.BigQuiet
namespace Go.Proofs.YtpndccoikhejgaaDoor
open Go.RowKit
set_option linter.unusedVariables false

theorem getb_left (a b : ByteArray) (i : Nat) (h : i < a.size) : (a ++ b).get! i = a.get! i := by
  rw [get_elem _ i (by rw [ByteArray.size_append]; omega), get_elem a i h]
  exact ByteArray.getElem_append_left h
theorem getb_right (a b : ByteArray) (i : Nat) (h : a.size ≤ i) (h2 : i < a.size + b.size) : (a ++ b).get! i = b.get! (i - a.size) := by
  rw [get_elem _ i (by rw [ByteArray.size_append]; omega), get_elem b (i - a.size) (by omega)]
  exact ByteArray.getElem_append_right h
end Go.Proofs.YtpndccoikhejgaaDoor
namespace Go.Proofs.YtpndccoikhejgaaDoor
open Go.RowKit
set_option linter.unusedVariables false
set_option maxRecDepth 100000

theorem index_nums (k : IntKind) (l : List Int) (n i : Nat) (T e : TypeId) (hu : Tryd.prog.underlying T = some (.array n e)) (ha : ∀ w, (isAgg e).run Tryd.prog w = .ok false w) (hz : ∀ w, (sizeOf e).run Tryd.prog w = .ok 1 w) (hl : l.length = n) (hi : i < n) (w : World) :
    (Instr.index T (.agg (nums k l)) (.int .i64 (i : Int))).run Tryd.prog w = .ok (.int k (l.getD i 0)) w := by
  have h1 := nums_get k l i (by omega)
  have h2 : (0 : Int) ≤ (i : Int) ∧ (i : Int) < (n : Int) := by omega
  simp [Instr.index, run_underlying hu, asIntOf, hi, hz, part, ha, h1, Result.andThen]
theorem index_hash (l : List Int) (hl : l.length = 32) (i : Nat) (hi : i < 32) (w : World) : (Instr.index 23 (.agg (nums .u8 l)) (.int .i64 (i : Int))).run Tryd.prog w = .ok (.int .u8 (l.getD i 0)) w :=
  index_nums .u8 l 32 i 23 5 Tryd.underlying23 Tryd.isAgg5 Tryd.sizeOf5 hl hi w

/-- A digit to the base 16, as a letter. -/
def hexd (x : Int) : Int := if x < 10 then 48 + x else 87 + x
/-- A letter's digit; -1: it is none. -/
def dig (c : Int) : Int := if 48 ≤ c ∧ c ≤ 57 then c - 48 else if 97 ≤ c ∧ c ≤ 102 then c - 87 else -1
def digitsS : ByteArray := ⟨#[48, 49, 50, 51, 52, 53, 54, 55, 56, 57, 97, 98, 99, 100, 101, 102]⟩
theorem digit_at : ∀ x : Nat, x < 16 → ∀ w : World, (Instr.index 9 (.string ⟨#[48, 49, 50, 51, 52, 53, 54, 55, 56, 57, 97, 98, 99, 100, 101, 102]⟩) (.int .u8 (x : Int))).run Tryd.prog w = .ok (.int .u8 (hexd x)) w
  | 0, _, _ => rfl
  | 1, _, _ => rfl
  | 2, _, _ => rfl
  | 3, _, _ => rfl
  | 4, _, _ => rfl
  | 5, _, _ => rfl
  | 6, _, _ => rfl
  | 7, _, _ => rfl
  | 8, _, _ => rfl
  | 9, _, _ => rfl
  | 10, _, _ => rfl
  | 11, _, _ => rfl
  | 12, _, _ => rfl
  | 13, _, _ => rfl
  | 14, _, _ => rfl
  | 15, _, _ => rfl
  | x + 16, h, _ => absurd h (by omega)
theorem digit_run (x : Int) (h : 0 ≤ x ∧ x < 16) (w : World) : (Instr.index 9 (.string ⟨#[48, 49, 50, 51, 52, 53, 54, 55, 56, 57, 97, 98, 99, 100, 101, 102]⟩) (.int .u8 x)).run Tryd.prog w = .ok (.int .u8 (hexd x)) w := by
  obtain ⟨n, rfl⟩ : ∃ n : Nat, x = n := ⟨x.toNat, by omega⟩
  exact digit_at n (by omega) w
theorem hexd_bd (x : Int) (h : 0 ≤ x ∧ x < 16) : 0 ≤ hexd x ∧ hexd x < 256 := by unfold hexd; split <;> omega
theorem dig_bd (c : Int) : -1 ≤ dig c ∧ dig c ≤ 15 := by unfold dig; split <;> (try split) <;> omega
theorem dig_hexd (x : Int) (h : 0 ≤ x ∧ x < 16) : dig (hexd x) = x := by
  unfold dig hexd
  by_cases h1 : x < 10
  · rw [if_pos h1, if_pos (by omega)]; omega
  · rw [if_neg h1, if_neg (by omega), if_pos (by omega)]; omega
theorem hexd_dig (c : Int) (h : 0 ≤ dig c) : hexd (dig c) = c := by
  unfold dig hexd at *
  by_cases h1 : 48 ≤ c ∧ c ≤ 57
  · rw [if_pos h1, if_pos (by omega)]; omega
  · rw [if_neg h1] at h ⊢
    by_cases h2 : 97 ≤ c ∧ c ≤ 102
    · rw [if_pos h2, if_neg (by omega)]; omega
    · rw [if_neg h2] at h; omega
/-- A hash's letters. -/
def hexL : List Int → List Int
  | [] => []
  | b :: l => hexd (b / 16) :: hexd (b % 16) :: hexL l
theorem hexL_length (l : List Int) : (hexL l).length = 2 * l.length := by
  induction l with
  | nil => rfl
  | cons b l ih => simp [hexL, ih]; omega
theorem hexL_snoc (l : List Int) (b : Int) : hexL (l ++ [b]) = hexL l ++ [hexd (b / 16), hexd (b % 16)] := by
  induction l with
  | nil => rfl
  | cons c l ih => simp [hexL, ih]
def hexS (l : List Int) : ByteArray := strOfNums (hexL l)
def bytes (l : List Int) : Prop := ∀ x ∈ l, 0 ≤ x ∧ x < 256
theorem hexL_bytes (l : List Int) (h : bytes l) : bytes (hexL l) := by
  induction l with
  | nil => intro x hx; cases hx
  | cons b l ih =>
    have hb := h b (by simp)
    intro x hx
    simp only [hexL, List.mem_cons] at hx
    rcases hx with rfl | rfl | hx
    · exact hexd_bd _ (by omega)
    · exact hexd_bd _ (by omega)
    · exact ih (fun y hy => h y (by simp [hy])) x hx
theorem getD_bytes (l : List Int) (h : bytes l) (i : Nat) (hi : i < l.length) : 0 ≤ l.getD i 0 ∧ l.getD i 0 < 256 := by
  simp only [List.getD, List.getElem?_eq_getElem hi, Option.getD_some]
  exact h _ (List.getElem_mem hi)
theorem take_nextL (l : List Int) (k : Nat) (h : k < l.length) : l.take (k + 1) = l.take k ++ [l.getD k 0] := by
  rw [List.take_succ_eq_append_getElem h]
  simp [List.getD, List.getElem?_eq_getElem h]
/-- What the 64 letters are behind k bytes. -/
def hexRow (l : List Int) (k : Nat) : List Int := hexL (l.take k) ++ List.replicate (64 - 2 * k) 0
theorem hexRow_length (l : List Int) (hl : l.length = 32) (k : Nat) (hk : k ≤ 32) : (hexRow l k).length = 64 := by
  simp [hexRow, hexL_length]; omega
theorem hexRow_step (l : List Int) (hl : l.length = 32) (k : Nat) (hk : k < 32) : ((hexRow l k).set (2 * k) (hexd (l.getD k 0 / 16))).set (2 * k + 1) (hexd (l.getD k 0 % 16)) = hexRow l (k + 1) := by
  have h1 : (hexL (l.take k)).length = 2 * k := by rw [hexL_length, List.length_take]; omega
  unfold hexRow
  rw [take_nextL l k (by omega), hexL_snoc, List.set_append_right _ _ (by omega), h1, Nat.sub_self, show 64 - 2 * k = (64 - 2 * (k + 1)) + 1 + 1 by omega, List.replicate_succ, List.replicate_succ, List.set_cons_zero, List.set_append_right _ _ (by omega), h1, show 2 * k + 1 - 2 * k = 1 by omega]
  simp
theorem hexRow_all (l : List Int) (hl : l.length = 32) : hexRow l 32 = hexL l := by
  simp [hexRow, List.take_of_length_le (show l.length ≤ 32 by omega)]
theorem hexS_size (l : List Int) (hl : l.length = 32) : (hexS l).size = 64 := by
  unfold hexS; rw [strOfNums_size, hexL_length]; omega

/-- The digit of a text's byte. -/
def digB (s : ByteArray) (i : Nat) : Int := dig ((s.get! i).toNat : Int)
def okUpto (s : ByteArray) : Nat → Bool
  | 0 => true
  | n + 1 => okUpto s n && decide (0 ≤ digB s n)
theorem okUpto_at (s : ByteArray) (n : Nat) (h : okUpto s n = true) (i : Nat) (hi : i < n) : 0 ≤ digB s i := by
  induction n with
  | zero => omega
  | succ n ih =>
    simp only [okUpto, Bool.and_eq_true, decide_eq_true_eq] at h
    by_cases e : i = n
    · subst e; exact h.2
    · exact ih h.1 (by omega)
theorem okUpto_less (s : ByteArray) (n m : Nat) (h : n ≤ m) (ho : okUpto s m = true) : okUpto s n = true := by
  induction m with
  | zero => obtain rfl : n = 0 := by omega
            exact ho
  | succ m ih =>
    by_cases e : n = m + 1
    · subst e; exact ho
    · simp only [okUpto, Bool.and_eq_true] at ho
      exact ih (by omega) ho.1
theorem okUpto_no (s : ByteArray) (n i : Nat) (hi : i < n) (h : digB s i < 0) : okUpto s n = false := by
  cases e : okUpto s n with
  | false => rfl
  | true => have := okUpto_at s n e i hi; omega
/-- Is a text a hash's? -/
def okS (s : ByteArray) : Bool := decide (s.size = 64) && okUpto s 64
def pairB (s : ByteArray) (j : Nat) : Int := 16 * digB s (2 * j) + digB s (2 * j + 1)
def parL (s : ByteArray) : Nat → List Int
  | 0 => []
  | n + 1 => parL s n ++ [pairB s n]
theorem parL_length (s : ByteArray) (n : Nat) : (parL s n).length = n := by
  induction n with
  | zero => rfl
  | succ n ih => simp [parL, ih]
def zero32 : List Int := List.replicate 32 0
/-- The hash of a text: zero, if it is none's. -/
def parseL (s : ByteArray) : List Int := if okS s = true then parL s 32 else zero32
end Go.Proofs.YtpndccoikhejgaaDoor
namespace Go.Proofs.YtpndccoikhejgaaDoor
open Go.RowKit
set_option linter.unusedVariables false

/-- A text's bytes. -/
def textL (s : ByteArray) : List Int := s.data.toList.map fun b => (b.toNat : Int)
theorem textL_length (s : ByteArray) : (textL s).length = s.size := by unfold textL; rw [List.length_map, Array.length_toList]; rfl
theorem textL_bytes (s : ByteArray) : ∀ x ∈ textL s, 0 ≤ x ∧ x < 256 := by
  intro x hx
  obtain ⟨b, _, rfl⟩ := List.mem_map.1 hx
  have := b.toNat_lt
  omega
theorem textL_app (a b : ByteArray) : textL (a ++ b) = textL a ++ textL b := by
  unfold textL
  rw [ByteArray.data_append, Array.toList_append, List.map_append]
theorem textL_nums (l : List Int) (h : ∀ x ∈ l, 0 ≤ x ∧ x < 256) : textL (strOfNums l) = l := by
  unfold textL
  rw [strOfNums_data, List.map_map]
  conv => rhs; rw [← List.map_id l]
  refine List.map_congr_left fun x hx => ?_
  have := h x hx
  simp [Function.comp]
  omega
theorem text_nums (s : ByteArray) : strOfNums (textL s) = s := by
  unfold strOfNums textL
  rw [List.map_map]
  have : (fun n : Int => UInt8.ofNat n.toNat) ∘ (fun b : UInt8 => (b.toNat : Int)) = id := by
    funext b; simp
  rw [this, List.map_id]
theorem textL_inj (a b : ByteArray) (h : textL a = textL b) : a = b := by rw [← text_nums a, h, text_nums]
theorem textL_extract (s : ByteArray) (a b : Nat) : textL (s.extract a b) = ((textL s).drop a).take (b - a) := by
  unfold textL
  rw [ByteArray.data_extract, Array.toList_extract, List.extract_eq_take_drop, List.map_take, List.map_drop]
theorem textL_rest (s : ByteArray) (p : Nat) : textL (s.extract p s.size) = (textL s).drop p := by
  rw [textL_extract, List.take_of_length_le (by rw [List.length_drop, textL_length]; omega)]
theorem textL_take (s : ByteArray) (p : Nat) : textL (s.extract 0 p) = (textL s).take p := by
  rw [textL_extract]; simp
theorem textL_at (s : ByteArray) (i : Nat) (h : i < s.size) : (textL s).drop i = ((s[i].toNat : Nat) : Int) :: (textL s).drop (i + 1) := by
  rw [List.drop_eq_getElem_cons (by rw [textL_length]; exact h)]
  congr 1
  simp only [textL, List.getElem_map]
  rfl
theorem textL_getD (s : ByteArray) (i : Nat) (h : i < s.size) : (textL s).getD i 0 = ((s[i].toNat : Nat) : Int) := by
  rw [List.getD_eq_getElem?_getD, List.getElem?_eq_getElem (by rw [textL_length]; exact h)]
  simp only [textL, List.getElem_map, Option.getD_some]
  rfl
theorem textL_none : textL ⟨#[]⟩ = [] := rfl
theorem textL_size0 (s : ByteArray) (h : textL s = []) : s = ⟨#[]⟩ := textL_inj _ _ (by rw [h, textL_none])
end Go.Proofs.YtpndccoikhejgaaDoor
namespace Go.Proofs.YtpndccoikhejgaaDoor
open Go.RowKit
set_option linter.unusedVariables false
set_option maxRecDepth 100000

/-- The greatest power of two below n; 0, if n is below 2. -/
def splitN (n : Nat) : Nat := if n < 2 then 0 else 2 ^ Nat.log2 (n - 1)
theorem splitN_few (n : Nat) (h : n < 2) : splitN n = 0 := by unfold splitN; rw [if_pos h]
theorem splitN_is (n e : Nat) (h1 : 2 ^ e < n) (h2 : n ≤ 2 ^ (e + 1)) : splitN n = 2 ^ e := by
  have h0 : 0 < 2 ^ e := Nat.two_pow_pos e
  unfold splitN
  rw [if_neg (by omega)]
  congr 1
  exact (Nat.log2_eq_iff (by omega)).2 ⟨by omega, by omega⟩
theorem splitN_pos (n : Nat) (h : 2 ≤ n) : 0 < splitN n := by
  unfold splitN
  rw [if_neg (by omega)]
  exact Nat.two_pow_pos _
theorem splitN_lt (n : Nat) (h : 2 ≤ n) : splitN n < n := by
  unfold splitN
  rw [if_neg (by omega)]
  have := Nat.log2_self_le (n := n - 1) (by omega)
  omega
theorem splitN_ge (n : Nat) (h : 2 ≤ n) : n ≤ 2 * splitN n := by
  unfold splitN
  rw [if_neg (by omega)]
  have := Nat.lt_log2_self (n := n - 1)
  rw [Nat.pow_succ] at this
  omega
/-- What is hashed of an entry, and of two hashes. -/
def leafS (s : ByteArray) : ByteArray := ⟨#[0]⟩ ++ s
def nodeS (a b : List Int) : ByteArray := ⟨#[1]⟩ ++ strOfNums a ++ strOfNums b
def leafL (s : ByteArray) : List Int := sumL (leafS s)
def nodeL (a b : List Int) : List Int := sumL (nodeS a b)
/-- The root of leaves. -/
def rootL (ls : List (List Int)) : List Int :=
  if h : ls.length < 2 then (if ls.length = 0 then sumL ⟨#[]⟩ else ls.getD 0 [])
  else nodeL (rootL (ls.take (splitN ls.length))) (rootL (ls.drop (splitN ls.length)))
termination_by ls.length
decreasing_by
  · rw [List.length_take]; have := splitN_lt ls.length (by omega); omega
  · rw [List.length_drop]; have := splitN_pos ls.length (by omega); omega
theorem rootL_none (ls : List (List Int)) (h : ls.length = 0) : rootL ls = sumL ⟨#[]⟩ := by
  rw [rootL, dif_pos (by omega), if_pos h]
theorem rootL_one (ls : List (List Int)) (h : ls.length = 1) : rootL ls = ls.getD 0 [] := by
  rw [rootL, dif_pos (by omega), if_neg (by omega)]
theorem rootL_more (ls : List (List Int)) (h : 2 ≤ ls.length) : rootL ls = nodeL (rootL (ls.take (splitN ls.length))) (rootL (ls.drop (splitN ls.length))) := by
  rw [rootL, dif_neg (by omega)]
theorem sumL_length (s : ByteArray) : (sumL s).length = 32 := by
  unfold sumL
  rw [bytesL_length, list8]
theorem bytesL_bytes (l : List Int) : bytes (bytesL l) := by
  induction l with
  | nil => intro x hx; cases hx
  | cons n l ih =>
    intro x hx
    simp only [bytesL, List.mem_append] at hx
    rcases hx with hx | hx
    · exact putL_byte n 4 x hx
    · exact ih x hx
theorem sumL_bytes (s : ByteArray) : bytes (sumL s) := bytesL_bytes _
/-- Each is 32 bytes. -/
def hashes (ls : List (List Int)) : Prop := ∀ l ∈ ls, l.length = 32 ∧ bytes l
theorem hashes_at {ls : List (List Int)} (h : hashes ls) (i : Nat) (hi : i < ls.length) : (ls.getD i []).length = 32 ∧ bytes (ls.getD i []) := by
  rw [List.getD_eq_getElem?_getD, List.getElem?_eq_getElem hi]
  exact h _ (List.getElem_mem hi)
theorem hashes_take {ls : List (List Int)} (h : hashes ls) (k : Nat) : hashes (ls.take k) := fun l hl => h l (List.mem_of_mem_take hl)
theorem hashes_drop {ls : List (List Int)} (h : hashes ls) (k : Nat) : hashes (ls.drop k) := fun l hl => h l (List.mem_of_mem_drop hl)
theorem rootL_is (ls : List (List Int)) (h : hashes ls) : (rootL ls).length = 32 ∧ bytes (rootL ls) := by
  by_cases h0 : ls.length = 0
  · rw [rootL_none ls h0]; exact ⟨sumL_length _, sumL_bytes _⟩
  · by_cases h1 : ls.length = 1
    · rw [rootL_one ls h1]; exact hashes_at h 0 (by omega)
    · rw [rootL_more ls (by omega)]; exact ⟨sumL_length _, sumL_bytes _⟩
/-- Leaves from one place to another. -/
def part (ls : List (List Int)) (a b : Nat) : List (List Int) := (ls.drop a).take (b - a)
theorem part_length (ls : List (List Int)) (a b : Nat) (h : b ≤ ls.length) : (part ls a b).length = b - a := by
  unfold part
  rw [List.length_take, List.length_drop]
  omega
theorem part_all (ls : List (List Int)) : part ls 0 ls.length = ls := by simp [part]
theorem part_left (ls : List (List Int)) (a b k : Nat) (hk : k ≤ b - a) : (part ls a b).take k = part ls a (a + k) := by
  unfold part
  rw [List.take_take, Nat.min_eq_left hk]
  congr 1
  omega
theorem part_right (ls : List (List Int)) (a b k : Nat) : (part ls a b).drop k = part ls (a + k) b := by
  unfold part
  rw [List.drop_take, List.drop_drop]
  congr 1
  omega
theorem part_one (ls : List (List Int)) (a b : Nat) (h : b = a + 1) (hb : b ≤ ls.length) : rootL (part ls a b) = ls.getD a [] := by
  subst h
  rw [rootL_one _ (by rw [part_length _ _ _ hb]; omega)]
  unfold part
  simp [List.getD_eq_getElem?_getD]
theorem part_more (ls : List (List Int)) (a b : Nat) (h : a + 2 ≤ b) (hb : b ≤ ls.length) : rootL (part ls a b) = nodeL (rootL (part ls a (a + splitN (b - a)))) (rootL (part ls (a + splitN (b - a)) b)) := by
  have hl := part_length ls a b hb
  have hs := splitN_lt (b - a) (by omega)
  rw [rootL_more _ (by omega), hl, part_left ls a b _ (by omega), part_right]
theorem textL_node (a b : List Int) (ha : bytes a) (hb : bytes b) : textL (nodeS a b) = 1 :: (a ++ b) := by
  unfold nodeS
  rw [textL_app, textL_app, textL_nums a ha, textL_nums b hb]
  rfl
theorem textL_leaf (s : ByteArray) : textL (leafS s) = 0 :: textL s := by
  unfold leafS
  rw [textL_app]
  rfl
end Go.Proofs.YtpndccoikhejgaaDoor
namespace Go.Proofs.YtpndccoikhejgaaDoor
open Go.RowKit
set_option linter.unusedVariables false
set_option maxRecDepth 100000

theorem nums_cells (l : List Int) (h : bytes l) : nums .u8 l = ((l.map fun x => UInt8.ofNat x.toNat).map Extern.Stop.cell).toArray := by
  unfold nums
  congr 1
  rw [List.map_map]
  apply List.map_congr_left
  intro x hx
  have := h x hx
  simp [Extern.Stop.cell]
  omega
theorem same_cells (l m : List Int) (hl : bytes l) (hm : bytes m) : ((l.map fun x => UInt8.ofNat x.toNat) == (m.map fun x => UInt8.ofNat x.toNat)) = decide (l = m) := by
  rw [Bool.eq_iff_iff]
  simp only [beq_iff_eq, decide_eq_true_eq]
  constructor
  · intro h
    apply List.ext_getElem
    · have := congrArg List.length h; simpa using this
    · intro i h1 h2
      have e : (l.map fun x => UInt8.ofNat x.toNat)[i]'(by simpa using h1) = (m.map fun x => UInt8.ofNat x.toNat)[i]'(by simpa using h2) := by simp only [h]
      simp only [List.getElem_map] at e
      have b1 := hl l[i] (List.getElem_mem h1)
      have b2 := hm m[i] (List.getElem_mem h2)
      have e2 := congrArg UInt8.toNat e
      simp at e2
      omega
  · rintro rfl; rfl
theorem eql_hash (l m : List Int) (hl : l.length = 32) (hm : m.length = 32) (bl : bytes l) (bm : bytes m) (w : World) :
    (binOp .eql 23 (.agg (nums .u8 l)) (.agg (nums .u8 m))).run Tryd.prog w = .ok (.bool (decide (l = m))) w := by
  rw [nums_cells l bl, nums_cells m bm, run_eql_bytes w 23 5 32 Tryd.underlying23 Tryd.underlying5 Tryd.sizeOf5 _ _ (by simpa using hl) (by simpa using hm), same_cells l m bl bm]
theorem neq_hash (l m : List Int) (hl : l.length = 32) (hm : m.length = 32) (bl : bytes l) (bm : bytes m) (w : World) :
    (binOp .neq 23 (.agg (nums .u8 l)) (.agg (nums .u8 m))).run Tryd.prog w = .ok (.bool (!decide (l = m))) w := by
  have h := run_equalIn_bytes w 9998 23 5 32 Tryd.underlying23 Tryd.underlying5 Tryd.sizeOf5 (l.map fun x => UInt8.ofNat x.toNat) (m.map fun x => UInt8.ofNat x.toNat) (by simpa using hl) (by simpa using hm)
  rw [same_cells l m bl bm, ← nums_cells l bl, ← nums_cells m bm] at h
  simp only [binOp]
  simp [Op.equal, Op.maxDepth, h]
theorem eql_text (s : ByteArray) (w : World) : (binOp .eql 9 (.string s) (.string s)).run Tryd.prog w = .ok (.bool true) w := by
  simp [go_sem]
theorem eql_bool (b : Bool) (w : World) : (binOp .eql 4 (.bool b) (.bool b)).run Tryd.prog w = .ok (.bool true) w := by
  simp [go_sem, Tryd.underlying4]
theorem zero32_bytes : bytes zero32 := by
  intro x hx
  have := List.eq_of_mem_replicate hx
  omega
end Go.Proofs.YtpndccoikhejgaaDoor
namespace Go.Proofs.YtpndccoikhejgaaDoor
open Go.RowKit
set_option linter.unusedVariables false
set_option maxRecDepth 100000

def eqAt (x y : Value) : Sem Value := binOp .eql 23 x y
theorem eq_at (x y : Value) : binOp .eql 23 x y = eqAt x y := rfl
def neqAt (x y : Value) : Sem Value := binOp .neq 23 x y
theorem neq_at (x y : Value) : binOp .neq 23 x y = neqAt x y := rfl
theorem eqAt_hash (l m : List Int) (hl : l.length = 32) (hm : m.length = 32) (bl : bytes l) (bm : bytes m) (w : World) : (eqAt (.agg (nums .u8 l)) (.agg (nums .u8 m))).run Tryd.prog w = .ok (.bool (decide (l = m))) w := eql_hash l m hl hm bl bm w
theorem neqAt_hash (l m : List Int) (hl : l.length = 32) (hm : m.length = 32) (bl : bytes l) (bm : bytes m) (w : World) : (neqAt (.agg (nums .u8 l)) (.agg (nums .u8 m))).run Tryd.prog w = .ok (.bool (!decide (l = m))) w := neq_hash l m hl hm bl bm w
end Go.Proofs.YtpndccoikhejgaaDoor
namespace Go.Proofs.YtpndccoikhejgaaDoor
open Go.RowKit
set_option linter.unusedVariables false
set_option maxRecDepth 100000

theorem Row.loads {P : Program} {w : World} {g : Nat} {t : TypeId} {C : Array Value} (h : Row w g t C) (n : Nat) (hn : C.size = n) : (loadCellsFrom ⟨g, 0, none⟩ 0 n #[]).run P w = .ok C w := by
  subst hn
  have := run_loadCells_list (P := P) w ⟨g, 0, none⟩ C.toList (fun j v hv => by
    have hadd : (⟨g, 0, none⟩ : Addr).add j = ⟨g, j, none⟩ := by unfold Addr.add; split <;> simp_all
    rw [hadd, h.cell j]
    simpa using hv)
  simpa [loadCells] using this
/-- A hash out of memory, as one step. -/
def readAt (p : Value) : Sem Value := Instr.loadAt 23 p
theorem read_at (p : Value) : Instr.loadAt 23 p = readAt p := rfl
theorem sizeH (n : Nat) (h : n = 32) : (Tryd.prog.info? 23).map (·.size) = some n := by rw [h]; kernel_rfl
theorem Row.read {w : World} {g : Nat} {t : TypeId} {C : Array Value} (h : Row w g t C) (hn : C.size = 32) : (readAt (.pointer (some ⟨g, 0, none⟩))).run Tryd.prog w = .ok (.agg C) w := by
  unfold readAt
  simp only [Instr.loadAt, Instr.sureAddr, Sem.run_bind, Sem.run_pure, Result.andThen_ok, run_loadVar_row w g t 23 C (0, 0) _ h Tryd.underlying23 rfl (sizeH _ hn)]
end Go.Proofs.YtpndccoikhejgaaDoor
namespace Go.Proofs.YtpndccoikhejgaaDoor
open Go.RowKit
set_option linter.unusedVariables false
set_option maxRecDepth 100000

theorem sizeHash (l : List Int) (h : l.length = 32) : (Tryd.prog.info? 23).map (·.size) = some (nums .u8 l).size := by rw [nums_size, h]; kernel_rfl
theorem conv_row {w : World} {g : Nat} {t : TypeId} {l : List Int} (h : Row w g t (nums .u8 l)) (hl : l.length = 32) :
    (convert 48 9 (.slice (some ⟨g, 0, none⟩) 32 32)).run Tryd.prog w = .ok (.string (strOfNums l)) w :=
  run_convert_bytes_arg w 48 5 Tryd.underlying48 Tryd.underlying5 g 0 32 32 l hl (fun i hi => by rw [Nat.zero_add]; exact h.num (by omega)) 9 Tryd.underlying9
set_option maxHeartbeats 1000000 in
set_option maxRecDepth 100000 in
theorem hash_any (l : List Int) (hl : l.length = 32) (w : World) :
    Calls Tryd.prog 29 #[.agg (nums .u8 l)] w fun e w' => e = .returned (.string (strOfNums l)) ∧ Below w.heap.size w w' := by
  have hc := conv_row (Row.made w 23 (nums .u8 l)) hl
  go_enter Tryd.func29, Tryd.ntmps29
  go_wp2
  go_ret
  exact ⟨rfl, (Below.refl _ _).alloc (Nat.le_refl _) _⟩
end Go.Proofs.YtpndccoikhejgaaDoor
namespace Go.Proofs.YtpndccoikhejgaaDoor
open Go.RowKit
set_option linter.unusedVariables false
set_option maxRecDepth 100000

theorem world_gen {P : Program} {c : Code} {Q : Exit → Act → World → Prop} {a : Act} {w0 : World} (R : World → Prop) (hR : R w0) (h : ∀ wx, R wx → Code.wp P c Q a wx) : Code.wp P c Q a w0 := h _ hR
def writeAt (p v : Value) : Sem Unit := Instr.storeAt 23 p v
theorem write_at (p v : Value) : Instr.storeAt 23 p v = writeAt p v := rfl
theorem Row.write {w : World} {g : Nat} {t : TypeId} {C D : Array Value} (h : Row w g t C) (hn : C.size = 32) (hd : D.size = 32) (h1 : D.all (·.oneCell') = true) : (writeAt (.pointer (some ⟨g, 0, none⟩)) (.agg D)).run Tryd.prog w = .ok () (w.setRow g D) := by
  unfold writeAt
  simp only [Instr.storeAt, Instr.sureAddr, Sem.run_bind, Sem.run_pure, Result.andThen_ok, run_storeVar_row w g t 23 C D h (sizeH _ hd) (by rw [hn, hd]) h1]
theorem block_of_add (a : Addr) (n : Nat) : (a.add n).block = a.block := by unfold Addr.add; split <;> rfl
theorem add_of_add (a : Addr) (i j : Nat) : (a.add i).add j = a.add (i + j) := by
  unfold Addr.add
  by_cases hi : i = 0 <;> by_cases hj : j = 0 <;> simp [hi, hj, Nat.add_assoc]
theorem add_flat (g i : Nat) : (⟨g, 0, none⟩ : Addr).add i = ⟨g, i, none⟩ := by unfold Addr.add; split <;> simp_all
/-- The address A leads to the hashes ls, one behind the other, below block B. -/
def HL (w : World) (B : Nat) (A : Option Addr) (ls : List (List Int)) : Prop :=
  ∀ i, i < ls.length → ∃ ad, A = some ad ∧ ad.block < B ∧ ∀ j, j < 32 → w.cell? (ad.add (i * 32 + j)) = some (.int .u8 ((ls.getD i []).getD j 0))
theorem HL.next {w w' : World} {B B' : Nat} {A : Option Addr} {ls : List (List Int)} (h : HL w B A ls) (hb : Below B' w w') (hB : B ≤ B') : HL w' B A ls := fun i hi => by
  obtain ⟨ad, e, hlt, hc⟩ := h i hi
  exact ⟨ad, e, hlt, fun j hj => (hb.cell (p := ad.add (i * 32 + j)) (by rw [block_of_add]; omega)).trans (hc j hj)⟩
theorem HL.more {w : World} {B B' : Nat} {A : Option Addr} {ls : List (List Int)} (h : HL w B A ls) (hB : B ≤ B') : HL w B' A ls := fun i hi => by
  obtain ⟨ad, e, hlt, hc⟩ := h i hi
  exact ⟨ad, e, by omega, hc⟩
theorem HL.nil (w : World) (B : Nat) (A : Option Addr) : HL w B A [] := fun i hi => by simp at hi
theorem HL.some {w : World} {B : Nat} {A : Option Addr} {ls : List (List Int)} (h : HL w B A ls) (i : Nat) (hi : i < ls.length) : ∃ ad, A = some ad := by
  obtain ⟨ad, e, _⟩ := h i hi
  exact ⟨ad, e⟩
theorem getD_take {ls : List (List Int)} {k i : Nat} (h : i < k) : (ls.take k).getD i [] = ls.getD i [] := by
  rw [List.getD_eq_getElem?_getD, List.getD_eq_getElem?_getD, List.getElem?_take, if_pos h]
theorem getD_drop {ls : List (List Int)} {k i : Nat} : (ls.drop k).getD i [] = ls.getD (k + i) [] := by
  rw [List.getD_eq_getElem?_getD, List.getD_eq_getElem?_getD, List.getElem?_drop]
theorem HL.take {w : World} {B : Nat} {A : Option Addr} {ls : List (List Int)} (h : HL w B A ls) (k : Nat) : HL w B A (ls.take k) := fun i hi => by
  rw [List.length_take] at hi
  obtain ⟨ad, e, hlt, hc⟩ := h i (by omega)
  exact ⟨ad, e, hlt, fun j hj => by rw [getD_take (by omega)]; exact hc j hj⟩
theorem HL.drop {w : World} {B : Nat} {ad : Addr} {ls : List (List Int)} (h : HL w B (.some ad) ls) (k : Nat) : HL w B (.some (ad.add (k * 32))) (ls.drop k) := fun i hi => by
  rw [List.length_drop] at hi
  obtain ⟨ad', e, hlt, hc⟩ := h (k + i) (by omega)
  cases e
  exact ⟨_, rfl, by rw [block_of_add]; exact hlt, fun j hj => by rw [getD_drop, add_of_add, show k * 32 + (i * 32 + j) = (k + i) * 32 + j by omega]; exact hc j hj⟩
theorem isAggH (w : World) : (isAgg 23).run Tryd.prog w = .ok true w := by kernel_rfl
theorem sizeOfH (w : World) : (sizeOf 23).run Tryd.prog w = .ok 32 w := by kernel_rfl
/-- A hash out of memory, wherever it lies. -/
theorem read_flat (w : World) (a : Addr) (l : List Int) (hl : l.length = 32) (h : ∀ j, j < 32 → w.cell? (a.add j) = Option.some (.int .u8 (l.getD j 0))) : (readAt (.pointer (Option.some a))).run Tryd.prog w = .ok (.agg (nums .u8 l)) w := by
  have hls : (nums .u8 l).toList.length = 32 := by rw [Array.length_toList, nums_size, hl]
  have hload : (loadCells a (nums .u8 l).toList.length).run Tryd.prog w = .ok (nums .u8 l).toList.toArray w :=
    run_loadCells_list (P := Tryd.prog) w a (nums .u8 l).toList (fun j v hv => by
      have hj : j < 32 := by
        rcases Nat.lt_or_ge j 32 with h' | h'
        · exact h'
        · rw [List.getElem?_eq_none (by omega)] at hv; cases hv
      have e := nums_get .u8 l j (by omega)
      rw [Array.getElem?_toList, e] at hv
      cases hv
      exact h j hj)
  rw [hls, Array.toArray_toList] at hload
  unfold readAt
  simp only [Instr.loadAt, Instr.sureAddr, Sem.run_bind, Sem.run_pure, Result.andThen_ok, loadVar, isAggH, sizeOfH, hload, if_true]
theorem HL.read {w : World} {B : Nat} {ad : Addr} {ls : List (List Int)} (h : HL w B (.some ad) ls) (hs : hashes ls) (i : Nat) (hi : i < ls.length) : (readAt (.pointer (.some (ad.add (i * 32))))).run Tryd.prog w = .ok (.agg (nums .u8 (ls.getD i []))) w := by
  obtain ⟨ad', e, _, hc⟩ := h i hi
  cases e
  exact read_flat w _ _ (hashes_at hs i hi).1 (fun j hj => by rw [add_of_add]; exact hc j hj)
/-- Loads and comparisons of hashes, as steps that only yield a value. -/
theorem get_load {o : Oper} {a : Act} {x : Operand} {p : Option Addr} {v : Value} {w : World} (ho : o.op = .load 23 x) (hx : a.eval x = .pointer p) (h : (readAt (.pointer p)).run Tryd.prog w = .ok v w) : (execOp a.eval o).run Tryd.prog w = .ok (.value v) w := by
  unfold execOp
  simp only [ho, hx, read_at, Sem.run_bind, Sem.run_pure, h, Result.andThen_ok]
theorem get_eqH {o : Oper} {a : Act} {x y : Operand} {T : TypeId} {A B : Array Value} {v : Value} {w : World} (ho : o.op = .binOp .eql 23 x y T) (hx : a.eval x = .agg A) (hy : a.eval y = .agg B)
    (h : (eqAt (.agg A) (.agg B)).run Tryd.prog w = .ok v w) : (execOp a.eval o).run Tryd.prog w = .ok (.value v) w := by
  have hg : (eqGuard .eql 23 x y (.agg A) (.agg B)).run Tryd.prog w = .ok () w := by
    simp [eqGuard]
  unfold execOp
  simp only [ho, hx, hy, hg, eq_at, Sem.run_bind, Sem.run_pure, h, Result.andThen_ok]
theorem get_neqH {o : Oper} {a : Act} {x y : Operand} {T : TypeId} {A B : Array Value} {v : Value} {w : World} (ho : o.op = .binOp .neq 23 x y T) (hx : a.eval x = .agg A) (hy : a.eval y = .agg B)
    (h : (neqAt (.agg A) (.agg B)).run Tryd.prog w = .ok v w) : (execOp a.eval o).run Tryd.prog w = .ok (.value v) w := by
  have hg : (eqGuard .neq 23 x y (.agg A) (.agg B)).run Tryd.prog w = .ok () w := by
    simp [eqGuard]
  unfold execOp
  simp only [ho, hx, hy, hg, neq_at, Sem.run_bind, Sem.run_pure, h, Result.andThen_ok]
end Go.Proofs.YtpndccoikhejgaaDoor
namespace Go.Proofs.YtpndccoikhejgaaDoor
open Go.RowKit
set_option linter.unusedVariables false
set_option maxRecDepth 100000

theorem flat_length {ls : List (List Int)} (h : hashes ls) : ls.flatten.length = 32 * ls.length := by
  induction ls with
  | nil => rfl
  | cons l r ih =>
    rw [List.flatten_cons, List.length_append, ih (fun x hx => h x (by simp [hx])), (h l (by simp)).1, List.length_cons]
    omega
theorem flat_get (ls : List (List Int)) : hashes ls → ∀ i j, i < ls.length → j < 32 → ls.flatten.getD (i * 32 + j) 0 = (ls.getD i []).getD j 0 := by
  induction ls with
  | nil => intro _ i j h; simp at h
  | cons l r ih =>
    intro hs i j hi hj
    have hl := (hs l (by simp)).1
    cases i with
    | zero => simp only [List.flatten_cons, Nat.zero_mul, Nat.zero_add, List.getD_eq_getElem?_getD]; rw [List.getElem?_append_left (by omega)]; rfl
    | succ i =>
      have e : (i + 1) * 32 + j - l.length = i * 32 + j := by omega
      have := ih (fun x hx => hs x (by simp [hx])) i j (by simpa using hi) hj
      simp only [List.getD_eq_getElem?_getD] at this
      simp only [List.flatten_cons, List.getD_eq_getElem?_getD]
      rw [List.getElem?_append_right (by omega), e, this]
      rfl
/-- Hashes as cells. -/
def cellsL (ls : List (List Int)) : List Value := ls.flatten.map (Value.int .u8)
theorem cellsL_snoc (ls : List (List Int)) (l : List Int) : cellsL (ls ++ [l]) = cellsL ls ++ l.map (Value.int .u8) := by simp [cellsL]
theorem cellsL_get {ls : List (List Int)} (hs : hashes ls) (i j : Nat) (hi : i < ls.length) (hj : j < 32) : (cellsL ls)[i * 32 + j]? = some (.int .u8 ((ls.getD i []).getD j 0)) := by
  have hlt : i * 32 + j < ls.flatten.length := by rw [flat_length hs]; omega
  unfold cellsL
  rw [List.getElem?_map, List.getElem?_eq_getElem hlt]
  have := flat_get ls hs i j hi hj
  rw [List.getD_eq_getElem?_getD, List.getElem?_eq_getElem hlt] at this
  simp only [Option.getD_some] at this
  rw [this]
  rfl
/-- A slice of the call's own: k hashes. -/
def OwnL (w wr : World) (v : Value) (k : Nat) (ls : List (List Int)) : Prop := wr.ownsRow w.heap.size 23 32 v k (cellsL ls) ∧ Below w.heap.size w wr
theorem OwnL.lead {w wr : World} {v : Value} {k : Nat} {ls : List (List Int)} (h : OwnL w wr v k ls) (hk : ls.length = k) (hs : hashes ls) : ∃ A c, v = .slice A k c ∧ k ≤ c ∧ HL wr wr.heap.size A ls ∧ (k = 0 ∨ ∃ g, A = some ⟨g, 0, none⟩) := by
  obtain ⟨h1, h2⟩ := h
  rcases h1.2 with ⟨rfl, h0⟩ | ⟨g, cap, cur, rfl, _, hg, h3⟩
  · subst h0
    have : ls = [] := List.eq_nil_of_length_eq_zero hk
    subst this
    exact ⟨none, 0, rfl, Nat.le_refl _, HL.nil _ _ _, .inl rfl⟩
  · refine ⟨_, _, rfl, ?_, fun i hi => ⟨_, rfl, (Array.getElem?_eq_some_iff.1 hg).1, fun j hj => h1.cells (g := g) rfl _ _ (cellsL_get hs i j hi hj)⟩, .inr ⟨g, rfl⟩⟩
    first | exact h3.1 | exact h3.2.1 | omega
theorem own_below {w w' : World} {base size n : Nat} {e : TypeId} {v : Value} {xs : List Value} (h : w.ownsRow base e size v n xs) (hb : Below w.heap.size w w') : w'.ownsRow base e size v n xs := by
  obtain ⟨h1, h2⟩ := h
  refine ⟨h1, ?_⟩
  rcases h2 with h2 | ⟨g, cap, cur, hv, hB, hg, h3⟩
  · exact .inl h2
  · exact .inr ⟨g, cap, cur, hv, hB, (hb.block g (Array.getElem?_eq_some_iff.1 hg).1).trans hg, h3⟩
theorem OwnL.next {w wr w3 w1 : World} {v v' : Value} {k : Nat} {ls : List (List Int)} {l : List Int} {C : Array Value} {t : TypeId} (h : OwnL w wr v k ls) (hb : Below wr.heap.size wr w3)
    (h1 : w1.ownsRow w.heap.size 23 32 v' (k + 1) (cellsL ls ++ l.map (Value.int .u8))) (hg : (w3.alloc (.cells C t)).grownBy w1 v.ownBlock) : OwnL w w1 v' (k + 1) (ls ++ [l]) := by
  refine ⟨by rw [cellsL_snoc]; exact h1, ?_⟩
  have hB := (below_new h.2 hb)
  refine (hB.alloc hB.size _).grown hg (by have := hB.size; simp; omega) (fun g e => ?_)
  rcases h.1.2 with ⟨rfl, _⟩ | ⟨g', cap, cur, rfl, hb', _⟩
  · simp [Value.ownBlock] at e
  · have : g' = g := by simpa [Value.ownBlock] using e
    omega
theorem infoHash : (Tryd.prog.info? 23).map (fun i => (i.zero, i.size, i.bytes)) = some (some (.agg (nums .u8 (List.replicate 32 0))), 32, 32) := by kernel_rfl
theorem fill_one (C cells : Array Value) (hC : C.size = 32) (h : cells.size = 32) : Instr.fill (fun i => some (i * 32, 32)) cells [(0, .agg C)] = some C := by
  obtain ⟨r, hr, hsz, hk⟩ := Great.fill_dense (s := 32) (by omega) [.agg C] 0 cells (fun v hv => by simp at hv; subst hv; exact hC) (by simp; omega)
  have e : ([Value.agg C].zipIdx 0).map (fun x => (x.2, x.1)) = [(0, .agg C)] := rfl
  rw [e] at hr
  rw [hr]
  congr 1
  apply Array.ext_getElem?
  intro k
  rw [hk k]
  by_cases hlt : k < 32
  · rw [if_pos (by simp; omega), show k / 32 - 0 = 0 by omega, Nat.mod_eq_of_lt hlt]
    rfl
  · rw [if_neg (by simp; omega), Array.getElem?_eq_none (by omega), Array.getElem?_eq_none (by omega)]
/-- A slice of one hash, made. -/
theorem wpList_buildOne {ops : Array Oper} {rest : List Oper} {o : Oper} {a : Act} {w : World} {Q : Exit → Act → World → Prop} (hg : o.guard = none) (y : Operand) (ho : o.op = .buildSlice 27 1 #[(0, y)])
    (C : Array Value) (hy : a.eval y = .agg C) (hC : C.size = 32) (h : wpList Tryd.prog ops Q rest (a.put o.dst (.slice (some ⟨w.heap.size, 0, none⟩) 1 1)) (w.alloc (.cells C 23))) : wpList Tryd.prog ops Q (o :: rest) a w := by
  obtain ⟨i0, hi, hz0, hz1, hz2⟩ := info_parts infoHash
  refine wpList_buildSlice hg 27 23 1 _ ho C i0 _ Tryd.underlying27 hi hz0 (by rw [hz1]; decide) (by rw [hz1]; decide) ?_ h
  have e : ((#[(0, y)] : Array (Nat × Operand)).map fun (i, x) => (i, a.eval x)).toList = [(0, .agg C)] := by simp [hy]
  rw [e, hz1]
  exact fill_one C _ hC (by simp)
end Go.Proofs.YtpndccoikhejgaaDoor
namespace Go.Proofs.YtpndccoikhejgaaDoor
open Go
set_option linter.unusedVariables false

/-- Is the order one that serves? (true: a call.) -/
def okSched (md : Region.Mode) (ops : Array Oper) : List (Bool × Nat) → Array Bool → Bool
  | [], listed => (Region.ready md ops listed).isEmpty
  | (true, i) :: l, listed => (Region.ready md ops listed == [i]) && okSched md ops l (listed.setIfInBounds i true)
  | (false, i) :: l, listed => (Region.free md ops listed i && (Region.ready md ops listed).contains i) && okSched md ops l (listed.setIfInBounds i true)
/-- The walk in that order. -/
def wpSched (P : Program) (ops : Array Oper) (Q : Exit → Act → World → Prop) (S : World → Prop) : List (Bool × Nat) → Act → World → Prop
  | [], a, w => Q .normal a w
  | (true, i) :: l, a, w => ∃ o, ops[i]? = some o ∧ Region.wanted o (yielded ops a.tmps) = true ∧ Oper.wp P o a w (fun a' w' => S w' ∧ wpSched P ops Q S l a' w') Q
  | (false, i) :: l, a, w => ∃ o v, ops[i]? = some o ∧ YieldsIf P ops S o v a ∧ wpSched P ops Q S l (a.put o.dst v) w
section
variable {P : Program} {ops : Array Oper} {Q : Exit → Act → World → Prop} {S : World → Prop} {md : Region.Mode}
theorem wpAnyH_sched (hsel : Region.noSelect ops = true) (hQ : ∀ c a d v w, Q (.panic c) (a.put d v) w → Q (.panic c) a w) : ∀ (sch : List (Bool × Nat)) (listed : Array Bool) (a : Act) (w : World),
    okSched md ops sch listed = true → S w → wpSched P ops Q S sch a w → wpAnyH P md ops Q S sch.length listed a w
  | [], listed, a, w, hok, hS, h => wpAnyH_done (by simpa [okSched] using hok) h 0
  | (true, i) :: l, listed, a, w, hok, hS, h => by
    simp only [okSched, Bool.and_eq_true, beq_iff_eq] at hok
    obtain ⟨hr, hok⟩ := hok
    obtain ⟨o, ho, hw, h⟩ := h
    refine wpAnyH_all hr (by simp) (fun j hj => ?_)
    obtain rfl : j = i := by simpa using hj
    refine wpOp_mono (K := fun a' w' => S w' ∧ wpSched P ops Q S l a' w') (fun a' w' h' => ⟨h'.1, wpAnyH_sched hsel hQ l _ a' w' hok h'.1 h'.2⟩) ?_
    unfold wpOp
    simp only [ho, hw, if_true]
    exact .inl h
  | (false, i) :: l, listed, a, w, hok, hS, h => by
    simp only [okSched, Bool.and_eq_true] at hok
    obtain ⟨⟨hf, hc⟩, hok⟩ := hok
    obtain ⟨o, v, ho, hy, h⟩ := h
    exact wpAnyH_take ho hsel hf hc (fun c a w => hQ c a o.dst v w) hy hS (wpAnyH_sched hsel hQ l _ _ w hok hS h)
theorem wp_region_sched {id : Nat} {a : Act} {w : World} (S : World → Prop) (sch : List (Bool × Nat)) (hm : P.follows .mixedOrders = true) (hlen : ops.size = sch.length) (hsel : Region.noSelect ops = true)
    (hok : okSched .any ops sch (Array.replicate ops.size false) = true) (hQ : ∀ c a d v w, Q (.panic c) (a.put d v) w → Q (.panic c) a w) (hS : S w.drew)
    (h : ∀ Q' : Act → World → Prop, (∀ a' w', Q .normal a' w' → Q' a' w') → wpSched P ops (fun e a' w' => match e with | .normal => Q' a' w' | e => Q e a' w') S sch a w.drew) : (Code.region id ops true).wp P Q a w := by
  refine wp_region_held_drew (S := S) hm hS (fun _ => ?_)
  rw [hlen]
  rw [hlen] at hok
  refine wpAnyH_sched hsel hQ sch _ a _ hok hS ?_
  have h1 := h (fun a' w' => Q .normal a' w') (fun _ _ h => h)
  have e : (fun e a' w' => match e with | Exit.normal => Q .normal a' w' | e => Q e a' w') = Q := by
    funext e a' w'
    cases e <;> rfl
  rw [e] at h1
  exact h1
theorem wpSched_get {i : Nat} {l : List (Bool × Nat)} {a : Act} {w : World} {o : Oper} (ho : ops[i]? = some o) (hw : Region.wanted o (yielded ops a.tmps) = true)
    (h : ∀ K : Act → Prop, (∀ a', wpSched P ops Q S l a' w → K a') → ∃ v, (∀ w', S w' → (execOp a.eval o).run P w' = .ok (.value v) w') ∧ K (a.put o.dst v)) : wpSched P ops Q S ((false, i) :: l) a w := by
  obtain ⟨v, h1, h2⟩ := h (fun a' => wpSched P ops Q S l a' w) (fun _ h => h)
  exact ⟨o, v, ho, .inl ⟨hw, h1⟩, h2⟩
theorem wpSched_skip {i : Nat} {l : List (Bool × Nat)} {a : Act} {w : World} {o : Oper} (ho : ops[i]? = some o) (hw : Region.wanted o (yielded ops a.tmps) = false)
    (h : ∀ K : Act → Prop, (∀ a', wpSched P ops Q S l a' w → K a') → K (a.put o.dst undef)) : wpSched P ops Q S ((false, i) :: l) a w :=
  ⟨o, undef, ho, .inr ⟨hw, rfl⟩, h (fun a' => wpSched P ops Q S l a' w) (fun _ h => h)⟩
theorem wpSched_call {i : Nat} {l : List (Bool × Nat)} {a : Act} {w : World} {o : Oper} (ho : ops[i]? = some o) (hw : Region.wanted o (yielded ops a.tmps) = true)
    (h : ∀ K : Act → World → Prop, (∀ a' w', S w' → wpSched P ops Q S l a' w' → K a' w') → Oper.wp P o a w K Q) : wpSched P ops Q S ((true, i) :: l) a w :=
  ⟨o, ho, hw, h (fun a' w' => S w' ∧ wpSched P ops Q S l a' w') (fun _ _ hS h => ⟨hS, h⟩)⟩
theorem wpSched_done {a : Act} {w : World} (h : Q .normal a w) : wpSched P ops Q S [] a w := h
end
end Go.Proofs.YtpndccoikhejgaaDoor
namespace Go.Proofs.YtpndccoikhejgaaDoor
open Go
set_option linter.unusedVariables false

inductive Fk where
  | done : Fk
  | get : Nat → Fk → Fk
  | call : Nat → Fk → Fk
  | fork : Nat → Nat → Fk → Fk → Fk
  | fork3 : Nat → Nat → Nat → Fk → Fk → Fk → Fk
def lenFk : Fk → Nat
  | .done => 0
  | .get _ s => lenFk s + 1
  | .call _ s => lenFk s + 1
  | .fork _ _ s _ => lenFk s + 1
  | .fork3 _ _ _ s _ _ => lenFk s + 1
/-- Is the tree one that serves? -/
def okFk (md : Region.Mode) (ops : Array Oper) : Fk → Array Bool → Bool
  | .done, listed => (Region.ready md ops listed).isEmpty
  | .get i s, listed => (Region.free md ops listed i && (Region.ready md ops listed).contains i) && okFk md ops s (listed.setIfInBounds i true)
  | .call i s, listed => (Region.ready md ops listed == [i]) && okFk md ops s (listed.setIfInBounds i true)
  | .fork i j s t, listed => (Region.ready md ops listed == [i, j] && lenFk s == lenFk t) && (okFk md ops s (listed.setIfInBounds i true) && okFk md ops t (listed.setIfInBounds j true))
  | .fork3 i j k s t u, listed => (Region.ready md ops listed == [i, j, k] && lenFk s == lenFk t && lenFk s == lenFk u) && (okFk md ops s (listed.setIfInBounds i true) && okFk md ops t (listed.setIfInBounds j true) && okFk md ops u (listed.setIfInBounds k true))
/-- The walk by that tree. -/
def wpFk (P : Program) (ops : Array Oper) (Q : Exit → Act → World → Prop) (S : World → Prop) : Fk → Act → World → Prop
  | .done, a, w => Q .normal a w
  | .get i s, a, w => ∃ o v, ops[i]? = some o ∧ YieldsIf P ops S o v a ∧ wpFk P ops Q S s (a.put o.dst v) w
  | .call i s, a, w => ∃ o, ops[i]? = some o ∧ Region.wanted o (yielded ops a.tmps) = true ∧ Oper.wp P o a w (fun a' w' => S w' ∧ wpFk P ops Q S s a' w') Q
  | .fork i j s t, a, w => (∃ o, ops[i]? = some o ∧ Region.wanted o (yielded ops a.tmps) = true ∧ Oper.wp P o a w (fun a' w' => S w' ∧ wpFk P ops Q S s a' w') Q) ∧
      (∃ o, ops[j]? = some o ∧ Region.wanted o (yielded ops a.tmps) = true ∧ Oper.wp P o a w (fun a' w' => S w' ∧ wpFk P ops Q S t a' w') Q)
  | .fork3 i j k s t u, a, w => (∃ o, ops[i]? = some o ∧ Region.wanted o (yielded ops a.tmps) = true ∧ Oper.wp P o a w (fun a' w' => S w' ∧ wpFk P ops Q S s a' w') Q) ∧
      (∃ o, ops[j]? = some o ∧ Region.wanted o (yielded ops a.tmps) = true ∧ Oper.wp P o a w (fun a' w' => S w' ∧ wpFk P ops Q S t a' w') Q) ∧
      (∃ o, ops[k]? = some o ∧ Region.wanted o (yielded ops a.tmps) = true ∧ Oper.wp P o a w (fun a' w' => S w' ∧ wpFk P ops Q S u a' w') Q)
section
variable {P : Program} {ops : Array Oper} {Q : Exit → Act → World → Prop} {S : World → Prop} {md : Region.Mode}
theorem wpAnyH_fk (hsel : Region.noSelect ops = true) (hQ : ∀ c a d v w, Q (.panic c) (a.put d v) w → Q (.panic c) a w) : ∀ (sch : Fk) (listed : Array Bool) (a : Act) (w : World),
    okFk md ops sch listed = true → S w → wpFk P ops Q S sch a w → wpAnyH P md ops Q S (lenFk sch) listed a w
  | .done, listed, a, w, hok, hS, h => wpAnyH_done (by simpa [okFk] using hok) h 0
  | .call i s, listed, a, w, hok, hS, h => by
    simp only [okFk, Bool.and_eq_true, beq_iff_eq] at hok
    obtain ⟨hr, hok⟩ := hok
    obtain ⟨o, ho, hw, h⟩ := h
    refine wpAnyH_all hr (by simp) (fun j hj => ?_)
    obtain rfl : j = i := by simpa using hj
    refine wpOp_mono (K := fun a' w' => S w' ∧ wpFk P ops Q S s a' w') (fun a' w' h' => ⟨h'.1, wpAnyH_fk hsel hQ s _ a' w' hok h'.1 h'.2⟩) ?_
    unfold wpOp
    simp only [ho, hw, if_true]
    exact .inl h
  | .get i s, listed, a, w, hok, hS, h => by
    simp only [okFk, Bool.and_eq_true] at hok
    obtain ⟨⟨hf, hc⟩, hok⟩ := hok
    obtain ⟨o, v, ho, hy, h⟩ := h
    exact wpAnyH_take ho hsel hf hc (fun c a w => hQ c a o.dst v w) hy hS (wpAnyH_fk hsel hQ s _ _ w hok hS h)
  | .fork i j s t, listed, a, w, hok, hS, h => by
    simp only [okFk, Bool.and_eq_true, beq_iff_eq] at hok
    obtain ⟨⟨hr, hl⟩, hok1, hok2⟩ := hok
    obtain ⟨⟨o1, ho1, hw1, h1⟩, ⟨o2, ho2, hw2, h2⟩⟩ := h
    refine wpAnyH_all hr (by simp) (fun k hk => ?_)
    rcases List.mem_cons.1 hk with rfl | hk
    · refine wpOp_mono (K := fun a' w' => S w' ∧ wpFk P ops Q S s a' w') (fun a' w' h' => ⟨h'.1, wpAnyH_fk hsel hQ s _ a' w' hok1 h'.1 h'.2⟩) ?_
      unfold wpOp
      simp only [ho1, hw1, if_true]
      exact .inl h1
    · obtain rfl : k = j := by simpa using hk
      refine wpOp_mono (K := fun a' w' => S w' ∧ wpFk P ops Q S t a' w') (fun a' w' h' => ⟨h'.1, by rw [hl]; exact wpAnyH_fk hsel hQ t _ a' w' hok2 h'.1 h'.2⟩) ?_
      unfold wpOp
      simp only [ho2, hw2, if_true]
      exact .inl h2
  | .fork3 i j k s t u, listed, a, w, hok, hS, h => by
    simp only [okFk, Bool.and_eq_true, beq_iff_eq] at hok
    obtain ⟨⟨⟨hr, hl⟩, hl2⟩, ⟨hok1, hok2⟩, hok3⟩ := hok
    obtain ⟨⟨o1, ho1, hw1, h1⟩, ⟨o2, ho2, hw2, h2⟩, ⟨o3, ho3, hw3, h3⟩⟩ := h
    refine wpAnyH_all hr (by simp) (fun m hm => ?_)
    rcases List.mem_cons.1 hm with rfl | hm
    · refine wpOp_mono (K := fun a' w' => S w' ∧ wpFk P ops Q S s a' w') (fun a' w' h' => ⟨h'.1, wpAnyH_fk hsel hQ s _ a' w' hok1 h'.1 h'.2⟩) ?_
      unfold wpOp
      simp only [ho1, hw1, if_true]
      exact .inl h1
    · rcases List.mem_cons.1 hm with rfl | hm
      · refine wpOp_mono (K := fun a' w' => S w' ∧ wpFk P ops Q S t a' w') (fun a' w' h' => ⟨h'.1, by show wpAnyH P md ops Q S (lenFk s) _ a' w'; rw [hl]; exact wpAnyH_fk hsel hQ t _ a' w' hok2 h'.1 h'.2⟩) ?_
        unfold wpOp
        simp only [ho2, hw2, if_true]
        exact .inl h2
      · obtain rfl : m = k := by simpa using hm
        refine wpOp_mono (K := fun a' w' => S w' ∧ wpFk P ops Q S u a' w') (fun a' w' h' => ⟨h'.1, by show wpAnyH P md ops Q S (lenFk s) _ a' w'; rw [hl2]; exact wpAnyH_fk hsel hQ u _ a' w' hok3 h'.1 h'.2⟩) ?_
        unfold wpOp
        simp only [ho3, hw3, if_true]
        exact .inl h3
theorem wp_region_fk {id : Nat} {a : Act} {w : World} (S : World → Prop) (sch : Fk) (hm : P.follows .mixedOrders = true) (hlen : ops.size = lenFk sch) (hsel : Region.noSelect ops = true)
    (hok : okFk .any ops sch (Array.replicate ops.size false) = true) (hQ : ∀ c a d v w, Q (.panic c) (a.put d v) w → Q (.panic c) a w) (hS : S w.drew)
    (h : ∀ Q' : Act → World → Prop, (∀ a' w', Q .normal a' w' → Q' a' w') → wpFk P ops (fun e a' w' => match e with | .normal => Q' a' w' | e => Q e a' w') S sch a w.drew) : (Code.region id ops true).wp P Q a w := by
  refine wp_region_held_drew (S := S) hm hS (fun _ => ?_)
  rw [hlen]
  rw [hlen] at hok
  refine wpAnyH_fk hsel hQ sch _ a _ hok hS ?_
  have h1 := h (fun a' w' => Q .normal a' w') (fun _ _ h => h)
  have e : (fun e a' w' => match e with | Exit.normal => Q .normal a' w' | e => Q e a' w') = Q := by
    funext e a' w'
    cases e <;> rfl
  rw [e] at h1
  exact h1
theorem wpFk_get {i : Nat} {s : Fk} {a : Act} {w : World} {o : Oper} (ho : ops[i]? = some o) (hw : Region.wanted o (yielded ops a.tmps) = true)
    (h : ∀ K : Act → Prop, (∀ a', wpFk P ops Q S s a' w → K a') → ∃ v, (∀ w', S w' → (execOp a.eval o).run P w' = .ok (.value v) w') ∧ K (a.put o.dst v)) : wpFk P ops Q S (.get i s) a w := by
  obtain ⟨v, h1, h2⟩ := h (fun a' => wpFk P ops Q S s a' w) (fun _ h => h)
  exact ⟨o, v, ho, .inl ⟨hw, h1⟩, h2⟩
theorem wpFk_skip {i : Nat} {s : Fk} {a : Act} {w : World} {o : Oper} (ho : ops[i]? = some o) (hw : Region.wanted o (yielded ops a.tmps) = false)
    (h : ∀ K : Act → Prop, (∀ a', wpFk P ops Q S s a' w → K a') → K (a.put o.dst undef)) : wpFk P ops Q S (.get i s) a w :=
  ⟨o, undef, ho, .inr ⟨hw, rfl⟩, h (fun a' => wpFk P ops Q S s a' w) (fun _ h => h)⟩
theorem wpFk_call {i : Nat} {s : Fk} {a : Act} {w : World} {o : Oper} (ho : ops[i]? = some o) (hw : Region.wanted o (yielded ops a.tmps) = true)
    (h : ∀ K : Act → World → Prop, (∀ a' w', S w' → wpFk P ops Q S s a' w' → K a' w') → Oper.wp P o a w K Q) : wpFk P ops Q S (.call i s) a w :=
  ⟨o, ho, hw, h (fun a' w' => S w' ∧ wpFk P ops Q S s a' w') (fun _ _ hS h => ⟨hS, h⟩)⟩
theorem wpFk_fork {i j : Nat} {s t : Fk} {a : Act} {w : World} (h1 : wpFk P ops Q S (.call i s) a w) (h2 : wpFk P ops Q S (.call j t) a w) : wpFk P ops Q S (.fork i j s t) a w := ⟨h1, h2⟩
theorem wpFk_fork3 {i j k : Nat} {s t u : Fk} {a : Act} {w : World} (h1 : wpFk P ops Q S (.call i s) a w) (h2 : wpFk P ops Q S (.call j t) a w) (h3 : wpFk P ops Q S (.call k u) a w) : wpFk P ops Q S (.fork3 i j k s t u) a w := ⟨h1, h2, h3⟩
theorem wpFk_done {a : Act} {w : World} (h : Q .normal a w) : wpFk P ops Q S .done a w := h
end
end Go.Proofs.YtpndccoikhejgaaDoor
namespace Go.Proofs.YtpndccoikhejgaaDoor
open Go.RowKit Go.Great
set_option linter.unusedVariables false
set_option maxRecDepth 100000

theorem nodeL_is (a b : List Int) : (nodeL a b).length = 32 ∧ bytes (nodeL a b) := ⟨sumL_length _, sumL_bytes _⟩
theorem hashes_snoc {hs : List (List Int)} {x : List Int} (h : hashes hs) (hx : x.length = 32 ∧ bytes x) : hashes (hs ++ [x]) := by
  intro l hl
  rcases List.mem_append.1 hl with hl | hl
  · exact h l hl
  · rw [List.mem_singleton.1 hl]; exact hx
theorem hashes_app {a b : List (List Int)} (ha : hashes a) (hb : hashes b) : hashes (a ++ b) := by
  intro l hl
  rcases List.mem_append.1 hl with hl | hl
  · exact ha l hl
  · exact hb l hl
theorem OwnL.start (w : World) : OwnL w w (.slice none 0 0) 0 [] := ⟨⟨rfl, .inl ⟨rfl, rfl⟩⟩, Below.refl _ _⟩
theorem OwnL.lead2 {w wr : World} {v : Value} {ls : List (List Int)} (h : OwnL w wr v ls.length ls) (hs : hashes ls) : ∃ A c, v = .slice A ls.length c ∧ ls.length ≤ c ∧ c ≤ maxLen ∧ HL wr wr.heap.size A ls := by
  obtain ⟨h1, h2⟩ := h
  rcases h1.2 with ⟨rfl, h0⟩ | ⟨g, cap, cur, rfl, _, hg, h3⟩
  · have : ls = [] := List.eq_nil_of_length_eq_zero h0
    subst this
    exact ⟨none, 0, rfl, Nat.le_refl _, by decide, HL.nil _ _ _⟩
  · exact ⟨_, _, rfl, h3.1, h3.2.1, fun i hi => ⟨_, rfl, (Array.getElem?_eq_some_iff.1 hg).1, fun j hj => h1.cells (g := g) rfl _ _ (cellsL_get hs i j hi hj)⟩⟩
theorem HL.rest {w : World} {B : Nat} {ad : Addr} {ls : List (List Int)} (h : HL w B (.some ad) ls) (c n : Nat) (hc : ls.length ≤ c) : HL w B (if c = n then Option.some ad else Option.some (ad.add (n * 32))) (ls.drop n) := by
  split
  · rename_i e
    rw [List.drop_of_length_le (by omega)]; exact HL.nil _ _ _
  · exact h.drop n
theorem cellsL_length {ls : List (List Int)} (h : hashes ls) : (cellsL ls).length = ls.length * 32 := by
  unfold cellsL; rw [List.length_map, flat_length h, Nat.mul_comm]
theorem cellsL_one (ls : List (List Int)) : ∀ u ∈ cellsL ls, u.oneCell' = true := by
  intro u hu
  obtain ⟨x, _, rfl⟩ := List.mem_map.1 hu
  rfl
/-- What lies at an address, as cells. -/
theorem HL.cells {w : World} {B : Nat} {ad : Addr} {ls : List (List Int)} (h : HL w B (.some ad) ls) (hs : hashes ls) (k : Nat) (u : Value) (hu : (cellsL ls)[k]? = Option.some u) : w.cell? (ad.add k) = Option.some u := by
  have hk : k < ls.length * 32 := by rw [← cellsL_length hs]; exact (List.getElem?_eq_some_iff.1 hu).1
  obtain ⟨ad', e, _, hc⟩ := h (k / 32) (by omega)
  cases e
  have e1 := hc (k % 32) (by omega)
  have e2 := cellsL_get hs (k / 32) (k % 32) (by omega) (by omega)
  rw [show k / 32 * 32 + k % 32 = k by omega] at e1 e2
  rw [e1, ← e2, hu]
theorem cellsL_app (a b : List (List Int)) : cellsL (a ++ b) = cellsL a ++ cellsL b := by simp [cellsL]
theorem cellsL_take {ls : List (List Int)} (h : hashes ls) (k : Nat) (hk : k ≤ ls.length) : (cellsL ls).take (k * 32) = cellsL (ls.take k) := by
  have hl := cellsL_length (hashes_take h k)
  rw [List.length_take, Nat.min_eq_left hk] at hl
  conv => lhs; rw [← List.take_append_drop k ls]
  rw [cellsL_app, ← hl]
  exact List.take_left
theorem own_take {w : World} {B : Nat} {A : Option Addr} {c : Nat} {hs : List (List Int)} (h : w.ownsRow B 23 32 (.slice A hs.length c) hs.length (cellsL hs)) (hh : hashes hs) (k : Nat) (hk : k ≤ hs.length) :
    w.ownsRow B 23 32 (.slice A k c) k (cellsL (hs.take k)) := by
  obtain ⟨h1, h2⟩ := h
  refine ⟨by rw [cellsL_length (hashes_take hh k), List.length_take, Nat.min_eq_left hk], ?_⟩
  rcases h2 with ⟨hv, h0⟩ | ⟨g, cap, cur, hv, hB, hg, h3, h4, h5, h6⟩
  · obtain ⟨e1, e2, e3⟩ : A = none ∧ hs.length = 0 ∧ c = 0 := by simpa using hv
    subst e1 e3
    exact .inl ⟨by rw [show k = 0 by omega], by omega⟩
  · cases hv
    refine .inr ⟨g, c, cur, rfl, hB, hg, by omega, h4, h5, ?_⟩
    rw [← cellsL_take hh k hk, ← h6, List.take_take, Nat.min_eq_left (Nat.mul_le_mul_right _ hk)]
theorem own_some {w : World} {B : Nat} {A : Option Addr} {c n : Nat} {xs : List Value} {e : TypeId} (h : w.ownsRow B e 32 (.slice A n c) n xs) : n ≤ c ∧ c ≤ 9223372036854775807 ∧ (A = none ∧ n = 0 ∨ ∃ g, A = some ⟨g, 0, none⟩ ∧ B ≤ g ∧ g < w.heap.size) := by
  rcases h.2 with ⟨hv, h0⟩ | ⟨g, cap, cur, hv, hB, hg, h3, h4, _⟩
  · cases hv; exact ⟨by omega, by omega, .inl ⟨rfl, h0⟩⟩
  · cases hv
    unfold maxLen at h4
    exact ⟨h3, by omega, .inr ⟨g, rfl, hB, (Array.getElem?_eq_some_iff.1 hg).1⟩⟩
theorem own_HL {w : World} {B : Nat} {A : Option Addr} {c : Nat} {hs : List (List Int)} (h : w.ownsRow B 23 32 (.slice A hs.length c) hs.length (cellsL hs)) (hh : hashes hs) : HL w w.heap.size A hs := by
  rcases h.2 with ⟨hv, h0⟩ | ⟨g, cap, cur, hv, hB, hg, _⟩
  · rw [List.eq_nil_of_length_eq_zero h0]; exact HL.nil _ _ _
  · cases hv
    exact fun i hi => ⟨_, rfl, (Array.getElem?_eq_some_iff.1 hg).1, fun j hj => h.cells (g := g) rfl _ _ (cellsL_get hh i j hi hj)⟩
theorem grown_of_below {w w' : World} (h : Below w.heap.size w w') (r : Option Nat) : w.grownBy w' r := ⟨h.os, h.tape, h.output, h.size, fun k hk _ => h.block k hk⟩
theorem grown_trans {w w1 w2 : World} {r : Option Nat} (h : w.grownBy w1 r) (h2 : w1.grownBy w2 r) : w.grownBy w2 r :=
  ⟨h2.os.trans h.os, h2.tape.trans h.tape, h2.output.trans h.output, Nat.le_trans h.size h2.size, fun k hk hne => (h2.block k (Nat.lt_of_lt_of_le hk h.size) hne).trans (h.block k hk hne)⟩
theorem then_gen {K : Act → World → Prop} {Q : Exit → Act → World → Prop} {a : Act} {w0 : World} (R : World → Prop) (hR : R w0) (h : ∀ wx, R wx → Exit.then K Q Exit.normal a wx) : Exit.then K Q Exit.normal a w0 := h _ hR
theorem wp_buildOne {o : Oper} {a : Act} {w : World} {K : Act → World → Prop} {Q : Exit → Act → World → Prop} (y : Operand) (ho : o.op = .buildSlice 27 1 #[(0, y)])
    (C : Array Value) (hy : a.eval y = .agg C) (hC : C.size = 32) (h : K (a.put o.dst (.slice (some ⟨w.heap.size, 0, none⟩) 1 1)) (w.alloc (.cells C 23))) : o.wp Tryd.prog a w K Q := by
  obtain ⟨i0, hi, hz0, hz1, hz2⟩ := info_parts infoHash
  refine wp_buildSlice 27 23 1 _ ho C i0 _ Tryd.underlying27 hi hz0 (by rw [hz1]; decide) (by rw [hz1]; decide) ?_ h
  have e : ((#[(0, y)] : Array (Nat × Operand)).map fun (i, x) => (i, a.eval x)).toList = [(0, .agg C)] := by simp [hy]
  rw [e, hz1]
  exact fill_one C _ hC (by simp)
theorem Row.grown {w w' : World} {g : Nat} {t : TypeId} {cs : Array Value} {r : Option Nat} (h : Row w g t cs) (hg : w.grownBy w' r) (hne : some g ≠ r) : Row w' g t cs := (hg.block g h.lt hne).trans h
theorem cellsL_snoc' {R ls : List (List Int)} {y : List Int} (h : R = ls ++ [y]) : cellsL ls ++ y.map (Value.int .u8) = cellsL R := by rw [h, cellsL_snoc]
theorem ownBlock_any (A : Option Addr) (n k c d : Nat) : (Value.slice A n c).ownBlock = (Value.slice A k d).ownBlock := by cases A <;> rfl
theorem own_far {w : World} {B e size n g : Nat} {t : TypeId} {v : Value} {xs : List Value} {cs : Array Value} (h : w.ownsRow B e size v n xs) (hr : Row w g t cs) (hne : e ≠ t) (W : World) (hk : ∀ b, b ≠ g → W.heap[b]? = w.heap[b]?) : W.ownsRow B e size v n xs := by
  refine ⟨h.1, ?_⟩
  rcases h.2 with h2 | ⟨b, cap, cur, hv, hB, hb, h3⟩
  · exact .inl h2
  · refine .inr ⟨b, cap, cur, hv, hB, (hk b ?_).trans hb, h3⟩
    rintro rfl
    unfold Row at hr
    rw [hr] at hb
    simp at hb
    exact hne hb.2.symm
theorem own_form {w : World} {B n : Nat} {v : Value} {xs : List Value} {e : TypeId} (h : w.ownsRow B e 32 v n xs) : ∃ A c, v = .slice A n c := by
  rcases h.2 with ⟨rfl, rfl⟩ | ⟨g, cap, cur, rfl, _⟩
  · exact ⟨none, 0, rfl⟩
  · exact ⟨_, _, rfl⟩
theorem own_base {w : World} {B B' e size n : Nat} {v : Value} {xs : List Value} (h : w.ownsRow B e size v n xs) (hB : B' ≤ B) : w.ownsRow B' e size v n xs := by
  refine ⟨h.1, ?_⟩
  rcases h.2 with h2 | ⟨b, cap, cur, hv, hb, h3⟩
  · exact .inl h2
  · exact .inr ⟨b, cap, cur, hv, by omega, h3⟩
theorem own_at {w W : World} {B e size n : Nat} {v : Value} {xs : List Value} (h : w.ownsRow B e size v n xs) (hk : ∀ b, B ≤ b → b < w.heap.size → W.heap[b]? = w.heap[b]?) : W.ownsRow B e size v n xs := by
  refine ⟨h.1, ?_⟩
  rcases h.2 with h2 | ⟨b, cap, cur, hv, hb, hg, h3⟩
  · exact .inl h2
  · exact .inr ⟨b, cap, cur, hv, hb, (hk b hb (Array.getElem?_eq_some_iff.1 hg).1).trans hg, h3⟩
theorem own_ne {w : World} {B1 B2 e1 e2 s1 s2 n1 n2 : Nat} {v1 v2 : Value} {x1 x2 : List Value} (h1 : w.ownsRow B1 e1 s1 v1 n1 x1) (h2 : w.ownsRow B2 e2 s2 v2 n2 x2) (hne : e1 ≠ e2) : v1.ownBlock = none ∨ v1.ownBlock ≠ v2.ownBlock := by
  rcases h1.2 with ⟨rfl, _⟩ | ⟨b, _, _, rfl, _, hb, _⟩
  · exact .inl rfl
  · refine .inr ?_
    rcases h2.2 with ⟨rfl, _⟩ | ⟨b', _, _, rfl, _, hb', _⟩
    · intro h; cases h
    · intro h
      have e : b = b' := by simpa [Value.ownBlock] using h
      subst e
      rw [hb] at hb'
      simp at hb'
      exact hne hb'.2
theorem HL.from {w wr : World} {A : Option Addr} {ls : List (List Int)} (h : HL w w.heap.size A ls) (hb : Below w.heap.size w wr) : HL wr wr.heap.size A ls := (h.next hb (Nat.le_refl _)).more hb.size
theorem results_row2 {P : Program} {fn : Func} {p u : Tmp} {ty : TypeId} (h : fn.results = #[.cell p ty, .tmp u]) (tmps : Array Value) (w : World) (g : Nat) (t : TypeId) (cs : Array Value) (fr : Nat × Nat) (d : TypeDesc)
    (hp : tmps.getD p undef = .pointer (some ⟨g, 0, none⟩)) (hg : w.heap[g]? = some (.cells cs t fr))
    (hu : P.underlying ty = some d) (hd : (match d with | .struct _ | .array _ _ => true | _ => false) = true) (hi : (P.info? ty).map (·.size) = some cs.size) (v : Value) (hv : tmps.getD u undef = v) :
    (results fn tmps).run P w = .ok (.tuple #[.agg cs, v]) w := by
  rw [results_cell_tmp h, hp, hv]
  simp [asAddr, run_loadVar_row w g t ty cs fr d hg hu hd hi, Result.andThen]
/-- A hash into a block that is made for it. -/
theorem made_write (w1 : World) (L : Array Value) (hL : L.size = 32) (oL : L.all (·.oneCell') = true) : ∃ w2, (writeAt (.pointer (some ⟨w1.heap.size, 0, none⟩)) (.agg L)).run Tryd.prog (w1.alloc (.cells #[.int .u8 0, .int .u8 0, .int .u8 0, .int .u8 0, .int .u8 0, .int .u8 0, .int .u8 0, .int .u8 0, .int .u8 0, .int .u8 0, .int .u8 0, .int .u8 0, .int .u8 0, .int .u8 0, .int .u8 0, .int .u8 0, .int .u8 0, .int .u8 0, .int .u8 0, .int .u8 0, .int .u8 0, .int .u8 0, .int .u8 0, .int .u8 0, .int .u8 0, .int .u8 0, .int .u8 0, .int .u8 0, .int .u8 0, .int .u8 0, .int .u8 0, .int .u8 0] 23)) = .ok () w2 ∧ Row w2 w1.heap.size 23 L ∧ Below w1.heap.size w1 w2 ∧ w2.heap.size = w1.heap.size + 1 := by
  refine ⟨(w1.alloc (.cells (nums .u8 (List.replicate 32 0)) 23)).setRow w1.heap.size L, ?_, (Row.made _ _ _).whole _, below_setRow ((Below.refl _ _).alloc (Nat.le_refl _) _) (Nat.le_refl _), by simp⟩
  exact (Row.made w1 23 (nums .u8 (List.replicate 32 0))).write (by rw [nums_size]; simp) hL oL
/-- The same, where the order was drawn. -/
theorem made_writeD (w1 : World) (L : Array Value) (hL : L.size = 32) (oL : L.all (·.oneCell') = true) : ∃ w2, (writeAt (.pointer (some ⟨w1.heap.size, 0, none⟩)) (.agg L)).run Tryd.prog ((w1.alloc (.cells #[.int .u8 0, .int .u8 0, .int .u8 0, .int .u8 0, .int .u8 0, .int .u8 0, .int .u8 0, .int .u8 0, .int .u8 0, .int .u8 0, .int .u8 0, .int .u8 0, .int .u8 0, .int .u8 0, .int .u8 0, .int .u8 0, .int .u8 0, .int .u8 0, .int .u8 0, .int .u8 0, .int .u8 0, .int .u8 0, .int .u8 0, .int .u8 0, .int .u8 0, .int .u8 0, .int .u8 0, .int .u8 0, .int .u8 0, .int .u8 0, .int .u8 0, .int .u8 0] 23)).drew) = .ok () w2 ∧ Row w2 w1.heap.size 23 L ∧ Below w1.heap.size w1 w2 ∧ w2.heap.size = w1.heap.size + 1 := by
  obtain ⟨w2, h1, h2, h3, h4⟩ := made_write w1.drew L hL oL
  exact ⟨w2, h1, h2, (Below.refl w1.heap.size w1).drew.trans h3, h4⟩
/-- A list of hashes in a world's memory. -/
def HW (w : World) (A : Option Addr) (ls : List (List Int)) : Prop := HL w w.heap.size A ls
theorem HW.next {w w1 : World} {A : Option Addr} {ls : List (List Int)} (h : HW w A ls) (hb : Below w.heap.size w w1) : HW w1 A ls := HL.from h hb
/-- A slice literal of hashes. -/
theorem wp_buildL {o : Oper} {a : Act} {w : World} {K : Act → World → Prop} {Q : Exit → Act → World → Prop} (n : Nat) (parts : Array (Nat × Operand)) (ho : o.op = .buildSlice 27 n parts)
    (ls : List (List Int)) (hs : hashes ls) (hn : n = ls.length) (h0 : 0 < n) (hsm : n ≤ 1000)
    (hp : (parts.toList.map fun (i, x) => (i, a.eval x)) = ((ls.map fun l => Value.agg (nums .u8 l)).zipIdx 0).map fun x => (x.2, x.1))
    (h : ∀ W, HW W (some ⟨w.heap.size, 0, none⟩) ls → Below w.heap.size w W → K (a.put o.dst (.slice (some ⟨w.heap.size, 0, none⟩) n n)) W) : o.wp Tryd.prog a w K Q := by
  obtain ⟨i0, hi, hz0, hz1, hz2⟩ := info_parts infoHash
  subst hn
  have hcs : ((Array.range (ls.length * 32)).map ((Value.agg (nums .u8 (List.replicate 32 0))).cells[· % (Value.agg (nums .u8 (List.replicate 32 0))).cells.size]!)).size = ls.length * 32 := by simp
  obtain ⟨r, hr, hsz, hk⟩ := Great.fill_dense (s := 32) (by omega) (ls.map fun l => Value.agg (nums .u8 l)) 0 ((Array.range (ls.length * 32)).map ((Value.agg (nums .u8 (List.replicate 32 0))).cells[· % (Value.agg (nums .u8 (List.replicate 32 0))).cells.size]!))
    (fun v hv => by obtain ⟨l, hl, rfl⟩ := List.mem_map.1 hv; show (nums .u8 l).size = 32; rw [nums_size]; exact (hs l hl).1) (by rw [hcs]; simp)
  refine wp_buildSlice 27 23 ls.length parts ho r i0 _ Tryd.underlying27 hi hz0 (by rw [hz1]; omega) (by rw [hz1]; omega) ?_ (h _ ?_ ((Below.refl _ _).alloc (Nat.le_refl _) _))
  · rw [Array.toList_map, hp, hz1]; exact hr
  · intro i hi2
    refine ⟨_, rfl, by simp, fun j hj => ?_⟩
    rw [add_flat, cell_of_row _ w.heap.size _ r 23 (0, 0) (heap_alloc_new w _), hk, if_pos ⟨by omega, by rw [List.length_map]; omega⟩]
    have e1 : (i * 32 + j) / 32 - 0 = i := by omega
    have e2 : (i * 32 + j) % 32 = j := by omega
    rw [e1, e2, List.getElem?_map, List.getElem?_eq_getElem hi2]
    show (nums .u8 ls[i])[j]? = _
    rw [nums_get .u8 ls[i] j (by rw [(hs _ (List.getElem_mem hi2)).1]; exact hj), List.getD_eq_getElem?_getD (l := ls), List.getElem?_eq_getElem hi2]
    rfl
theorem HL.row {W : World} {g : Nat} {y : List Int} (h : Row W g 23 (nums .u8 y)) (hy : y.length = 32) : HL W W.heap.size (.some ⟨g, 0, none⟩) [y] := by
  intro i hi
  have e : i = 0 := by simp at hi; omega
  subst e
  refine ⟨_, rfl, h.lt, fun j hj => ?_⟩
  rw [add_flat, show 0 * 32 + j = j by omega, h.cell, nums_get .u8 y j (by omega)]
  rfl
/-- Hashes are appended to one's own. -/
theorem wp_appendH {o : Oper} {a : Act} {w : World} {K : Act → World → Prop} {Q : Exit → Act → World → Prop} (s x : Operand) (ho : o.op = .call { callee := .builtin .append, args := #[s, x], argTypes := #[27, 27] })
    (B : Nat) (v : Value) (n : Nat) (hs us : List (List Int)) (hsv : a.eval s = v) (hown : w.ownsRow B 23 32 v n (cellsL hs)) (ad : Addr) (m c : Nat) (hx : a.eval x = .slice (some ad) m c) (hm : m = us.length) (hu : hashes us) (hU : HL w w.heap.size (some ad) us) (hsm : n + m ≤ 8192) (hB : B ≤ w.heap.size)
    (h : ∀ v' w', w'.ownsRow B 23 32 v' (n + m) (cellsL (hs ++ us)) → w.grownBy w' v.ownBlock → K (a.put o.dst v') w') : o.wp Tryd.prog a w K Q := by
  obtain ⟨i0, hi, hz0, hz1, hz2⟩ := info_parts infoHash
  subst hm
  refine wp_append_own _ s x 27 ho B 23 i0 _ 32 32 Tryd.underlying27 hi hz0 hz1 hz2 (by simp [Value.cells, nums]) (by decide) v n (cellsL hs) hsv hown ad us.length c (cellsL us) hx (cellsL_length hu) (fun j u hj => hU.cells hu j u hj) (cellsL_one us) (by unfold maxLen; omega) (by omega) hB (fun v' w' h1 h2 _ => h v' w' ?_ h2)
  rw [cellsL_app]; exact h1
theorem wpList_appendH {ops : Array Oper} {rest : List Oper} {o : Oper} {a : Act} {w : World} {Q : Exit → Act → World → Prop} (hgd : o.guard = none) (s x : Operand) (ho : o.op = .call { callee := .builtin .append, args := #[s, x], argTypes := #[27, 27] })
    (B : Nat) (v : Value) (n : Nat) (hs us : List (List Int)) (hsv : a.eval s = v) (hown : w.ownsRow B 23 32 v n (cellsL hs)) (ad : Addr) (m c : Nat) (hx : a.eval x = .slice (some ad) m c) (hm : m = us.length) (hu : hashes us) (hU : HL w w.heap.size (some ad) us) (hsm : n + m ≤ 8192) (hB : B ≤ w.heap.size)
    (h : ∀ v' w', w'.ownsRow B 23 32 v' (n + m) (cellsL (hs ++ us)) → w.grownBy w' v.ownBlock → wpList Tryd.prog ops Q rest (a.put o.dst v') w') : wpList Tryd.prog ops Q (o :: rest) a w :=
  wpList_plain hgd fun _ hK => wp_appendH s x ho B v n hs us hsv hown ad m c hx hm hu hU hsm hB fun v' w' h1 h2 => hK _ _ (h v' w' h1 h2)
/-- Hashes and an error are returned. -/
def GivesL (w : World) (r : List (List Int) × Int) (e : Ending) (w' : World) : Prop :=
  ∃ A c, e = .returned (.tuple #[.slice A r.1.length c, .int .i64 r.2]) ∧ r.1.length ≤ c ∧ c ≤ maxLen ∧ HL w' w'.heap.size A r.1 ∧ Below w.heap.size w w'
end Go.Proofs.YtpndccoikhejgaaDoor
/-
  Plain facts on numbers as bytes (layer 3): a number's bytes; what number stands ahead of bytes, and how many bytes it takes; each gives the other.
-/
namespace Go.Proofs.YtpndccoikhejgaaDoor.Codec

/-- The bytes of a number behind which there are more. -/
def upF : Nat → Nat → List Int
  | 0, _ => []
  | f + 1, n => if n = 0 then [] else upF f (n / 128) ++ [((n % 128 + 128 : Nat) : Int)]
def upN (n : Nat) : List Int := upF 10 n
/-- A number's bytes. -/
def numL (n : Nat) : List Int := upN (n / 128) ++ [((n % 128 : Nat) : Int)]

theorem upF_more (f n : Nat) (h : n < 128 ^ f) : upF (f + 1) n = upF f n := by
  induction f generalizing n with
  | zero =>
    have : n = 0 := by simpa using h
    simp [upF, this]
  | succ f ih =>
    rw [upF]
    conv => rhs; rw [upF]
    split
    · rfl
    · rw [ih (n / 128) (by rw [Nat.pow_succ] at h; omega)]
theorem upN_zero : upN 0 = [] := by simp [upN, upF]
theorem upN_pos (n : Nat) (h : 0 < n) (h2 : n < 2 ^ 70) : upN n = upN (n / 128) ++ [((n % 128 + 128 : Nat) : Int)] := by
  have e : upF 10 n = upF 9 (n / 128) ++ [((n % 128 + 128 : Nat) : Int)] := by
    rw [upF, if_neg (by omega)]
  unfold upN
  rw [e, upF_more 9 (n / 128) (by omega)]
theorem upN_step (n c : Nat) (hc : 128 ≤ c) (hc2 : c < 256) (hn : n < 2 ^ 63) (h0 : 0 < n * 128 + (c - 128)) : upN (n * 128 + (c - 128)) = upN n ++ [(c : Int)] := by
  rw [upN_pos _ h0 (by omega)]
  rw [show (n * 128 + (c - 128)) / 128 = n by omega, show (n * 128 + (c - 128)) % 128 + 128 = c by omega]
theorem upF_length (f k n : Nat) (h : n < 128 ^ k) : (upF f n).length ≤ k := by
  induction f generalizing n k with
  | zero => simp [upF]
  | succ f ih =>
    rw [upF]
    split
    · simp
    · match k, h with
      | 0, h => simp at h; omega
      | k + 1, h =>
        have := ih k (n / 128) (by rw [Nat.pow_succ] at h; omega)
        simp; omega
theorem upN_length (k n : Nat) (h : n < 128 ^ k) : (upN n).length ≤ k := upF_length 10 k n h
theorem numL_length (n : Nat) (h : n < 18446744073709551616) : (numL n).length ≤ 10 := by
  have := upN_length 9 (n / 128) (by omega)
  simp [numL]; omega
theorem numL_pos (n : Nat) : 1 ≤ (numL n).length := by simp [numL]
theorem numL_small (n : Nat) (h : n < 128) : numL n = [(n : Int)] := by
  have : n / 128 = 0 := by omega
  simp [numL, this, upN_zero, Nat.mod_eq_of_lt h]
theorem upF_bytes (f n : Nat) : ∀ x ∈ upF f n, 128 ≤ x ∧ x < 256 := by
  induction f generalizing n with
  | zero => simp [upF]
  | succ f ih =>
    rw [upF]
    split
    · simp
    · intro x hx
      rcases List.mem_append.1 hx with h | h
      · exact ih _ x h
      · have : x = ((n % 128 + 128 : Nat) : Int) := by simpa using h
        omega
theorem upN_bytes (n : Nat) : ∀ x ∈ upN n, 128 ≤ x ∧ x < 256 := upF_bytes 10 n
theorem numL_bytes (n : Nat) : ∀ x ∈ numL n, 0 ≤ x ∧ x < 256 := by
  intro x hx
  rcases List.mem_append.1 hx with h | h
  · have := upN_bytes _ x h; omega
  · have : x = ((n % 128 : Nat) : Int) := by simpa using h
    omega

/-- What number stands ahead, behind i bytes that came to v, and up to which byte. -/
def rdP (v i : Nat) : List Int → Option (Nat × Nat)
  | [] => none
  | c :: t => if v = 0 ∧ c = 128 ∨ 144115188075855872 ≤ v then none else if c < 128 then some (v * 128 + c.toNat, i + 1) else rdP (v * 128 + (c.toNat - 128)) (i + 1) t
theorem rdP_nil (v i : Nat) : rdP v i [] = none := rfl
theorem rdP_bad (v i : Nat) (c : Int) (t : List Int) (h : v = 0 ∧ c = 128 ∨ 144115188075855872 ≤ v) : rdP v i (c :: t) = none := by rw [rdP, if_pos h]
theorem rdP_last (v i : Nat) (c : Int) (t : List Int) (h : ¬ (v = 0 ∧ c = 128 ∨ 144115188075855872 ≤ v)) (hc : c < 128) : rdP v i (c :: t) = some (v * 128 + c.toNat, i + 1) := by rw [rdP, if_neg h, if_pos hc]
theorem rdP_next (v i : Nat) (c : Int) (t : List Int) (h : ¬ (v = 0 ∧ c = 128 ∨ 144115188075855872 ≤ v)) (hc : 128 ≤ c) : rdP v i (c :: t) = rdP (v * 128 + (c.toNat - 128)) (i + 1) t := by rw [rdP, if_neg h, if_neg (by omega)]

/-- What is read has the bytes that stood there. -/
theorem rdP_form (v i : Nat) (l : List Int) (hb : ∀ x ∈ l, 0 ≤ x ∧ x < 256) (n p : Nat) (h : rdP v i l = some (n, p)) :
    n < 18446744073709551616 ∧ i < p ∧ p ≤ i + l.length ∧ numL n = upN v ++ l.take (p - i) := by
  induction l generalizing v i with
  | nil => simp [rdP] at h
  | cons c t ih =>
    have hc := hb c (by simp)
    by_cases h1 : v = 0 ∧ c = 128 ∨ 144115188075855872 ≤ v
    · rw [rdP_bad _ _ _ _ h1] at h; cases h
    · by_cases h2 : c < 128
      · rw [rdP_last _ _ _ _ h1 h2] at h
        simp only [Option.some.injEq, Prod.mk.injEq] at h
        obtain ⟨rfl, rfl⟩ := h
        refine ⟨by omega, by omega, by simp only [List.length_cons]; omega, ?_⟩
        unfold numL
        rw [show (v * 128 + c.toNat) / 128 = v by omega, show (v * 128 + c.toNat) % 128 = c.toNat by omega, show i + 1 - i = 0 + 1 by omega]
        simp; exact Int.max_eq_left hc.1
      · rw [rdP_next _ _ _ _ h1 (by omega)] at h
        obtain ⟨a, b, d, e⟩ := ih (v * 128 + (c.toNat - 128)) (i + 1) (fun x hx => hb x (by simp [hx])) h
        refine ⟨a, by omega, by simp only [List.length_cons]; omega, ?_⟩
        rw [e, upN_step v c.toNat (by omega) (by omega) (by omega) (by omega), show p - i = (p - (i + 1)) + 1 by omega]
        simp; omega
/-- What is put is read. -/
theorem rdP_up (f v : Nat) (hv : v < 128 ^ f) (h57 : v < 18446744073709551616) (t : List Int) : rdP 0 0 (upN v ++ t) = rdP v (upN v).length t := by
  induction f generalizing v t with
  | zero =>
    have : v = 0 := by simpa using hv
    subst this; simp [upN_zero]
  | succ f ih =>
    rcases Nat.eq_zero_or_pos v with h0 | h0
    · subst h0; simp [upN_zero]
    · rw [upN_pos v h0 (by omega), List.append_assoc, ih (v / 128) (by rw [Nat.pow_succ] at hv; omega) (by omega)]
      rw [List.singleton_append, rdP_next _ _ _ _ (by omega) (by omega)]
      rw [Int.toNat_natCast, show v / 128 * 128 + (v % 128 + 128 - 128) = v by omega, List.length_append]; rfl
theorem rdP_num (n : Nat) (hn : n < 18446744073709551616) (t : List Int) : rdP 0 0 (numL n ++ t) = some (n, (numL n).length) := by
  unfold numL
  rw [List.append_assoc, rdP_up 10 (n / 128) (by omega) (by omega), List.singleton_append, rdP_last _ _ _ _ (by omega) (by omega)]
  simp; omega
theorem rdP_some (l : List Int) (hb : ∀ x ∈ l, 0 ≤ x ∧ x < 256) (n p : Nat) (h : rdP 0 0 l = some (n, p)) :
    n < 18446744073709551616 ∧ p = (numL n).length ∧ p ≤ l.length ∧ l = numL n ++ l.drop p := by
  obtain ⟨a, b, d, e⟩ := rdP_form 0 0 l hb n p h
  rw [upN_zero, List.nil_append, Nat.sub_zero] at e
  have hl : (numL n).length = p := by rw [e, List.length_take]; omega
  exact ⟨a, hl.symm, by omega, by rw [e, List.take_append_drop]⟩
/-- No number's bytes are a beginning of another's. -/
theorem numL_prefix (n m : Nat) (hn : n < 18446744073709551616) (hm : m < 18446744073709551616) (s t : List Int) (h : numL n ++ s = numL m ++ t) : n = m ∧ s = t := by
  have h1 := rdP_num n hn s
  rw [h, rdP_num m hm t] at h1
  simp only [Option.some.injEq, Prod.mk.injEq] at h1
  obtain ⟨rfl, -⟩ := h1
  exact ⟨rfl, List.append_cancel_left h⟩

/-- How many bytes ahead have more behind them, up to ten. -/
def lead : Nat → List Int → Nat
  | 0, _ => 0
  | _ + 1, [] => 0
  | f + 1, c :: t => if 128 ≤ c then lead f t + 1 else 0
theorem lead_le (f : Nat) (l : List Int) : lead f l ≤ f := by
  induction f generalizing l with
  | zero => simp [lead]
  | succ f ih =>
    cases l with
    | nil => simp [lead]
    | cons c t => rw [lead]; split <;> (try have := ih t) <;> omega
theorem lead_len (f : Nat) (l : List Int) : lead f l ≤ l.length := by
  induction f generalizing l with
  | zero => simp [lead]
  | succ f ih =>
    cases l with
    | nil => simp [lead]
    | cons c t => rw [lead]; split <;> (try have := ih t) <;> simp <;> omega
theorem lead_up (f : Nat) (u : List Int) (c : Int) (t : List Int) (hu : ∀ x ∈ u, 128 ≤ x) (hc : c < 128) (hl : u.length ≤ f) : lead f (u ++ c :: t) = u.length := by
  induction f generalizing u with
  | zero =>
    have : u = [] := List.eq_nil_of_length_eq_zero (by omega)
    simp [lead, this]
  | succ f ih =>
    cases u with
    | nil => simp [lead]; omega
    | cons x u =>
      simp only [List.length_cons] at hl ⊢
      rw [List.cons_append, lead, if_pos (hu x (by simp)), ih u (fun y hy => hu y (by simp [hy])) (by omega)]
theorem lead_num (n : Nat) (hn : n < 18446744073709551616) (t : List Int) : lead 10 (numL n ++ t) + 1 = (numL n).length := by
  have h := upN_length 9 (n / 128) (by omega)
  unfold numL
  rw [List.append_assoc, List.singleton_append, lead_up 10 _ _ _ (fun x hx => (upN_bytes _ x hx).1) (by omega) (by omega)]
  simp
/-- What bytes say, as a number of 64 bits. -/
def valL (l : List Int) : Nat := l.foldl (fun v c => (v * 128 + c.toNat % 128) % 18446744073709551616) 0
theorem valL_nil : valL [] = 0 := rfl
theorem valL_snoc (l : List Int) (c : Int) : valL (l ++ [c]) = (valL l * 128 + c.toNat % 128) % 18446744073709551616 := by
  unfold valL; rw [List.foldl_append]; rfl
theorem valL_lt (l : List Int) : valL l < 18446744073709551616 := by
  have key : ∀ (l : List Int) (v : Nat), v < 18446744073709551616 → l.foldl (fun v c => (v * 128 + c.toNat % 128) % 18446744073709551616) v < 18446744073709551616 := by
    intro l
    induction l with
    | nil => exact fun v h => h
    | cons c t ih => exact fun v _ => ih _ (Nat.mod_lt _ (by decide))
  exact key l 0 (by decide)
theorem valL_up (f n : Nat) (h : n < 128 ^ f) (hn : n < 18446744073709551616) : valL (upN n) = n := by
  induction f generalizing n with
  | zero =>
    have : n = 0 := by simpa using h
    subst this; rw [upN_zero, valL_nil]
  | succ f ih =>
    rcases Nat.eq_zero_or_pos n with h0 | h0
    · subst h0; rw [upN_zero, valL_nil]
    · rw [upN_pos n h0 (by omega), valL_snoc, ih (n / 128) (by rw [Nat.pow_succ] at h; omega) (by omega)]
      omega
theorem valL_num (n : Nat) (hn : n < 18446744073709551616) : valL (numL n) = n := by
  unfold numL
  rw [valL_snoc, valL_up 10 (n / 128) (by omega) (by omega)]
  omega
/-- The document's way to read: how many bytes there are, what they say, and whether these are its bytes. -/
def refR (l : List Int) : Option (Nat × Nat) :=
  if l.length ≤ lead 10 l ∨ 9 < lead 10 l then none
  else if numL (valL (l.take (lead 10 l + 1))) = l.take (lead 10 l + 1) then some (valL (l.take (lead 10 l + 1)), lead 10 l + 1) else none
theorem refR_is (l : List Int) (hb : ∀ x ∈ l, 0 ≤ x ∧ x < 256) : refR l = rdP 0 0 l := by
  have key : ∀ n p, rdP 0 0 l = some (n, p) → lead 10 l + 1 = p ∧ p ≤ l.length ∧ p ≤ 10 ∧ l.take p = numL n ∧ valL (l.take p) = n := fun n p h => by
    obtain ⟨a, b, d, e⟩ := rdP_some l hb n p h
    have h1 := lead_num n a (l.drop p)
    rw [← e] at h1
    have h2 : l.take p = numL n := by
      rw [e, List.take_append_of_le_length (by omega), b, List.take_length]
    exact ⟨by omega, d, by have := numL_length n a; omega, h2, by rw [h2, valL_num n a]⟩
  unfold refR
  rcases hr : rdP 0 0 l with _ | ⟨n, p⟩
  · split
    · rfl
    · split
      · rename_i h1 h2
        exfalso
        have e : l = numL (valL (l.take (lead 10 l + 1))) ++ l.drop (lead 10 l + 1) := by rw [h2, List.take_append_drop]
        rw [e, rdP_num _ (valL_lt _)] at hr
        cases hr
      · rfl
  · obtain ⟨a, b, c, d, e⟩ := key n p hr
    rw [if_neg (by omega), a, e, if_pos d.symm]
end Go.Proofs.YtpndccoikhejgaaDoor.Codec
namespace Go.Proofs.YtpndccoikhejgaaDoor
open Go.RowKit
set_option linter.unusedVariables false
set_option maxRecDepth 100000

/-- What number stands ahead of a text, and up to which byte. -/
def readR (s : ByteArray) : Option (Nat × Nat) := Codec.rdP 0 0 (textL s)
def readN (s : ByteArray) : Nat := match readR s with
  | some (n, _) => n
  | none => 0
def readT (s : ByteArray) : ByteArray := match readR s with
  | some (_, p) => s.extract p s.size
  | none => ⟨#[]⟩
def readO (s : ByteArray) : Bool := (readR s).isSome
def readV (s : ByteArray) : Value := .tuple #[.int .u64 (readN s : Nat), .string (readT s), .bool (readO s)]
theorem readV_no (s : ByteArray) (h : readR s = none) : readV s = .tuple #[.int .u64 0, .string ⟨#[]⟩, .bool false] := by
  simp [readV, readN, readT, readO, h]
theorem readV_yes (s : ByteArray) (n p : Nat) (h : readR s = some (n, p)) : readV s = .tuple #[.int .u64 (n : Nat), .string (s.extract p s.size), .bool true] := by
  simp [readV, readN, readT, readO, h]
theorem or_seven (v : Nat) (c : UInt8) (h : v < 144115188075855872) : bits .or .u64 ((v : Int) * 128) ((c.toNat : Int) % 128) = ((v * 128 + c.toNat % 128 : Nat) : Int) := by
  have hc := c.toNat_lt
  rw [show (v : Int) * 128 = ((v * 128 : Nat) : Int) by omega, show (c.toNat : Int) % 128 = ((c.toNat % 128 : Nat) : Int) by omega]
  rw [u64_or_nat _ _ (by omega) (by omega), nat_join 7 _ _ (by omega) (by omega)]
theorem ret_read {s : ByteArray} {v : Value} (h : readV s = v) : Ending.returned v = .returned (readV s) := by rw [h]
theorem ret_yes {s : ByteArray} {n : Nat} {t : ByteArray} {x : Int} (h : readV s = .tuple #[.int .u64 (n : Nat), .string t, .bool true]) (hx : x = (n : Int)) : Ending.returned (.tuple #[.int .u64 x, .string t, .bool true]) = .returned (readV s) := by rw [h, hx]
set_option maxHeartbeats 1000000 in
set_option maxRecDepth 100000 in
theorem read_any (s : ByteArray) (hs : s.size ≤ maxLen) (w : World) :
    Calls Tryd.prog 88 #[.string s] w fun e w' => e = .returned (readV s) ∧ ∃ k, w' = w.drewN k := by
  unfold maxLen at hs
  go_enter Tryd.func88, Tryd.ntmps88
  go_wp2
  go_loop [2, 9] (fun s2 s9 => ∃ j v : Nat, j ≤ s.size ∧ s9 = .int .i64 (j : Int) ∧ s2 = .int .u64 (v : Int) ∧ v < 18446744073709551616 ∧ (j = 0 → v = 0) ∧ (0 < j → 0 < v) ∧ Hid (readR s = Codec.rdP v j ((textL s).drop j))) (fun _ s9 => s.size - (intOf s9).toNat)
  case atStart => exact ⟨0, 0, by omega, rfl, rfl, by omega, by omega, by omega, Lib.hid rfl⟩
  case round =>
    obtain ⟨j, v, hj, rfl, rfl, hv, h0, h1, HR⟩ := hrel
    by_cases hlt : j < s.size
    · have HA := Lib.hid (textL_at s j hlt)
      have hcb := (s[j]).toNat_lt
      by_cases hbig : 144115188075855872 ≤ v
      · have hj0 : 0 < j := by omega
        have hN : Hid (readV s = _) := Lib.hid (readV_no s (by rw [HR.out, HA.out]; exact Codec.rdP_bad _ _ _ _ (.inr hbig)))
        have hjn : ((j : Int) == 0) = false := by simp; omega
        clear h0 h1
        go_wp2
        go_ret3
        exact ⟨ret_read hN.out, 0, rfl⟩
      · have hor := or_seven v s[j] (by omega)
        by_cases hz : j = 0 ∧ s[j].toNat = 128
        · have hN : Hid (readV s = _) := Lib.hid (readV_no s (by rw [HR.out, HA.out]; exact Codec.rdP_bad _ _ _ _ (.inl ⟨h0 hz.1, by omega⟩)))
          have hjn : ((j : Int) == 0) = true := by simp; omega
          have hcn : (((s[j].toNat : Nat) : Int) == 128) = true := by simp; omega
          clear h0 h1 hz hor
          go_wp2
          go_ret3
          exact ⟨ret_read hN.out, 0, rfl⟩
        · have hn : Hid (¬ (v = 0 ∧ ((s[j].toNat : Nat) : Int) = 128 ∨ 144115188075855872 ≤ v)) := Lib.hid (by omega)
          have hP : Hid (0 < j + 1 → 0 < v * 128 + s[j].toNat % 128 ∨ s[j].toNat < 128) := Lib.hid (by omega)
          have hB : (((j : Int) == 0) = true ∧ (((s[j].toNat : Nat) : Int) == 128) = false) ∨ ((j : Int) == 0) = false := by
            by_cases hj0 : j = 0
            · left; constructor
              · simp; omega
              · simp; omega
            · right; simp; omega
          clear h0 h1 hz
          by_cases hc : s[j].toNat < 128
          · have hN : Hid (readV s = _) := Lib.hid (readV_yes s _ _ (by rw [HR.out, HA.out]; exact Codec.rdP_last _ _ _ _ hn.out (by omega)))
            have hX : Hid ((v : Int) * 128 + ((s[j].toNat : Nat) : Int) % 128 = ((v * 128 + (((s[j].toNat : Nat) : Int)).toNat : Nat) : Int)) := Lib.hid (by omega)
            rcases hB with ⟨hjn, hcn⟩ | hjn
            all_goals
              go_wp2
              go_quiet (fail)
              go_wp2
              go_ret3
              exact ⟨ret_yes hN.out hX.out, _, rfl⟩
          · have hN : Hid (readR s = Codec.rdP (v * 128 + (s[j].toNat - 128)) (j + 1) ((textL s).drop (j + 1))) := Lib.hid (by
              rw [HR.out, HA.out, Codec.rdP_next _ _ _ _ hn.out (by omega)]; rfl)
            have hc' : Hid (s[j].toNat % 128 = s[j].toNat - 128) := Lib.hid (by omega)
            rcases hB with ⟨hjn, hcn⟩ | hjn
            all_goals
              go_wp2
              go_round
              case rel =>
                have hp := hP.out
                exact ⟨j + 1, v * 128 + s[j].toNat % 128, by omega, by go_num, rfl, by omega, by omega, by omega, Lib.hid (by rw [hc'.out]; exact hN.out)⟩
              case measure => simp [intOf]; omega
    · have hN : Hid (readV s = _) := Lib.hid (readV_no s (by rw [HR.out, List.drop_of_length_le (by rw [textL_length]; omega)]; rfl))
      clear h0 h1
      go_wp2
      go_ret3
      exact ⟨ret_read hN.out, 0, rfl⟩
end Go.Proofs.YtpndccoikhejgaaDoor
namespace Go.Proofs.YtpndccoikhejgaaDoor
open Go.RowKit
set_option linter.unusedVariables false
set_option maxRecDepth 100000

/-- The length that stands ahead of a text, and up to which byte, where as many bytes are behind it. -/
def cutR (s : ByteArray) : Option (Nat × Nat) := match readR s with
  | some (n, p) => if n ≤ (s.extract p s.size).size then some (n, p) else none
  | none => none
def cutV (s : ByteArray) : Value := match cutR s with
  | some (n, p) => .tuple #[.string ((s.extract p s.size).extract 0 n), .string ((s.extract p s.size).extract n (s.extract p s.size).size), .bool true]
  | none => .tuple #[.string ⟨#[]⟩, .string ⟨#[]⟩, .bool false]
theorem cutV_none (s : ByteArray) (h : readR s = none) : cutV s = .tuple #[.string ⟨#[]⟩, .string ⟨#[]⟩, .bool false] := by
  simp [cutV, cutR, h]
theorem cutV_great (s : ByteArray) (n p : Nat) (h : readR s = some (n, p)) (hn : ¬ n ≤ (s.extract p s.size).size) : cutV s = .tuple #[.string ⟨#[]⟩, .string ⟨#[]⟩, .bool false] := by
  unfold cutV cutR; rw [h]; simp only; rw [if_neg hn]
theorem cutV_yes (s : ByteArray) (n p : Nat) (h : readR s = some (n, p)) (hn : n ≤ (s.extract p s.size).size) : cutV s = .tuple #[.string ((s.extract p s.size).extract 0 n), .string ((s.extract p s.size).extract n (s.extract p s.size).size), .bool true] := by
  unfold cutV cutR; rw [h]; simp only; rw [if_pos hn]
theorem readR_lt (s : ByteArray) (n p : Nat) (h : readR s = some (n, p)) : n < 18446744073709551616 ∧ p = (Codec.numL n).length ∧ p ≤ s.size ∧ textL s = Codec.numL n ++ (textL s).drop p := by
  have := Codec.rdP_some (textL s) (textL_bytes s) n p h
  rwa [textL_length] at this
theorem ret_is {v u : Value} (h : u = v) : Ending.returned v = .returned u := by rw [h]
set_option maxHeartbeats 1000000 in
set_option maxRecDepth 100000 in
theorem cut_any (s : ByteArray) (hs : s.size ≤ maxLen) (w : World) :
    Calls Tryd.prog 68 #[.string s] w fun e w' => e = .returned (cutV s) ∧ ∃ k, w' = w.drewN k := by
  rcases hR : readR s with _ | ⟨n, p⟩
  · have hV := Lib.hid (cutV_none s hR)
    have hc := read_any s hs w
    rw [readV_no s hR] at hc
    clear hR
    go_enter Tryd.func68, Tryd.ntmps68
    go_wp2_with (go_at_call 88; (with_reducible refine hc.mono ?_); rintro e w1 ⟨rfl, k, rfl⟩)
    go_ret3
    exact ⟨ret_is hV.out, _, rfl⟩
  · have hc := read_any s hs w
    rw [readV_yes s n p hR] at hc
    have hn := (readR_lt s n p hR).1
    obtain ⟨T, hT⟩ : ∃ T, Hid (T = s.extract p s.size) := ⟨_, Lib.hid rfl⟩
    have hTs : T.size ≤ 9223372036854775807 := by rw [hT.out, ByteArray.size_extract]; unfold maxLen at hs; omega
    rw [← hT.out] at hc
    by_cases hle : n ≤ T.size
    · have hV := Lib.hid (cutV_yes s n p hR (by rw [← hT.out]; exact hle))
      rw [← hT.out] at hV
      clear hR hs
      go_enter Tryd.func68, Tryd.ntmps68
      go_wp2_with (go_at_call 88; (with_reducible refine hc.mono ?_); rintro e w1 ⟨rfl, k, rfl⟩)
      go_quiet (fail)
      go_wp2
      go_ret3
      exact ⟨ret_is hV.out, _, World.drewN_drewN _ _ _⟩
    · have hV := Lib.hid (cutV_great s n p hR (by rw [← hT.out]; exact hle))
      clear hR hs
      go_enter Tryd.func68, Tryd.ntmps68
      go_wp2_with (go_at_call 88; (with_reducible refine hc.mono ?_); rintro e w1 ⟨rfl, k, rfl⟩)
      go_ret3
      exact ⟨ret_is hV.out, _, rfl⟩
end Go.Proofs.YtpndccoikhejgaaDoor
namespace Go.Proofs.YtpndccoikhejgaaDoor
open Go.RowKit
set_option linter.unusedVariables false

/-- The hash that stands ahead of a text, or none. -/
def unhV (s : ByteArray) : Value := if s.size < 32 then .tuple #[.agg (nums .u8 (List.replicate 32 0)), .string ⟨#[]⟩, .bool false]
  else .tuple #[.agg (nums .u8 ((textL s).take 32)), .string (s.extract 32 s.size), .bool true]
theorem unhV_no (s : ByteArray) (h : s.size < 32) : unhV s = .tuple #[.agg (nums .u8 (List.replicate 32 0)), .string ⟨#[]⟩, .bool false] := by unfold unhV; rw [if_pos h]
theorem unhV_yes (s : ByteArray) (h : ¬ s.size < 32) : unhV s = .tuple #[.agg (nums .u8 ((textL s).take 32)), .string (s.extract 32 s.size), .bool true] := by unfold unhV; rw [if_neg h]
/-- A text's first bytes, copied over a whole row. -/
theorem run_copy_front {P : Program} (w : World) (dT sT ty elem : TypeId) (g n dCap : Nat) (s : ByteArray) (cur : Array Value) (t : TypeId)
    (hu : P.underlying dT = some (.slice elem)) (hs : (P.info? elem).map (·.size) = some 1) (hg : Row w g t cur) (hle : n ≤ s.size) (hn : cur.size = n) :
    (Builtin.copy_ #[dT, sT] ty #[.slice (some ⟨g, 0, none⟩) n dCap, .string s]).run P w = .ok (goInt n) (w.setRow g (nums .u8 ((textL s).take n))) := by
  have hl : ((textL s).take n).length = n := by rw [List.length_take, textL_length]; omega
  have hone : ∀ v ∈ (nums .u8 ((textL s).take n)).toList, v.oneCell' = true := by
    intro v hv
    have := nums_one .u8 ((textL s).take n)
    rw [Array.all_eq_true_iff_forall_mem] at this
    exact this v (by simpa using hv)
  have hlen : (nums .u8 ((textL s).take n)).toList.length = n := by rw [Array.length_toList, nums_size, hl]
  have hst := run_storeCells_at P g 0 t (nums .u8 ((textL s).take n)).toList 0 cur w hg (by rw [hlen]; omega) hone
  have hmin : Nat.min s.size n = n := Nat.min_eq_right hle
  have htk : List.take n (List.map (fun b : UInt8 => Value.int IntKind.u8 (b.toNat : Int)) s.data.toList) = (nums .u8 ((textL s).take n)).toList := by
    unfold nums textL
    rw [List.map_take, List.map_map]
    simp only [Function.comp_def]
  rw [hlen] at hst
  simp only [Nat.add_zero] at hst
  cases hq : P.info? elem with
  | none => simp [hq] at hs
  | some i =>
    simp [Builtin.copy_, run_underlying hu, Builtin.lenOf, Builtin.firstCells, sizeOf, typeInfo, hq, hmin]
    rw [htk, hst]
    simp [Result.andThen]
    rw [List.drop_of_length_le (by simp; omega)]
    simp
theorem wpList_copy_front {P : Program} {w : World} {ops : Array Oper} {rest : List Oper} {o : Oper} {a : Act} {Q : Exit → Act → World → Prop} (hgd : o.guard = none) (d x : Operand) (dT sT : TypeId)
    (ho : o.op = .call { callee := .builtin .copy, args := #[d, x], argTypes := #[dT, sT] }) (elem : TypeId) (hu : P.underlying dT = some (.slice elem)) (hs : (P.info? elem).map (·.size) = some 1)
    (g n dCap : Nat) (hd : a.eval d = .slice (some ⟨g, 0, none⟩) n dCap) (s : ByteArray) (hx : a.eval x = .string s) (cur : Array Value) (t : TypeId) (hg : Row w g t cur) (hle : n ≤ s.size) (hn : cur.size = n)
    (h : wpList P ops Q rest (a.put o.dst (goInt n)) (w.setRow g (nums .u8 ((textL s).take n)))) : wpList P ops Q (o :: rest) a w := by
  refine wpList_plain hgd fun K hK => ?_
  have hrun := run_copy_front (P := P) w dT sT o.type elem g n dCap s cur t hu hs hg hle hn
  unfold Oper.wp
  simp [execOp, ho, resolve, invoke, builtin, hd, hx, hrun, Result.andThen]
  exact hK _ _ h
theorem results_row3b {P : Program} {fn : Func} {p u v : Tmp} {ty : TypeId} (h : fn.results = #[.cell p ty, .tmp u, .tmp v]) (tmps : Array Value) (w : World) (g : Nat) (t : TypeId) (cs : Array Value) (fr : Nat × Nat) (d : TypeDesc)
    (hp : tmps.getD p undef = .pointer (some ⟨g, 0, none⟩)) (hg : w.heap[g]? = some (.cells cs t fr)) (hu : P.underlying ty = some d) (hd : (match d with | .struct _ | .array _ _ => true | _ => false) = true) (hi : (P.info? ty).map (·.size) = some cs.size) :
    (results fn tmps).run P w = .ok (.tuple #[.agg cs, tmps.getD u undef, tmps.getD v undef]) w := by
  have hp' : tmps[p]?.getD undef = .pointer (some ⟨g, 0, none⟩) := by simpa using hp
  simp [results, h, hp', asAddr, run_loadVar_row w g t ty cs fr d hg hu hd hi]
theorem ret_unh {s : ByteArray} {v : Value} (h : unhV s = v) : Ending.returned v = .returned (unhV s) := by rw [h]
theorem byte1 : (Tryd.prog.info? 5).map (·.size) = some 1 := by kernel_rfl
attribute [local go_sem ↓ high] read_at write_at
set_option maxHeartbeats 1000000 in
set_option maxRecDepth 100000 in
theorem unhash_any (s : ByteArray) (hs : s.size ≤ maxLen) (w : World) :
    Calls Tryd.prog 67 #[.string s] w fun e w' => e = .returned (unhV s) ∧ Below w.heap.size w w' := by
  unfold maxLen at hs
  obtain ⟨Z, hZ⟩ : ∃ Z, Hid (Z = nums .u8 (List.replicate 32 0)) := ⟨_, Lib.hid rfl⟩
  have zZ : Hid (Z.size = 32) := Lib.hid (by rw [hZ.out, nums_size]; simp)
  have oZ : Hid (Z.all (·.oneCell') = true) := Lib.hid (by rw [hZ.out]; exact nums_one _ _)
  obtain ⟨C, hC⟩ : ∃ C, Hid (C = nums .u8 ((textL s).take 32)) := ⟨_, Lib.hid rfl⟩
  have oC : Hid (C.all (·.oneCell') = true) := Lib.hid (by rw [hC.out]; exact nums_one _ _)
  have H0 : Hid (Row (w.alloc (.cells (nums .u8 (List.replicate 32 0)) 23)) w.heap.size 23 (nums .u8 (List.replicate 32 0)) ∧ Below w.heap.size w (w.alloc (.cells (nums .u8 (List.replicate 32 0)) 23))) := Lib.hid ⟨Row.made _ _ _, (Below.refl _ _).alloc (Nat.le_refl _) _⟩
  go_enter Tryd.func67, Tryd.ntmps67
  go_upto_region 0 with fail
  go_cut [2, 3, 4] (fun s2 s3 s4 wx => s2 = .pointer (some ⟨w.heap.size, 0, none⟩) ∧ s3 = .string ⟨#[]⟩ ∧ s4 = .bool false ∧ Hid (Row wx w.heap.size 23 Z ∧ Below w.heap.size w wx))
  case first =>
    go_wp2_with fail
    go_meet
    exact ⟨rfl, rfl, rfl, by rw [hZ.out]; exact H0⟩
  case rest =>
  obtain ⟨rfl, rfl, rfl, HH⟩ := hcut
  clear H0
  have hrow := HH.out.1
  by_cases hlt : s.size < 32
  · have hV := Lib.hid (unhV_no s hlt)
    have hd : decide ((s.size : Int) < 32) = true := decide_eq_true (by omega)
    rw [← hZ.out] at hV
    have h6 : (Tryd.prog.info? 23).map (·.size) = some (nums .u8 (List.replicate 32 0)).size := by kernel_rfl
    have H6 := Lib.hid h6
    have h3 := nums_one .u8 (List.replicate 32 0)
    rw [hZ.out] at hrow hV
    have HB := Lib.hid HH.out.2
    clear h6 HH
    go_wp2_with (refine wpList_store_row rfl 23 _ _ rfl w.heap.size (nums .u8 (List.replicate 32 0)) rfl rfl 23 _ hrow H6.out rfl h3 ?_)
    refine bodyPost_ret (results_row3b (p := 2) (u := 3) (v := 4) rfl _ _ w.heap.size 23 _ (0, 0) _ rfl (hrow.whole _) Tryd.underlying23 rfl H6.out) rfl ⟨ret_unh hV.out, below_setRow HB.out (Nat.le_refl _)⟩
  · have hV := Lib.hid (unhV_yes s hlt)
    have hd : decide ((s.size : Int) < 32) = false := decide_eq_false (by omega)
    rw [← hC.out] at hV
    have h32 : 32 ≤ s.size := by omega
    have zC : Hid (C.size = 32) := Lib.hid (by rw [hC.out, nums_size, List.length_take, textL_length]; omega)
    have HB := Lib.hid HH.out.2
    clear HH
    go_upto_region 3 with fail
    go_cut [2, 4] (fun s2 s4 wx => s2 = .pointer (some ⟨w.heap.size, 0, none⟩) ∧ s4 = .bool false ∧ Hid (Row wx w.heap.size 23 C ∧ Below w.heap.size w wx))
    case first =>
      go_wp2_with (refine wpList_copy_front rfl _ _ _ _ rfl 5 Tryd.underlying48 byte1 w.heap.size 32 32 rfl s rfl Z 23 hrow h32 zZ.out ?_)
      go_meet
      exact ⟨rfl, rfl, Lib.hid ⟨by rw [hC.out]; exact hrow.whole _, below_setRow HB.out (Nat.le_refl _)⟩⟩
    case rest =>
    obtain ⟨rfl, rfl, HQ⟩ := hcut
    clear hrow HB
    have s1 := HQ.out.1.drew.read zC.out
    have s2 := HQ.out.1.drew.write zC.out zC.out oC.out
    go_wp2_with fail
    go_region
    all_goals
      go_wp2
      refine bodyPost_ret (results_row3b (p := 2) (u := 3) (v := 4) rfl _ _ w.heap.size 23 _ (0, 0) _ rfl (HQ.out.1.drew.whole _) Tryd.underlying23 rfl (sizeH _ zC.out)) rfl ⟨ret_unh hV.out, below_setRow HQ.out.2.drew (Nat.le_refl _)⟩
end Go.Proofs.YtpndccoikhejgaaDoor
