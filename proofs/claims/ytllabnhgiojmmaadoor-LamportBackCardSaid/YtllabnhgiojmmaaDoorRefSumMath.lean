/-
  Plain facts for the document's Sum (layer 2): a text, filled up, as one text; its bytes are the document's pad; the program's sum, made in two parts, is the sum of its blocks. No walk stands here.
-/
import Derived.Test.YtllabnhgiojmmaaDoorShaSum
import Derived.Test.YtllabnhgiojmmaaDoorTextAt
import Derived.Test.YtllabnhgiojmmaaDoorRefPad
namespace Go.Proofs.YtllabnhgiojmmaaDoor
open Go.RowKit
set_option linter.unusedVariables false

/-- The text, filled up. -/
def fullS (s : ByteArray) : ByteArray := ((s ++ mark) ++ zerosS (zerosN s.size)) ++ putS (8 * (s.size : Int)) 8
theorem extract_join (s : ByteArray) (k : Nat) (h : k ≤ s.size) : s.extract 0 k ++ s.extract k s.size = s := by
  rw [ByteArray.extract_append_extract, Nat.min_eq_left (Nat.zero_le _), Nat.max_eq_right h, ByteArray.extract_zero_size]
theorem fullS_split (s : ByteArray) : fullS s = s.extract 0 (64 * (s.size / 64)) ++ fillS (s.extract (64 * (s.size / 64)) s.size) s.size := by
  have e : (119 - (s.extract (64 * (s.size / 64)) s.size).size) % 64 = zerosN s.size := by
    rw [ByteArray.size_extract]; unfold zerosN; omega
  unfold fullS fillS
  rw [e, ← ByteArray.append_assoc, ← ByteArray.append_assoc, ← ByteArray.append_assoc, extract_join s _ (by omega)]
theorem fullS_size (s : ByteArray) : (fullS s).size = s.size + 1 + zerosN s.size + 8 := by
  unfold fullS
  rw [ByteArray.size_append, ByteArray.size_append, ByteArray.size_append, zerosS_size, put8_size]; rfl
theorem join (s : ByteArray) (N : Nat) (hN : (fullS s).size = 64 * N) : sumL s = bytesL (Sha.blocks Ks Hs (fullS s) N).list := by
  have hA : (s.extract 0 (64 * (s.size / 64))).size = 64 * (s.size / 64) := by rw [ByteArray.size_extract]; omega
  have hF : (fullS s).size = 64 * (s.size / 64) + (fillS (s.extract (64 * (s.size / 64)) s.size) s.size).size := by
    rw [fullS_split, ByteArray.size_append, hA]
  have e1 : N = s.size / 64 + (fillS (s.extract (64 * (s.size / 64)) s.size) s.size).size / 64 := by omega
  have h64 : (fillS (s.extract (64 * (s.size / 64)) s.size) s.size).size = 64 * ((fillS (s.extract (64 * (s.size / 64)) s.size) s.size).size / 64) := by omega
  unfold sumL
  rw [e1, Sha.blocks_add Ks Hs (fullS s) (fillS (s.extract (64 * (s.size / 64)) s.size) s.size) _ _ (fun i hi => by
    rw [fullS_split, getb_right _ _ _ (by rw [hA]; omega) (by rw [hA]; omega), hA, Nat.add_sub_cancel_left])]
  rw [Sha.blocks_congr Ks Hs (fullS s) (s.extract 0 (64 * (s.size / 64))) (s.size / 64) (fun i hi => by
    rw [fullS_split, getb_left _ _ _ (by rw [hA]; omega)])]
theorem textL_zeros (z : Nat) : textL (zerosS z) = List.replicate z 0 := by
  induction z with
  | zero => rfl
  | succ z ih =>
    show textL ⟨([0] ++ Lib.repeatL [0] z).toArray⟩ = _
    rw [List.replicate_succ, ← ih]
    rfl
theorem putL_beL (N : Int) : putL N 8 = beL N 8 := rfl
theorem padL_text (s : ByteArray) : padL s = textL (fullS s) := by
  unfold fullS padL
  rw [textL_app, textL_app, textL_app, textL_zeros, putS_some _ 8 (by omega), textL_nums _ (fun x hx => ?_), Int.mul_comm]
  · rfl
  · simp [putL] at hx
    omega
theorem padL_get (s : ByteArray) (i : Nat) (h : i < (fullS s).size) : (padL s).getD i 0 = (((fullS s).get! i).toNat : Int) := by
  rw [padL_text, get_elem _ i h]
  have hl : i < (fullS s).data.toList.length := by rw [Array.length_toList]; exact h
  unfold textL
  simp [List.getD, h]
  rfl
#print axioms join
#print axioms padL_get
end Go.Proofs.YtllabnhgiojmmaaDoor
