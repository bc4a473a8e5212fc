/-
  What the calls of the statement CodecForm answer, for every text.
-/
import Derived.Test.YtcafjmaimohljaaForm00
import Derived.Test.YtcafjmaimohljaaForm01
import Derived.Test.YtcafjmaimohljaaForm10
import Derived.Test.YtcafjmaimohljaaForm11
namespace Go.Proofs.Ytcafjmaimohljaa
open Go.RowKit
set_option linter.unusedVariables false

theorem form_in (s : ByteArray) (hs : s.size ≤ 2500) : ∃ ro co uo ho rn rt ca cb ub ht N T U L C m ls, FormIn s ro co uo ho rn rt ca cb ub ht N T U L C m ls := by
  have hsm : s.size ≤ maxLen := by unfold maxLen; omega
  obtain ⟨rt, ro, N, rn, e1, y1, a1, z1⟩ : ∃ (rt : ByteArray) (ro : Bool) (N : ByteArray) (rn : Int), readV s = .tuple #[.int .u64 rn, .string rt, .bool ro] ∧
      (ro = true → ∀ W, Calls Try.prog 11 #[.int .u64 rn] W fun e w' => e = .returned (.string N) ∧ Below W.heap.size W w') ∧
      (ro = true → ∀ W, (Op.stringOp .add N rt).run Try.prog W = .ok (.string s) W) ∧ (ro = false → rn = 0 ∧ rt = ⟨#[]⟩) := by
    rcases h : readR s with _ | ⟨n, p⟩
    · exact ⟨⟨#[]⟩, false, ⟨#[]⟩, 0, readV_no s h, fun h => by (cases h), fun h => by (cases h), fun _ => ⟨rfl, rfl⟩⟩
    · obtain ⟨h1, h2, h3⟩ := read_form s n p h
      refine ⟨s.extract p s.size, true, numS n, (n : Int), readV_yes s n p h, fun _ W => num_any n h2 W, fun _ W => ?_, fun h => by (cases h)⟩
      have hl := numS_size n h2
      have := join_text (numS n) (s.extract p s.size) (by rw [ByteArray.size_extract]; omega) W
      rwa [h1] at this
  obtain ⟨ca, cb, co, T, e2, y2, a2, z2⟩ : ∃ (ca cb : ByteArray) (co : Bool) (T : ByteArray), cutV s = .tuple #[.string ca, .string cb, .bool co] ∧
      (co = true → ∀ W, Calls Try.prog 13 #[.string ca] W fun e w' => e = .returned (.string T) ∧ Below W.heap.size W w') ∧
      (co = true → ∀ W, (Op.stringOp .add T cb).run Try.prog W = .ok (.string s) W) ∧ (co = false → ca = ⟨#[]⟩ ∧ cb = ⟨#[]⟩) := by
    rcases h : readR s with _ | ⟨n, p⟩
    · exact ⟨⟨#[]⟩, ⟨#[]⟩, false, ⟨#[]⟩, cutV_none s h, fun h => by (cases h), fun h => by (cases h), fun _ => ⟨rfl, rfl⟩⟩
    · by_cases hn : n ≤ (s.extract p s.size).size
      · have hf := cut_form s n p h hn
        have hsz : (s.extract p s.size).size ≤ 2500 := by rw [ByteArray.size_extract]; omega
        have ha : ((s.extract p s.size).extract 0 n).size ≤ 2500 := by rw [ByteArray.size_extract]; omega
        refine ⟨_, _, true, textS ((s.extract p s.size).extract 0 n), cutV_yes s n p h hn, fun _ W => text_any _ (by omega) W, fun _ W => ?_, fun h => by (cases h)⟩
        have hz := congrArg ByteArray.size hf
        rw [ByteArray.size_append] at hz
        have := join_text (textS ((s.extract p s.size).extract 0 n)) ((s.extract p s.size).extract n (s.extract p s.size).size) (by omega) W
        rwa [hf] at this
      · exact ⟨⟨#[]⟩, ⟨#[]⟩, false, ⟨#[]⟩, cutV_great s n p h hn, fun h => by (cases h), fun h => by (cases h), fun _ => ⟨rfl, rfl⟩⟩
  obtain ⟨l, ub, uo, U, e3, hll, y3, a3, z3⟩ : ∃ (l : List Int) (ub : ByteArray) (uo : Bool) (U : ByteArray), unhV s = .tuple #[.agg (nums .u8 l), .string ub, .bool uo] ∧ l.length = 32 ∧
      (uo = true → ∀ W, Calls Try.prog 9 #[.agg (nums .u8 l)] W fun e w' => e = .returned (.string U) ∧ Below W.heap.size W w') ∧
      (uo = true → ∀ W, (Op.stringOp .add U ub).run Try.prog W = .ok (.string s) W) ∧
      (uo = false → ub = ⟨#[]⟩ ∧ ∀ W, (binOp .eql 27 (.agg (nums .u8 l)) (.agg #[.int .u8 0, .int .u8 0, .int .u8 0, .int .u8 0, .int .u8 0, .int .u8 0, .int .u8 0, .int .u8 0, .int .u8 0, .int .u8 0, .int .u8 0, .int .u8 0, .int .u8 0, .int .u8 0, .int .u8 0, .int .u8 0, .int .u8 0, .int .u8 0, .int .u8 0, .int .u8 0, .int .u8 0, .int .u8 0, .int .u8 0, .int .u8 0, .int .u8 0, .int .u8 0, .int .u8 0, .int .u8 0, .int .u8 0, .int .u8 0, .int .u8 0, .int .u8 0])).run Try.prog W = .ok (.bool true) W) := by
    by_cases h : s.size < 32
    · refine ⟨List.replicate 32 0, ⟨#[]⟩, false, ⟨#[]⟩, unhV_no s h, by simp, fun h => by (cases h), fun h => by (cases h), fun _ => ⟨rfl, fun W => ?_⟩⟩
      have hb : bytes (List.replicate 32 0) := fun x hx => by have := List.eq_of_mem_replicate hx; omega
      exact (eql_hash (List.replicate 32 0) (List.replicate 32 0) (by simp) (by simp) hb hb W).trans (by rw [decide_eq_true rfl])
    · have hl : ((textL s).take 32).length = 32 := by rw [List.length_take, textL_length]; omega
      refine ⟨(textL s).take 32, s.extract 32 s.size, true, strOfNums ((textL s).take 32), unhV_yes s h, hl, fun _ W => hash_any _ hl W, fun _ W => ?_, fun h => by (cases h)⟩
      have := join_text (strOfNums ((textL s).take 32)) (s.extract 32 s.size) (by rw [strOfNums_size, hl, ByteArray.size_extract]; omega) W
      rwa [unh_form s h] at this
  obtain ⟨L, y4, a4, z4⟩ : ∃ L : ByteArray, (unhsO s = true → ∀ A c W, HL W W.heap.size A (unhsL s) → Calls Try.prog 15 #[.slice A (unhsL s).length c] W fun e w' => e = .returned (.string L) ∧ Below W.heap.size W w') ∧
      (unhsO s = true → ∀ W, (Op.stringOp .add L (unhsT s)).run Try.prog W = .ok (.string s) W) ∧ (unhsO s = false → (unhsL s).length = 0 ∧ unhsT s = ⟨#[]⟩) := by
    refine ⟨listS (unhsL s), fun _ A c W hW => hashes_any _ (unhsL_hashes s) A c W hW (by have := unhsL_length s; unfold maxLen; omega), fun ho W => ?_, fun ho => ?_⟩
    · rcases h : unhsR s with _ | ⟨n, p⟩
      · simp [unhsO, h] at ho
      · obtain ⟨h1, h2, h3⟩ := unhsR_some s n p h
        have hf := unhs_form s n p h1 ⟨h2, h3⟩
        have eL : unhsL s = chunk (textL (s.extract p s.size)) n := by simp [unhsL, h]
        have eT : unhsT s = (s.extract p s.size).extract (32 * n) (s.extract p s.size).size := by simp [unhsT, h]
        have hz := congrArg ByteArray.size hf
        rw [ByteArray.size_append] at hz
        have := join_text (listS (chunk (textL (s.extract p s.size)) n)) ((s.extract p s.size).extract (32 * n) (s.extract p s.size).size) (by omega) W
        rw [hf] at this
        rw [eL, eT]
        exact this
    · rcases h : unhsR s with _ | ⟨n, p⟩
      · exact ⟨by simp [unhsL, h], by simp [unhsT, h]⟩
      · simp [unhsO, h] at ho
  exact ⟨ro, co, uo, unhsO s, rn, rt, ca, cb, ub, unhsT s, N, T, U, L, nums .u8 l, (unhsL s).length, unhsL s,
    { x1 := fun W => by rw [← e1]; exact calls_below (read_any s hsm W)
      x2 := fun W => by rw [← e2]; exact calls_below (cut_any s hsm W)
      x3 := fun W => by rw [← e3]; exact unhash_any s hsm W
      x4 := fun W => (unhashes_any s hsm W).mono fun e w' h => h.parts
      y1 := y1, y2 := y2, y3 := y3, y4 := y4, a1 := a1, a2 := a2, a3 := a3, a4 := a4, z1 := z1, z2 := z2, z3 := z3, z4 := z4
      iC := sizeHash l hll, zC := by rw [nums_size, hll], oC := nums_one _ _ }⟩
theorem formlaw_short (s : ByteArray) (w : World) (hs : s.size ≤ 2500) :
    Calls Try.prog 7 #[.string s] w fun e w' => e = .returned (.bool true) ∧ Below w.heap.size w w' := by
  obtain ⟨ro, co, uo, ho, rn, rt, ca, cb, ub, ht, N, T, U, L, C, m, ls, F⟩ := form_in s hs
  match ro, co, uo, ho, F with
  | false, false, false, false, F => exact form_0000 s w hs rn rt ca cb ub ht N T U L C m ls F
  | false, false, false, true, F => exact form_0001 s w hs rn rt ca cb ub ht N T U L C m ls F
  | false, false, true, false, F => exact form_0010 s w hs rn rt ca cb ub ht N T U L C m ls F
  | false, false, true, true, F => exact form_0011 s w hs rn rt ca cb ub ht N T U L C m ls F
  | false, true, false, false, F => exact form_0100 s w hs rn rt ca cb ub ht N T U L C m ls F
  | false, true, false, true, F => exact form_0101 s w hs rn rt ca cb ub ht N T U L C m ls F
  | false, true, true, false, F => exact form_0110 s w hs rn rt ca cb ub ht N T U L C m ls F
  | false, true, true, true, F => exact form_0111 s w hs rn rt ca cb ub ht N T U L C m ls F
  | true, false, false, false, F => exact form_1000 s w hs rn rt ca cb ub ht N T U L C m ls F
  | true, false, false, true, F => exact form_1001 s w hs rn rt ca cb ub ht N T U L C m ls F
  | true, false, true, false, F => exact form_1010 s w hs rn rt ca cb ub ht N T U L C m ls F
  | true, false, true, true, F => exact form_1011 s w hs rn rt ca cb ub ht N T U L C m ls F
  | true, true, false, false, F => exact form_1100 s w hs rn rt ca cb ub ht N T U L C m ls F
  | true, true, false, true, F => exact form_1101 s w hs rn rt ca cb ub ht N T U L C m ls F
  | true, true, true, false, F => exact form_1110 s w hs rn rt ca cb ub ht N T U L C m ls F
  | true, true, true, true, F => exact form_1111 s w hs rn rt ca cb ub ht N T U L C m ls F
end Go.Proofs.Ytcafjmaimohljaa
