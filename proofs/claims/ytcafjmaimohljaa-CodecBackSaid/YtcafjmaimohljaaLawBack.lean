/-
  The walk of the statement CodecBack: it returns true, for every number, text and list; what it makes is new memory, nothing that was there changes.
-/
import Derived.Test.YtcafjmaimohljaaCoded
import Derived.Test.YtcafjmaimohljaaCodecFacts
import Derived.Test.YtcafjmaimohljaaSame
namespace Go.Proofs.Ytcafjmaimohljaa
open Go.RowKit
set_option linter.unusedVariables false

set_option maxHeartbeats 1000000 in
set_option maxRecDepth 100000 in
theorem backlaw_long (n : Int) (s : ByteArray) (A : Option Addr) (m c : Nat) (w : World) (hs : s.size ≤ maxLen) (hm : m ≤ maxLen) (h : 500 < s.size ∨ 64 < m) :
    Calls Try.prog 5 #[.int .u64 n, .string s, .slice A m c] w fun e w' => e = .returned (.bool true) ∧ Below w.heap.size w w' := by
  unfold maxLen at hs hm
  rcases Nat.lt_or_ge 500 s.size with h1 | h1
  · have d1 : decide (500 < (s.size : Int)) = true := decide_eq_true (by omega)
    go_enter Try.func5, Try.ntmps5
    go_wp2_with (go_at_call 8; (with_reducible refine (coded_any _).mono ?_); rintro e w1 ⟨rfl, hb⟩)
    go_ret
    exact ⟨rfl, hb⟩
  · have d1 : decide (500 < (s.size : Int)) = false := decide_eq_false (by omega)
    have d2 : decide (64 < (m : Int)) = true := decide_eq_true (by omega)
    clear h
    go_enter Try.func5, Try.ntmps5
    go_wp2_with (go_at_call 8; (with_reducible refine (coded_any _).mono ?_); rintro e w1 ⟨rfl, hb⟩)
    go_ret
    exact ⟨rfl, hb⟩
set_option maxHeartbeats 8000000 in
set_option maxRecDepth 100000 in
theorem backlaw_short (n : Nat) (hn : n < 18446744073709551616) (s : ByteArray) (hs : s.size ≤ 500) (ls : List (List Int)) (hls : hashes ls) (A : Option Addr) (c : Nat) (w : World) (hA : HL w w.heap.size A ls) (hm : ls.length ≤ 64) :
    Calls Try.prog 5 #[.int .u64 (n : Int), .string s, .slice A ls.length c] w fun e w' => e = .returned (.bool true) ∧ Below w.heap.size w w' := by
  obtain ⟨N, hN⟩ : ∃ T, Hid (T = numS n) := ⟨_, Lib.hid rfl⟩
  obtain ⟨T, hT⟩ : ∃ T, Hid (T = textS s) := ⟨_, Lib.hid rfl⟩
  obtain ⟨L, hL⟩ : ∃ L, Hid (L = listS ls) := ⟨_, Lib.hid rfl⟩
  have hN2 : N.size ≤ 10 := by rw [hN.out]; exact numS_size n hn
  have hT2 : T.size ≤ 600 := by
    have := numS_size s.size (by omega)
    rw [hT.out]; unfold textS; rw [ByteArray.size_append]; omega
  have hL2 : L.size ≤ 3000 := by
    have := numS_size ls.length (by omega)
    rw [hL.out, listS_is ls (by omega), ByteArray.size_append, strOfNums_size, flat_length hls]; omega
  obtain ⟨Z, hZ⟩ : ∃ Z, Hid (Z = N ++ T ++ L ++ s) := ⟨_, Lib.hid rfl⟩
  obtain ⟨Y, hY⟩ : ∃ Y, Hid (Y = T ++ (L ++ s)) := ⟨_, Lib.hid rfl⟩
  obtain ⟨X, hX⟩ : ∃ X, Hid (X = L ++ s) := ⟨_, Lib.hid rfl⟩
  have hXs : X.size ≤ maxLen := by rw [hX.out, ByteArray.size_append]; unfold maxLen; omega
  have hYs : Y.size ≤ maxLen := by rw [hY.out, ByteArray.size_append, ByteArray.size_append]; unfold maxLen; omega
  have hZs : Z.size ≤ maxLen := by rw [hZ.out, ByteArray.size_append, ByteArray.size_append, ByteArray.size_append]; unfold maxLen; omega
  have hZY : Z = N ++ Y := by rw [hZ.out, hY.out, ByteArray.append_assoc, ByteArray.append_assoc]
  have a1 := join_text N T (by omega)
  have a2 := join_text (N ++ T) L (by rw [ByteArray.size_append]; omega)
  have a3 : ∀ W, (Op.stringOp .add (N ++ T ++ L) s).run Try.prog W = .ok (.string Z) W := fun W => by
    rw [hZ.out]; exact join_text (N ++ T ++ L) s (by rw [ByteArray.size_append, ByteArray.size_append]; omega) W
  have X1 : Hid (∀ W, Calls Try.prog 11 #[.int .u64 (n : Int)] W fun e w' => e = .returned (.string N) ∧ Below W.heap.size W w') := Lib.hid fun W => by rw [hN.out]; exact num_any n hn W
  have X2 : Hid (∀ W, Calls Try.prog 13 #[.string s] W fun e w' => e = .returned (.string T) ∧ Below W.heap.size W w') := Lib.hid fun W => by rw [hT.out]; exact text_any s (by omega) W
  obtain ⟨m, hM⟩ : ∃ m, Hid (m = ls.length) := ⟨_, Lib.hid rfl⟩
  have HA := Lib.hid hA
  have HS := Lib.hid hls
  have X3 : Hid (∀ W, HL W W.heap.size A ls → Calls Try.prog 15 #[.slice A m c] W fun e w' => e = .returned (.string L) ∧ Below W.heap.size W w') := Lib.hid fun W hW => by rw [hM.out, hL.out]; exact hashes_any ls hls A c W hW (by unfold maxLen; omega)
  have H5 : Hid (∀ W, Below w.heap.size w W → HL W W.heap.size A ls) := Lib.hid fun W hW => (HA.out.next hW (Nat.le_refl _)).more hW.size
  have X4 : Hid (∀ W, Calls Try.prog 17 #[.string Z] W fun e w' => e = .returned (.tuple #[.int .u64 (n : Int), .string Y, .bool true]) ∧ Below W.heap.size W w') := Lib.hid fun W => by
    have h := calls_below (read_any Z hZs W)
    rw [hZY, hN.out, read_numV n hn Y, ← hN.out, ← hZY] at h
    exact h
  have X5 : Hid (∀ W, Calls Try.prog 19 #[.string Y] W fun e w' => e = .returned (.tuple #[.string s, .string X, .bool true]) ∧ Below W.heap.size W w') := Lib.hid fun W => by
    have h := calls_below (cut_any Y hYs W)
    have e : cutV Y = .tuple #[.string s, .string X, .bool true] := by rw [hY.out, hT.out, cut_textV s (L ++ s) (by omega), ← hX.out]
    rw [e] at h
    exact h
  have X6 : Hid (∀ W, Calls Try.prog 23 #[.string X] W fun e w' => ∃ B d, e = .returned (.tuple #[.slice B m d, .string s, .bool true]) ∧ HL w' w'.heap.size B ls ∧ Below W.heap.size W w') := Lib.hid fun W => by
    refine (unhashes_any X hXs W).mono fun e w' ⟨h1, h2⟩ => ?_
    obtain ⟨e1, e2⟩ := unhs_list ls hls (by omega) s
    rw [hX.out, hL.out, e1] at h2
    obtain ⟨B, d, he, hB⟩ := h2
    rw [e2] at he hB
    rw [list_rest ls hls s] at he
    rw [list_chunk ls hls s] at hB
    exact ⟨B, d, by rw [hM.out]; exact he, hB, h1⟩
  have X9 : Hid (∀ A B c d W, HL W W.heap.size A ls → HL W W.heap.size B ls → Calls Try.prog 25 #[.slice A m c, .slice B m d] W fun e w' => e = .returned (.bool true) ∧ Below W.heap.size W w') := Lib.hid fun A B c d W h1 h2 =>
    calls_below (same_any ls HS.out m hM.out (by rw [hM.out]; unfold maxLen; omega) A B c d W h1 h2)
  rw [← hM.out] at hm ⊢
  have d1 : decide (500 < (s.size : Int)) = false := decide_eq_false (by omega)
  have d2 : decide (64 < (m : Int)) = false := decide_eq_false (by omega)
  have HB := Lib.hid (Below.refl w.heap.size w)
  clear hA hls hZY hXs hYs hZs
  go_enter Try.func5, Try.ntmps5
  go_wp2_with (first
    | (go_at_call 11; (with_reducible refine (X1.out _).mono ?_); rintro e w1 ⟨rfl, hb⟩; have HB := Lib.hid (below_new HB.out hb); clear hb)
    | (go_at_call 13; (with_reducible refine (X2.out _).mono ?_); rintro e w2 ⟨rfl, hb⟩; have HB := Lib.hid (below_new HB.out hb); clear hb)
    | (go_at_call 15; (with_reducible refine (X3.out _ (H5.out _ HB.out)).mono ?_); rintro e w3 ⟨rfl, hb⟩; have HB := Lib.hid (below_new HB.out hb); clear hb)
    | (go_at_call 17; (with_reducible refine (X4.out _).mono ?_); rintro e w4 ⟨rfl, hb⟩; have HB := Lib.hid (below_new HB.out hb); clear hb)
    | (go_at_call 19; (with_reducible refine (X5.out _).mono ?_); rintro e w5 ⟨rfl, hb⟩; have HB := Lib.hid (below_new HB.out hb); clear hb)
    | (go_at_call 23; (with_reducible refine (X6.out _).mono ?_); rintro e w6 ⟨B, d, rfl, hL, hb⟩; have HB := Lib.hid (below_new HB.out hb); have L1 := Lib.hid hL; have L2 := Lib.hid (H5.out _ HB.out); clear hb hL)
    | (go_at_call 25; (with_reducible refine (X9.out _ _ _ _ _ L1.out L2.out).mono ?_); rintro e w11 ⟨rfl, hb⟩; have HB := Lib.hid (below_new HB.out hb); clear hb)
    | (go_at_call 8; (with_reducible refine (coded_any _).mono ?_); rintro e w7 ⟨rfl, hb⟩; have HB := Lib.hid (below_new HB.out hb); clear hb))
  go_ret
  exact ⟨rfl, HB.out⟩
end Go.Proofs.Ytcafjmaimohljaa
