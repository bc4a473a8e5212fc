/-
  The walk of the statement CodecCut: it returns true, for every text, list and number; what it makes is new memory, nothing that was there changes.
-/
import Derived.Test.YtcafjmaimohljaaCoded
import Derived.Test.YtcafjmaimohljaaCodecFacts
namespace Go.Proofs.Ytcafjmaimohljaa
open Go.RowKit
set_option linter.unusedVariables false

set_option maxHeartbeats 1000000 in
set_option maxRecDepth 100000 in
theorem cutlaw_long (s : ByteArray) (A : Option Addr) (m c : Nat) (k : Int) (w : World) (hs : s.size ≤ maxLen) (hm : m ≤ maxLen) (h : 500 < s.size ∨ 64 < m) :
    Calls Try.prog 6 #[.string s, .slice A m c, .int .u16 k] w fun e w' => e = .returned (.bool true) ∧ Below w.heap.size w w' := by
  unfold maxLen at hs hm
  rcases Nat.lt_or_ge 500 s.size with h1 | h1
  · have d1 : decide (500 < (s.size : Int)) = true := decide_eq_true (by omega)
    go_enter Try.func6, Try.ntmps6
    go_wp2_with (go_at_call 8; (with_reducible refine (coded_any _).mono ?_); rintro e w1 ⟨rfl, hb⟩)
    go_ret
    exact ⟨rfl, hb⟩
  · have d1 : decide (500 < (s.size : Int)) = false := decide_eq_false (by omega)
    have d2 : decide (64 < (m : Int)) = true := decide_eq_true (by omega)
    clear h
    go_enter Try.func6, Try.ntmps6
    go_wp2_with (go_at_call 8; (with_reducible refine (coded_any _).mono ?_); rintro e w1 ⟨rfl, hb⟩)
    go_ret
    exact ⟨rfl, hb⟩
set_option maxHeartbeats 4000000 in
set_option maxRecDepth 100000 in
theorem cutlaw_short (s : ByteArray) (hs : s.size ≤ 500) (ls : List (List Int)) (hls : hashes ls) (A : Option Addr) (c k : Nat) (hk : k < 65536) (w : World) (hA : HL w w.heap.size A ls) (hm : ls.length ≤ 64) :
    Calls Try.prog 6 #[.string s, .slice A ls.length c, .int .u16 (k : Int)] w fun e w' => e = .returned (.bool true) ∧ Below w.heap.size w w' := by
  obtain ⟨T, hT⟩ : ∃ T, Hid (T = textS s) := ⟨_, Lib.hid rfl⟩
  obtain ⟨L, hL⟩ : ∃ L, Hid (L = listS ls) := ⟨_, Lib.hid rfl⟩
  have hT1 : 0 < T.size := by
    have e := numS_len s.size
    have := Codec.numL_pos s.size
    rw [hT.out]; unfold textS; rw [ByteArray.size_append]; omega
  have hT2 : T.size ≤ 600 := by
    have := numS_size s.size (by omega)
    rw [hT.out]; unfold textS; rw [ByteArray.size_append]; omega
  have hL1 : 0 < L.size := by
    have e := numS_len ls.length
    have := Codec.numL_pos ls.length
    rw [hL.out, listS_is ls (by omega), ByteArray.size_append]; omega
  have hL2 : L.size ≤ 3000 := by
    have := numS_size ls.length (by omega)
    rw [hL.out, listS_is ls (by omega), ByteArray.size_append, strOfNums_size, flat_length hls]; omega
  obtain ⟨i, hi, hi2⟩ : ∃ i : Nat, (k : Int) % (T.size : Int) = (i : Int) ∧ i < T.size := ⟨k % T.size, by rw [Int.natCast_emod], Nat.mod_lt _ hT1⟩
  obtain ⟨j, hj, hj2⟩ : ∃ j : Nat, (k : Int) % (L.size : Int) = (j : Int) ∧ j < L.size := ⟨k % L.size, by rw [Int.natCast_emod], Nat.mod_lt _ hL1⟩
  have X1 : Hid (∀ W, Calls Try.prog 13 #[.string s] W fun e w' => e = .returned (.string T) ∧ Below W.heap.size W w') := Lib.hid fun W => by rw [hT.out]; exact text_any s (by omega) W
  obtain ⟨m, hM⟩ : ∃ m, Hid (m = ls.length) := ⟨_, Lib.hid rfl⟩
  have HA := Lib.hid hA
  have X2 : Hid (∀ W, HL W W.heap.size A ls → Calls Try.prog 15 #[.slice A m c] W fun e w' => e = .returned (.string L) ∧ Below W.heap.size W w') := Lib.hid fun W hW => by rw [hM.out, hL.out]; exact hashes_any ls hls A c W hW (by unfold maxLen; omega)
  have H5 : Hid (∀ W, Below w.heap.size w W → HL W W.heap.size A ls) := Lib.hid fun W hW => (HA.out.next hW (Nat.le_refl _)).more hW.size
  have X3 : Hid (∀ W, Calls Try.prog 19 #[.string (T.extract 0 i)] W fun e w' => e = .returned (.tuple #[.string ⟨#[]⟩, .string ⟨#[]⟩, .bool false]) ∧ Below W.heap.size W w') := Lib.hid fun W => by
    have h := calls_below (cut_any (T.extract 0 i) (by rw [ByteArray.size_extract]; unfold maxLen; omega) W)
    rw [hT.out, cut_short s (by omega) i (by rw [← hT.out]; exact hi2), ← hT.out] at h
    exact h
  have X4 : Hid (∀ W, Calls Try.prog 23 #[.string (L.extract 0 j)] W fun e w' => e = .returned (.tuple #[.slice none 0 0, .string ⟨#[]⟩, .bool false]) ∧ Below W.heap.size W w') := Lib.hid fun W => by
    refine (unhashes_any (L.extract 0 j) (by rw [ByteArray.size_extract]; unfold maxLen; omega) W).mono fun e w' ⟨h1, h2⟩ => ⟨?_, h1⟩
    rw [hL.out, unhs_short ls hls (by omega) j (by rw [← hL.out]; exact hj2)] at h2
    exact h2
  rw [← hM.out] at hm ⊢
  have d1 : decide (500 < (s.size : Int)) = false := decide_eq_false (by omega)
  have d2 : decide (64 < (m : Int)) = false := decide_eq_false (by omega)
  have d3 : ((T.size : Int) == 0) = false := beq_eq_false_iff_ne.2 (by omega)
  have d4 : ((L.size : Int) == 0) = false := beq_eq_false_iff_ne.2 (by omega)
  have HB := Lib.hid (Below.refl w.heap.size w)
  clear hA hls
  go_enter Try.func6, Try.ntmps6
  go_wp2_with (first
    | (go_at_call 13; (with_reducible refine (X1.out _).mono ?_); rintro e w1 ⟨rfl, hb⟩; have HB := Lib.hid (below_new HB.out hb); clear hb)
    | (go_at_call 15; (with_reducible refine (X2.out _ (H5.out _ HB.out)).mono ?_); rintro e w2 ⟨rfl, hb⟩; have HB := Lib.hid (below_new HB.out hb); clear hb)
    | (go_at_call 19; (with_reducible refine (X3.out _).mono ?_); rintro e w3 ⟨rfl, hb⟩; have HB := Lib.hid (below_new HB.out hb); clear hb)
    | (go_at_call 23; (with_reducible refine (X4.out _).mono ?_); rintro e w4 ⟨rfl, hb⟩; have HB := Lib.hid (below_new HB.out hb); clear hb)
    | (go_at_call 8; (with_reducible refine (coded_any _).mono ?_); rintro e w7 ⟨rfl, hb⟩; have HB := Lib.hid (below_new HB.out hb); clear hb))
  go_ret
  exact ⟨rfl, HB.out⟩
end Go.Proofs.Ytcafjmaimohljaa
