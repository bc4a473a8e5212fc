/-
  The walks of the document's Cut and of both Text (layer 3); what they make is new memory, nothing that was there changes.
-/
import Derived.Test.YtcafjmaimohljaaRefRead
import Derived.Test.YtcafjmaimohljaaCut
namespace Go.Proofs.Ytcafjmaimohljaa
open Go.RowKit
set_option linter.unusedVariables false

set_option maxHeartbeats 1000000 in
set_option maxRecDepth 100000 in
theorem refCut_any (s : ByteArray) (hs : s.size ≤ maxLen) (w : World) :
    Calls Try.prog 20 #[.string s] w fun e w' => e = .returned (cutV s) ∧ Below w.heap.size w w' := by
  rcases hR : readR s with _ | ⟨n, p⟩
  · have hV := Lib.hid (cutV_none s hR)
    have hc := refRead_any s hs w
    rw [readV_no s hR] at hc
    clear hR
    go_enter Try.func20, Try.ntmps20
    go_wp2_with (go_at_call 18; (with_reducible refine hc.mono ?_); rintro e w1 ⟨rfl, hb⟩)
    go_ret3
    exact ⟨ret_is hV.out, hb⟩
  · have hc := refRead_any s hs w
    rw [readV_yes s n p hR] at hc
    have hn := (readR_lt s n p hR).1
    obtain ⟨T, hT⟩ : ∃ T, Hid (T = s.extract p s.size) := ⟨_, Lib.hid rfl⟩
    have hTs : T.size ≤ 9223372036854775807 := by rw [hT.out, ByteArray.size_extract]; unfold maxLen at hs; omega
    rw [← hT.out] at hc
    by_cases hle : n ≤ T.size
    · have hV := Lib.hid (cutV_yes s n p hR (by rw [← hT.out]; exact hle))
      rw [← hT.out] at hV
      have hw : IntKind.i64.wrap (n : Int) = (n : Int) := by rw [IntKind.wrap_i64]; omega
      clear hR hs
      go_enter Try.func20, Try.ntmps20
      go_wp2_with (go_at_call 18; (with_reducible refine hc.mono ?_); rintro e w1 ⟨rfl, hb⟩)
      go_quiet (fail)
      go_wp2
      go_ret3
      exact ⟨ret_is hV.out, below_drewN hb _⟩
    · have hV := Lib.hid (cutV_great s n p hR (by rw [← hT.out]; exact hle))
      clear hR hs
      go_enter Try.func20, Try.ntmps20
      go_wp2_with (go_at_call 18; (with_reducible refine hc.mono ?_); rintro e w1 ⟨rfl, hb⟩)
      go_ret3
      exact ⟨ret_is hV.out, hb⟩
/-- A text with its length ahead. -/
def textS (s : ByteArray) : ByteArray := numS s.size ++ s
set_option maxHeartbeats 1000000 in
set_option maxRecDepth 100000 in
theorem text_any (s : ByteArray) (hs : s.size ≤ 4611686018427387904) (w : World) :
    Calls Try.prog 13 #[.string s] w fun e w' => e = .returned (.string (textS s)) ∧ Below w.heap.size w w' := by
  have hc := num_any s.size (by omega) w
  have ha := join_text (numS s.size) s (by have := numS_size s.size (by omega); omega)
  go_enter Try.func13, Try.ntmps13
  go_wp2_with (go_at_call 11; (with_reducible refine hc.mono ?_); rintro e w1 ⟨rfl, hb⟩)
  go_ret
  exact ⟨rfl, hb⟩
set_option maxHeartbeats 1000000 in
set_option maxRecDepth 100000 in
theorem refText_any (s : ByteArray) (hs : s.size ≤ 4611686018427387904) (w : World) :
    Calls Try.prog 14 #[.string s] w fun e w' => e = .returned (.string (textS s)) ∧ Below w.heap.size w w' := by
  have hc := refNum_any s.size (by omega) w
  have ha := join_text (numS s.size) s (by have := numS_size s.size (by omega); omega)
  go_enter Try.func14, Try.ntmps14
  go_wp2_with (go_at_call 12; (with_reducible refine hc.mono ?_); rintro e w1 ⟨rfl, hb⟩)
  go_ret
  exact ⟨rfl, hb⟩
end Go.Proofs.Ytcafjmaimohljaa
