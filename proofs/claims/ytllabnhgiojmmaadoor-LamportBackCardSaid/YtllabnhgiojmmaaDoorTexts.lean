/-
  The walks of both Text (layer 3): a text with its length ahead; what they make is new memory, nothing that was there changes. Cut out of XRefCut for seats that lack what else stands there.
-/
import Derived.Test.YtllabnhgiojmmaaDoorRefNumB
namespace Go.Proofs.YtllabnhgiojmmaaDoor
open Go.RowKit
set_option linter.unusedVariables false
set_option maxRecDepth 100000

/-- A text with its length ahead. -/
def textS (s : ByteArray) : ByteArray := numS s.size ++ s
set_option maxHeartbeats 1000000 in
set_option maxRecDepth 100000 in
theorem text_any (s : ByteArray) (hs : s.size ≤ 4611686018427387904) (w : World) :
    Calls Tryd.prog 33 #[.string s] w fun e w' => e = .returned (.string (textS s)) ∧ Below w.heap.size w w' := by
  have hc := num_any s.size (by omega) w
  have ha := join_text (numS s.size) s (by have := numS_size s.size (by omega); omega)
  go_enter Tryd.func33, Tryd.ntmps33
  go_wp2_with (go_at_call 42; (with_reducible refine hc.mono ?_); rintro e w1 ⟨rfl, hb⟩)
  go_ret
  exact ⟨rfl, hb⟩
set_option maxHeartbeats 1000000 in
set_option maxRecDepth 100000 in
theorem refText_any (s : ByteArray) (hs : s.size ≤ 4611686018427387904) (w : World) :
    Calls Tryd.prog 28 #[.string s] w fun e w' => e = .returned (.string (textS s)) ∧ Below w.heap.size w w' := by
  have hc := refNum_any s.size (by omega) w
  have ha := join_text (numS s.size) s (by have := numS_size s.size (by omega); omega)
  go_enter Tryd.func28, Tryd.ntmps28
  go_wp2_with (go_at_call 39; (with_reducible refine hc.mono ?_); rintro e w1 ⟨rfl, hb⟩)
  go_ret
  exact ⟨rfl, hb⟩
end Go.Proofs.YtllabnhgiojmmaaDoor
