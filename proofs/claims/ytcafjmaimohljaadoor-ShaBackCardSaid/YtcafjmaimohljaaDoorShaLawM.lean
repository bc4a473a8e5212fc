/-
  The statement ShaBack at a text that is too long for it: it asks the examples alone, and returns true. Condition: the two tables as they were laid.
-/
import Derived.Test.YtcafjmaimohljaaDoorShaLawA
namespace Go.Proofs.YtcafjmaimohljaaDoor
open Go.RowKit
set_option linter.unusedVariables false

set_option maxHeartbeats 1000000 in
set_option maxRecDepth 100000 in
theorem backlaw_long (l : List Int) (s : ByteArray) (p c : Int) (w : World) (hT : Tab w) (hs : s.size ≤ maxLen) (h : 100 < s.size) :
    Calls Tryd.prog 5 #[.agg (nums .u8 l), .string s, .agg #[.int .u8 p, .int .u8 c]] w fun e w' => e = .returned (.bool true) ∧ Below w.heap.size w w' := by
  unfold maxLen at hs
  have HT := Lib.hid hT
  have HB : Hid (Below w.heap.size w ((w.alloc (.cells (nums .u8 l) 24)).alloc (.cells #[.int .u8 p, .int .u8 c] 31))) := Lib.hid (((Below.refl _ _).alloc (Nat.le_refl _) _).alloc (by simp) _)
  clear hT
  go_enter Tryd.func5, Tryd.ntmps5
  go_wp2_with (go_at_call 6; (with_reducible refine (hashed_any _ (HT.out.next HB.out)).mono ?_); rintro e w3 ⟨rfl, hb3⟩)
  go_ret
  exact ⟨rfl, below_new HB.out hb3⟩
end Go.Proofs.YtcafjmaimohljaaDoor
