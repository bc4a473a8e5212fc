/-
  The statements of layer 2 at texts that are too long for them: they ask the examples alone, and return true. Condition: the two tables as they were laid.
-/
import Derived.Test.YthagpnakcffjeaaDoorShaLawA
namespace Go.Proofs.YthagpnakcffjeaaDoor
open Go.RowKit
set_option linter.unusedVariables false

set_option maxHeartbeats 1000000 in
set_option maxRecDepth 100000 in
theorem hexlaw_long (l : List Int) (s : ByteArray) (w : World) (hT : Tab w) (hs : s.size ≤ maxLen) (h : 200 < s.size) :
    Calls Tryd.prog 4 #[.agg (nums .u8 l), .string s] w fun e w' => e = .returned (.bool true) ∧ Below w.heap.size w w' := by
  unfold maxLen at hs
  have HT := Lib.hid hT
  have HB : Hid (Below w.heap.size w (w.alloc (.cells (nums .u8 l) 24))) := Lib.hid ((Below.refl _ _).alloc (Nat.le_refl _) _)
  clear hT
  go_enter Tryd.func4, Tryd.ntmps4
  go_wp2_with (go_at_call 10; (with_reducible refine (hashed_any _ (HT.out.next HB.out)).mono ?_); rintro e w3 ⟨rfl, hb3⟩)
  go_ret
  exact ⟨rfl, below_new HB.out hb3⟩
set_option maxHeartbeats 1000000 in
set_option maxRecDepth 100000 in
theorem sumlaw_long (s : ByteArray) (w : World) (hT : Tab w) (hs : s.size ≤ maxLen) (h : 3000 < s.size) :
    Calls Tryd.prog 3 #[.string s] w fun e w' => e = .returned (.bool true) ∧ Below w.heap.size w w' := by
  unfold maxLen at hs
  have HT := Lib.hid hT
  clear hT
  go_enter Tryd.func3, Tryd.ntmps3
  go_wp2_with (go_at_call 10; (with_reducible refine (hashed_any _ HT.out).mono ?_); rintro e w3 ⟨rfl, hb3⟩)
  go_ret
  exact ⟨rfl, hb3⟩
end Go.Proofs.YthagpnakcffjeaaDoor
