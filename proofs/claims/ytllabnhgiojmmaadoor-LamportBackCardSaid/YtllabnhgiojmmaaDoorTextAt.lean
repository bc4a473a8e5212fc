/-
  The bytes of two texts, one behind the other.
-/
import Derived.Test.YtllabnhgiojmmaaDoorShaS
namespace Go.Proofs.YtllabnhgiojmmaaDoor
open Go.RowKit
set_option linter.unusedVariables false

theorem getb_left (a b : ByteArray) (i : Nat) (h : i < a.size) : (a ++ b).get! i = a.get! i := by
  rw [get_elem _ i (by rw [ByteArray.size_append]; omega), get_elem a i h]
  exact ByteArray.getElem_append_left h
theorem getb_right (a b : ByteArray) (i : Nat) (h : a.size ≤ i) (h2 : i < a.size + b.size) : (a ++ b).get! i = b.get! (i - a.size) := by
  rw [get_elem _ i (by rw [ByteArray.size_append]; omega), get_elem b (i - a.size) (by omega)]
  exact ByteArray.getElem_append_right h
end Go.Proofs.YtllabnhgiojmmaaDoor
