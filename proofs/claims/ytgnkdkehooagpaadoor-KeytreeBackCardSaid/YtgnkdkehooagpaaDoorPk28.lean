/-
  KeysA0.
-/
import Derived.Test.YtgnkdkehooagpaaDoorPk27
namespace Go.Proofs.YtgnkdkehooagpaaDoor
open Go.RowKit
set_option maxRecDepth 100000

namespace Fast
def leaf0 : Nat := 89819246638150608726245822439667506611082632610764670270059810727531214703927
theorem leaf0_is : keyNum 564466076876800 7 256 = leaf0 := by kernel_rfl
def leaf1 : Nat := 101157795244192003804848107070844512984187424385648070517918784831963145380652
theorem leaf1_is : keyNum 564466076876801 7 256 = leaf1 := by kernel_rfl
end Fast
end Go.Proofs.YtgnkdkehooagpaaDoor
