/-
  KeysA1.
-/
import Derived.Test.YtgnkdkehooagpaaDoorPk27
namespace Go.Proofs.YtgnkdkehooagpaaDoor
open Go.RowKit
set_option maxRecDepth 100000

namespace Fast
def leaf2 : Nat := 38480844488584656651261700716189030064632038893970349044591447321801181205165
theorem leaf2_is : keyNum 564466076876802 7 256 = leaf2 := by kernel_rfl
def leaf3 : Nat := 44415044636417535913821217190053721864695985686248939466576678107726916661855
theorem leaf3_is : keyNum 564466076876803 7 256 = leaf3 := by kernel_rfl
end Fast
end Go.Proofs.YtgnkdkehooagpaaDoor
