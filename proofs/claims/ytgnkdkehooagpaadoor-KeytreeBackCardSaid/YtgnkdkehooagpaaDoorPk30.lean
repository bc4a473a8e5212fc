/-
  KeysA2.
-/
import Derived.Test.YtgnkdkehooagpaaDoorPk27
namespace Go.Proofs.YtgnkdkehooagpaaDoor
open Go.RowKit
set_option maxRecDepth 100000

namespace Fast
def leaf4 : Nat := 3767928266457981276019325468537075625612987677763561498991395086584476035694
theorem leaf4_is : keyNum 564466076876804 7 256 = leaf4 := by kernel_rfl
def leaf5 : Nat := 47673142067250275193772509658143003656037025461457167846448374718971049511024
theorem leaf5_is : keyNum 564466076876805 7 256 = leaf5 := by kernel_rfl
end Fast
end Go.Proofs.YtgnkdkehooagpaaDoor
