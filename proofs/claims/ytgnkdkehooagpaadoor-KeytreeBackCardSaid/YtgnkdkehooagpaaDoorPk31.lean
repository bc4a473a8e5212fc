/-
  KeysA3.
-/
import Derived.Test.YtgnkdkehooagpaaDoorPk27
namespace Go.Proofs.YtgnkdkehooagpaaDoor
open Go.RowKit
set_option maxRecDepth 100000

namespace Fast
def leaf6 : Nat := 108171992458832801744602137456493930291627148819130071807202297771821612843568
theorem leaf6_is : keyNum 564466076876806 7 256 = leaf6 := by kernel_rfl
def leaf7 : Nat := 96300393828067748022005367243393713364863309149562616288738442011043703656319
theorem leaf7_is : keyNum 564466076876807 7 256 = leaf7 := by kernel_rfl
def leafx : Nat := 11945532257651027738559707589015592154893157361566958610703053025188025830251
theorem leafx_is : keyNum 564466076876803 7 14 = leafx := by kernel_rfl
end Fast
end Go.Proofs.YtgnkdkehooagpaaDoor
