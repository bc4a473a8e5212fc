/-
  DERIVED. GIVEN WITH THE SEED: THE CARDS: each row of YtfakimbneenfdaaDoorRows.lean that lists a variable, with what it lists TIED to the program's text (the seventh form; the later family's looks); each row that meets fmt, with fmt's text TOLD by the authors' own Lean function (tested against real Go, not proved from fmt's source: count such statements apart). THE CARD IS WHAT COUNTS. Prove the row's statement (the work); the ties are given (YtfakimbneenfdaaDoorTie.lean); close each card by the builder's one call (the guide's Derived/Test/ToyasCard.lean, 'card_holds'). Laid BY PROGRAM, IN A SANDBOX (cutbox-door.mjs). By AI agents, Wed Nov 11 2026. No macro, syntax, notation, axiom, sorry.
-/
import Derived.Test.YtfakimbneenfdaaDoorRows
import GoSem.ClaimSeven
namespace Go.Proofs.YtfakimbneenfdaaDoor
namespace Rows

/-- THE TIED CARD OF 'speculumlaw05.RangesTell'. -/
def rangesTellCard : Claim7 := { stood := { row := rangesTellRow, standIns := [], harness := (true, "3e84277f12d59ff0f4c1c60765f4f70dc67cd414df560e3f34d56e933518b56f"), looks := false }, kinds := [], alts := [], laidByText := true, laidKinds := [.data, .data], laidTests := true, laidLooks := .later }
def RangesTellCardSaid : Prop := Claim7.holds Tryd.pinned (.plain (OpenSpec.ofChange rangesTellSpec)) rangesTellCard

/-- THE TIED CARD OF 'speculumlaw05.RangesPart'. -/
def rangesPartCard : Claim7 := { stood := { row := rangesPartRow, standIns := [], harness := (true, "3e84277f12d59ff0f4c1c60765f4f70dc67cd414df560e3f34d56e933518b56f"), looks := false }, kinds := [], alts := [], laidByText := true, laidKinds := [.data, .data], laidTests := true, laidLooks := .later }
def RangesPartCardSaid : Prop := Claim7.holds Tryd.pinned (.plain (OpenSpec.ofChange rangesPartSpec)) rangesPartCard

/-- THE TIED CARD OF 'speculumlaw05.RangesSame'. -/
def rangesSameCard : Claim7 := { stood := { row := rangesSameRow, standIns := [], harness := (true, "3e84277f12d59ff0f4c1c60765f4f70dc67cd414df560e3f34d56e933518b56f"), looks := false }, kinds := [], alts := [], laidByText := true, laidKinds := [.data, .data], laidTests := true, laidLooks := .later }
def RangesSameCardSaid : Prop := Claim7.holds Tryd.pinned (.plain (OpenSpec.ofChange rangesSameSpec)) rangesSameCard

/-- THE TIED CARD OF 'speculumlaw05.RangesFull'. -/
def rangesFullCard : Claim7 := { stood := { row := rangesFullRow, standIns := [], harness := (true, "3e84277f12d59ff0f4c1c60765f4f70dc67cd414df560e3f34d56e933518b56f"), looks := false }, kinds := [], alts := [], laidByText := true, laidKinds := [.data, .data], laidTests := true, laidLooks := .later }
def RangesFullCardSaid : Prop := Claim7.holds Tryd.pinned (.plain (OpenSpec.ofChange rangesFullSpec)) rangesFullCard

/-- THE TIED CARD OF 'speculumlaw06.PathsPath'. -/
def pathsPathCard : Claim7 := { stood := { row := pathsPathRow, standIns := [], harness := (true, "3e84277f12d59ff0f4c1c60765f4f70dc67cd414df560e3f34d56e933518b56f"), looks := false }, kinds := [], alts := [], laidByText := true, laidKinds := [.data, .data], laidTests := true, laidLooks := .later }
def PathsPathCardSaid : Prop := Claim7.holds Tryd.pinned (.plain (OpenSpec.ofChange pathsPathSpec)) pathsPathCard

/-- THE TIED CARD OF 'speculumlaw06.PathsCheck'. -/
def pathsCheckCard : Claim7 := { stood := { row := pathsCheckRow, standIns := [], harness := (true, "3e84277f12d59ff0f4c1c60765f4f70dc67cd414df560e3f34d56e933518b56f"), looks := false }, kinds := [], alts := [], laidByText := true, laidKinds := [.data, .data], laidTests := true, laidLooks := .later }
def PathsCheckCardSaid : Prop := Claim7.holds Tryd.pinned (.plain (OpenSpec.ofChange pathsCheckSpec)) pathsCheckCard

/-- THE TIED CARD OF 'speculumlaw06.PathsBack'. -/
def pathsBackCard : Claim7 := { stood := { row := pathsBackRow, standIns := [], harness := (true, "3e84277f12d59ff0f4c1c60765f4f70dc67cd414df560e3f34d56e933518b56f"), looks := false }, kinds := [], alts := [], laidByText := true, laidKinds := [.data, .data], laidTests := true, laidLooks := .later }
def PathsBackCardSaid : Prop := Claim7.holds Tryd.pinned (.plain (OpenSpec.ofChange pathsBackSpec)) pathsBackCard

/-- THE TIED CARD OF 'speculumlaw06.PathsOther'. -/
def pathsOtherCard : Claim7 := { stood := { row := pathsOtherRow, standIns := [], harness := (true, "3e84277f12d59ff0f4c1c60765f4f70dc67cd414df560e3f34d56e933518b56f"), looks := false }, kinds := [], alts := [], laidByText := true, laidKinds := [.data, .data], laidTests := true, laidLooks := .later }
def PathsOtherCardSaid : Prop := Claim7.holds Tryd.pinned (.plain (OpenSpec.ofChange pathsOtherSpec)) pathsOtherCard

/-- THE SECOND FORM's CARD OF 'speculumlaw05.RangesTell'. -/
def rangesTellUptoCard : Claim7 := { stood := { row := rangesTellUptoRow, standIns := [], harness := (true, "3e84277f12d59ff0f4c1c60765f4f70dc67cd414df560e3f34d56e933518b56f"), looks := false }, kinds := [], alts := [], laidByText := true, laidKinds := [.data, .data], laidTests := true, laidLooks := .later }
def RangesTellUptoCardSaid : Prop := Claim7.holds Tryd.pinned (.plain (OpenSpec.upto rangesTellSpec)) rangesTellUptoCard

/-- THE SECOND FORM's CARD OF 'speculumlaw05.RangesPart'. -/
def rangesPartUptoCard : Claim7 := { stood := { row := rangesPartUptoRow, standIns := [], harness := (true, "3e84277f12d59ff0f4c1c60765f4f70dc67cd414df560e3f34d56e933518b56f"), looks := false }, kinds := [], alts := [], laidByText := true, laidKinds := [.data, .data], laidTests := true, laidLooks := .later }
def RangesPartUptoCardSaid : Prop := Claim7.holds Tryd.pinned (.plain (OpenSpec.upto rangesPartSpec)) rangesPartUptoCard

/-- THE SECOND FORM's CARD OF 'speculumlaw05.RangesSame'. -/
def rangesSameUptoCard : Claim7 := { stood := { row := rangesSameUptoRow, standIns := [], harness := (true, "3e84277f12d59ff0f4c1c60765f4f70dc67cd414df560e3f34d56e933518b56f"), looks := false }, kinds := [], alts := [], laidByText := true, laidKinds := [.data, .data], laidTests := true, laidLooks := .later }
def RangesSameUptoCardSaid : Prop := Claim7.holds Tryd.pinned (.plain (OpenSpec.upto rangesSameSpec)) rangesSameUptoCard

/-- THE SECOND FORM's CARD OF 'speculumlaw05.RangesFull'. -/
def rangesFullUptoCard : Claim7 := { stood := { row := rangesFullUptoRow, standIns := [], harness := (true, "3e84277f12d59ff0f4c1c60765f4f70dc67cd414df560e3f34d56e933518b56f"), looks := false }, kinds := [], alts := [], laidByText := true, laidKinds := [.data, .data], laidTests := true, laidLooks := .later }
def RangesFullUptoCardSaid : Prop := Claim7.holds Tryd.pinned (.plain (OpenSpec.upto rangesFullSpec)) rangesFullUptoCard

/-- THE SECOND FORM's CARD OF 'speculumlaw06.PathsPath'. -/
def pathsPathUptoCard : Claim7 := { stood := { row := pathsPathUptoRow, standIns := [], harness := (true, "3e84277f12d59ff0f4c1c60765f4f70dc67cd414df560e3f34d56e933518b56f"), looks := false }, kinds := [], alts := [], laidByText := true, laidKinds := [.data, .data], laidTests := true, laidLooks := .later }
def PathsPathUptoCardSaid : Prop := Claim7.holds Tryd.pinned (.plain (OpenSpec.upto pathsPathSpec)) pathsPathUptoCard

/-- THE SECOND FORM's CARD OF 'speculumlaw06.PathsCheck'. -/
def pathsCheckUptoCard : Claim7 := { stood := { row := pathsCheckUptoRow, standIns := [], harness := (true, "3e84277f12d59ff0f4c1c60765f4f70dc67cd414df560e3f34d56e933518b56f"), looks := false }, kinds := [], alts := [], laidByText := true, laidKinds := [.data, .data], laidTests := true, laidLooks := .later }
def PathsCheckUptoCardSaid : Prop := Claim7.holds Tryd.pinned (.plain (OpenSpec.upto pathsCheckSpec)) pathsCheckUptoCard

/-- THE SECOND FORM's CARD OF 'speculumlaw06.PathsBack'. -/
def pathsBackUptoCard : Claim7 := { stood := { row := pathsBackUptoRow, standIns := [], harness := (true, "3e84277f12d59ff0f4c1c60765f4f70dc67cd414df560e3f34d56e933518b56f"), looks := false }, kinds := [], alts := [], laidByText := true, laidKinds := [.data, .data], laidTests := true, laidLooks := .later }
def PathsBackUptoCardSaid : Prop := Claim7.holds Tryd.pinned (.plain (OpenSpec.upto pathsBackSpec)) pathsBackUptoCard

/-- THE SECOND FORM's CARD OF 'speculumlaw06.PathsOther'. -/
def pathsOtherUptoCard : Claim7 := { stood := { row := pathsOtherUptoRow, standIns := [], harness := (true, "3e84277f12d59ff0f4c1c60765f4f70dc67cd414df560e3f34d56e933518b56f"), looks := false }, kinds := [], alts := [], laidByText := true, laidKinds := [.data, .data], laidTests := true, laidLooks := .later }
def PathsOtherUptoCardSaid : Prop := Claim7.holds Tryd.pinned (.plain (OpenSpec.upto pathsOtherSpec)) pathsOtherUptoCard
end Rows
end Go.Proofs.YtfakimbneenfdaaDoor
