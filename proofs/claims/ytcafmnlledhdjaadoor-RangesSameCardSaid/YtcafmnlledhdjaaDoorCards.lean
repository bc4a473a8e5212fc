/-
  DERIVED. GIVEN WITH THE SEED: THE CARDS: each row of YtcafmnlledhdjaaDoorRows.lean that lists a variable, with what it lists TIED to the program's text (the seventh form; the later family's looks); each row that meets fmt, with fmt's text TOLD by the authors' own Lean function (tested against real Go, not proved from fmt's source: count such statements apart). THE CARD IS WHAT COUNTS. Prove the row's statement (the work); the ties are given (YtcafmnlledhdjaaDoorTie.lean); close each card by the builder's one call (the guide's Derived/Test/ToyasCard.lean, 'card_holds'). Laid BY PROGRAM, IN A SANDBOX (cutbox-door.mjs). By AI agents, Wed Nov 11 2026. No macro, syntax, notation, axiom, sorry.
-/
import Derived.Test.YtcafmnlledhdjaaDoorRows
import GoSem.ClaimSeven
namespace Go.Proofs.YtcafmnlledhdjaaDoor
namespace Rows

/-- THE TIED CARD OF 'speculumlaw05.RangesTell'. -/
def rangesTellCard : Claim7 := { stood := { row := rangesTellRow, standIns := [], harness := (true, "457af64a67410429970ffacd8580dd7132221bd8a4cdd60901d0eed71638022a"), looks := false }, kinds := [], alts := [], laidByText := true, laidKinds := [.data, .data], laidTests := true, laidLooks := .later }
def RangesTellCardSaid : Prop := Claim7.holds Tryd.pinned (.plain (OpenSpec.ofChange rangesTellSpec)) rangesTellCard

/-- THE TIED CARD OF 'speculumlaw05.RangesPart'. -/
def rangesPartCard : Claim7 := { stood := { row := rangesPartRow, standIns := [], harness := (true, "457af64a67410429970ffacd8580dd7132221bd8a4cdd60901d0eed71638022a"), looks := false }, kinds := [], alts := [], laidByText := true, laidKinds := [.data, .data], laidTests := true, laidLooks := .later }
def RangesPartCardSaid : Prop := Claim7.holds Tryd.pinned (.plain (OpenSpec.ofChange rangesPartSpec)) rangesPartCard

/-- THE TIED CARD OF 'speculumlaw05.RangesSame'. -/
def rangesSameCard : Claim7 := { stood := { row := rangesSameRow, standIns := [], harness := (true, "457af64a67410429970ffacd8580dd7132221bd8a4cdd60901d0eed71638022a"), looks := false }, kinds := [], alts := [], laidByText := true, laidKinds := [.data, .data], laidTests := true, laidLooks := .later }
def RangesSameCardSaid : Prop := Claim7.holds Tryd.pinned (.plain (OpenSpec.ofChange rangesSameSpec)) rangesSameCard

/-- THE TIED CARD OF 'speculumlaw05.RangesFull'. -/
def rangesFullCard : Claim7 := { stood := { row := rangesFullRow, standIns := [], harness := (true, "457af64a67410429970ffacd8580dd7132221bd8a4cdd60901d0eed71638022a"), looks := false }, kinds := [], alts := [], laidByText := true, laidKinds := [.data, .data], laidTests := true, laidLooks := .later }
def RangesFullCardSaid : Prop := Claim7.holds Tryd.pinned (.plain (OpenSpec.ofChange rangesFullSpec)) rangesFullCard

/-- THE SECOND FORM's CARD OF 'speculumlaw05.RangesTell'. -/
def rangesTellUptoCard : Claim7 := { stood := { row := rangesTellUptoRow, standIns := [], harness := (true, "457af64a67410429970ffacd8580dd7132221bd8a4cdd60901d0eed71638022a"), looks := false }, kinds := [], alts := [], laidByText := true, laidKinds := [.data, .data], laidTests := true, laidLooks := .later }
def RangesTellUptoCardSaid : Prop := Claim7.holds Tryd.pinned (.plain (OpenSpec.upto rangesTellSpec)) rangesTellUptoCard

/-- THE SECOND FORM's CARD OF 'speculumlaw05.RangesPart'. -/
def rangesPartUptoCard : Claim7 := { stood := { row := rangesPartUptoRow, standIns := [], harness := (true, "457af64a67410429970ffacd8580dd7132221bd8a4cdd60901d0eed71638022a"), looks := false }, kinds := [], alts := [], laidByText := true, laidKinds := [.data, .data], laidTests := true, laidLooks := .later }
def RangesPartUptoCardSaid : Prop := Claim7.holds Tryd.pinned (.plain (OpenSpec.upto rangesPartSpec)) rangesPartUptoCard

/-- THE SECOND FORM's CARD OF 'speculumlaw05.RangesSame'. -/
def rangesSameUptoCard : Claim7 := { stood := { row := rangesSameUptoRow, standIns := [], harness := (true, "457af64a67410429970ffacd8580dd7132221bd8a4cdd60901d0eed71638022a"), looks := false }, kinds := [], alts := [], laidByText := true, laidKinds := [.data, .data], laidTests := true, laidLooks := .later }
def RangesSameUptoCardSaid : Prop := Claim7.holds Tryd.pinned (.plain (OpenSpec.upto rangesSameSpec)) rangesSameUptoCard

/-- THE SECOND FORM's CARD OF 'speculumlaw05.RangesFull'. -/
def rangesFullUptoCard : Claim7 := { stood := { row := rangesFullUptoRow, standIns := [], harness := (true, "457af64a67410429970ffacd8580dd7132221bd8a4cdd60901d0eed71638022a"), looks := false }, kinds := [], alts := [], laidByText := true, laidKinds := [.data, .data], laidTests := true, laidLooks := .later }
def RangesFullUptoCardSaid : Prop := Claim7.holds Tryd.pinned (.plain (OpenSpec.upto rangesFullSpec)) rangesFullUptoCard
end Rows
end Go.Proofs.YtcafmnlledhdjaaDoor
