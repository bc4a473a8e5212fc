/-
  DERIVED. GIVEN WITH THE SEED: THE CARDS: each row of YtpndccoikhejgaaDoorRows.lean that lists a variable, with what it lists TIED to the program's text (the seventh form; the later family's looks); each row that meets fmt, with fmt's text TOLD by the authors' own Lean function (tested against real Go, not proved from fmt's source: count such statements apart). THE CARD IS WHAT COUNTS. Prove the row's statement (the work); the ties are given (YtpndccoikhejgaaDoorTie.lean); close each card by the builder's one call (the guide's Derived/Test/ToyasCard.lean, 'card_holds'). Laid BY PROGRAM, IN A SANDBOX (cutbox-door.mjs). By AI agents, Wed Nov 11 2026. No macro, syntax, notation, axiom, sorry.
-/
import Derived.Test.YtpndccoikhejgaaDoorRows
import GoSem.ClaimSeven
namespace Go.Proofs.YtpndccoikhejgaaDoor
namespace Rows

/-- THE TIED CARD OF 'speculumlaw10.HeadsTell'. -/
def headsTellCard : Claim7 := { stood := { row := headsTellRow, standIns := [], harness := (true, "70b5f70a22a9023b25e5e458409b663735ce868fe4d272e4e5cae761be72dd74"), looks := false }, kinds := [], alts := [], laidByText := true, laidKinds := [.data, .data], laidTests := true, laidLooks := .later }
def HeadsTellCardSaid : Prop := Claim7.holds Tryd.pinned (.plain (OpenSpec.ofChange headsTellSpec)) headsTellCard

/-- THE TIED CARD OF 'speculumlaw10.HeadsGet'. -/
def headsGetCard : Claim7 := { stood := { row := headsGetRow, standIns := [], harness := (true, "70b5f70a22a9023b25e5e458409b663735ce868fe4d272e4e5cae761be72dd74"), looks := false }, kinds := [], alts := [], laidByText := true, laidKinds := [.data, .data], laidTests := true, laidLooks := .later }
def HeadsGetCardSaid : Prop := Claim7.holds Tryd.pinned (.plain (OpenSpec.ofChange headsGetSpec)) headsGetCard

/-- THE TIED CARD OF 'speculumlaw10.HeadsBack'. -/
def headsBackCard : Claim7 := { stood := { row := headsBackRow, standIns := [], harness := (true, "70b5f70a22a9023b25e5e458409b663735ce868fe4d272e4e5cae761be72dd74"), looks := false }, kinds := [], alts := [], laidByText := true, laidKinds := [.data, .data], laidTests := true, laidLooks := .later }
def HeadsBackCardSaid : Prop := Claim7.holds Tryd.pinned (.plain (OpenSpec.ofChange headsBackSpec)) headsBackCard

/-- THE TIED CARD OF 'speculumlaw10.HeadsSigned'. -/
def headsSignedCard : Claim7 := { stood := { row := headsSignedRow, standIns := [], harness := (true, "70b5f70a22a9023b25e5e458409b663735ce868fe4d272e4e5cae761be72dd74"), looks := false }, kinds := [], alts := [], laidByText := true, laidKinds := [.data, .data], laidTests := true, laidLooks := .later }
def HeadsSignedCardSaid : Prop := Claim7.holds Tryd.pinned (.plain (OpenSpec.ofChange headsSignedSpec)) headsSignedCard

/-- THE SECOND FORM's CARD OF 'speculumlaw10.HeadsTell'. -/
def headsTellUptoCard : Claim7 := { stood := { row := headsTellUptoRow, standIns := [], harness := (true, "70b5f70a22a9023b25e5e458409b663735ce868fe4d272e4e5cae761be72dd74"), looks := false }, kinds := [], alts := [], laidByText := true, laidKinds := [.data, .data], laidTests := true, laidLooks := .later }
def HeadsTellUptoCardSaid : Prop := Claim7.holds Tryd.pinned (.plain (OpenSpec.upto headsTellSpec)) headsTellUptoCard

/-- THE SECOND FORM's CARD OF 'speculumlaw10.HeadsGet'. -/
def headsGetUptoCard : Claim7 := { stood := { row := headsGetUptoRow, standIns := [], harness := (true, "70b5f70a22a9023b25e5e458409b663735ce868fe4d272e4e5cae761be72dd74"), looks := false }, kinds := [], alts := [], laidByText := true, laidKinds := [.data, .data], laidTests := true, laidLooks := .later }
def HeadsGetUptoCardSaid : Prop := Claim7.holds Tryd.pinned (.plain (OpenSpec.upto headsGetSpec)) headsGetUptoCard

/-- THE SECOND FORM's CARD OF 'speculumlaw10.HeadsBack'. -/
def headsBackUptoCard : Claim7 := { stood := { row := headsBackUptoRow, standIns := [], harness := (true, "70b5f70a22a9023b25e5e458409b663735ce868fe4d272e4e5cae761be72dd74"), looks := false }, kinds := [], alts := [], laidByText := true, laidKinds := [.data, .data], laidTests := true, laidLooks := .later }
def HeadsBackUptoCardSaid : Prop := Claim7.holds Tryd.pinned (.plain (OpenSpec.upto headsBackSpec)) headsBackUptoCard

/-- THE SECOND FORM's CARD OF 'speculumlaw10.HeadsSigned'. -/
def headsSignedUptoCard : Claim7 := { stood := { row := headsSignedUptoRow, standIns := [], harness := (true, "70b5f70a22a9023b25e5e458409b663735ce868fe4d272e4e5cae761be72dd74"), looks := false }, kinds := [], alts := [], laidByText := true, laidKinds := [.data, .data], laidTests := true, laidLooks := .later }
def HeadsSignedUptoCardSaid : Prop := Claim7.holds Tryd.pinned (.plain (OpenSpec.upto headsSignedSpec)) headsSignedUptoCard
end Rows
end Go.Proofs.YtpndccoikhejgaaDoor
