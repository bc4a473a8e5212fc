/-
  DERIVED. GIVEN WITH THE SEED: THE CARDS: each row of YtllabnhgiojmmaaDoorRows.lean that lists a variable, with what it lists TIED to the program's text (the seventh form; the later family's looks); each row that meets fmt, with fmt's text TOLD by the authors' own Lean function (tested against real Go, not proved from fmt's source: count such statements apart). THE CARD IS WHAT COUNTS. Prove the row's statement (the work); the ties are given (YtllabnhgiojmmaaDoorTie.lean); close each card by the builder's one call (the guide's Derived/Test/ToyasCard.lean, 'card_holds'). Laid BY PROGRAM, IN A SANDBOX (cutbox-door.mjs). By AI agents, Wed Nov 11 2026. No macro, syntax, notation, axiom, sorry.
-/
import Derived.Test.YtllabnhgiojmmaaDoorRows
import GoSem.ClaimSeven
namespace Go.Proofs.YtllabnhgiojmmaaDoor
namespace Rows

/-- THE TIED CARD OF 'speculumlaw08.LamportSign'. -/
def lamportSignCard : Claim7 := { stood := { row := lamportSignRow, standIns := [], harness := (true, "d6b78c057b5adb655bcd612c6db525609e703f85e2ed38509001dd12f117478c"), looks := false }, kinds := [], alts := [], laidByText := true, laidKinds := [.data, .data], laidTests := true, laidLooks := .later }
def LamportSignCardSaid : Prop := Claim7.holds Tryd.pinned (.plain (OpenSpec.ofChange lamportSignSpec)) lamportSignCard

/-- THE TIED CARD OF 'speculumlaw08.LamportPublic'. -/
def lamportPublicCard : Claim7 := { stood := { row := lamportPublicRow, standIns := [], harness := (true, "d6b78c057b5adb655bcd612c6db525609e703f85e2ed38509001dd12f117478c"), looks := false }, kinds := [], alts := [], laidByText := true, laidKinds := [.data, .data], laidTests := true, laidLooks := .later }
def LamportPublicCardSaid : Prop := Claim7.holds Tryd.pinned (.plain (OpenSpec.ofChange lamportPublicSpec)) lamportPublicCard

/-- THE TIED CARD OF 'speculumlaw08.LamportBytes'. -/
def lamportBytesCard : Claim7 := { stood := { row := lamportBytesRow, standIns := [], harness := (true, "d6b78c057b5adb655bcd612c6db525609e703f85e2ed38509001dd12f117478c"), looks := false }, kinds := [], alts := [], laidByText := true, laidKinds := [.data, .data], laidTests := true, laidLooks := .later }
def LamportBytesCardSaid : Prop := Claim7.holds Tryd.pinned (.plain (OpenSpec.ofChange lamportBytesSpec)) lamportBytesCard

/-- THE TIED CARD OF 'speculumlaw08.LamportBack'. -/
def lamportBackCard : Claim7 := { stood := { row := lamportBackRow, standIns := [], harness := (true, "d6b78c057b5adb655bcd612c6db525609e703f85e2ed38509001dd12f117478c"), looks := false }, kinds := [], alts := [], laidByText := true, laidKinds := [.data, .data], laidTests := true, laidLooks := .later }
def LamportBackCardSaid : Prop := Claim7.holds Tryd.pinned (.plain (OpenSpec.ofChange lamportBackSpec)) lamportBackCard

/-- THE TIED CARD OF 'speculumlaw08.LamportApart'. -/
def lamportApartCard : Claim7 := { stood := { row := lamportApartRow, standIns := [], harness := (true, "d6b78c057b5adb655bcd612c6db525609e703f85e2ed38509001dd12f117478c"), looks := false }, kinds := [], alts := [], laidByText := true, laidKinds := [.data, .data], laidTests := true, laidLooks := .later }
def LamportApartCardSaid : Prop := Claim7.holds Tryd.pinned (.plain (OpenSpec.ofChange lamportApartSpec)) lamportApartCard

/-- THE SECOND FORM's CARD OF 'speculumlaw08.LamportSign'. -/
def lamportSignUptoCard : Claim7 := { stood := { row := lamportSignUptoRow, standIns := [], harness := (true, "d6b78c057b5adb655bcd612c6db525609e703f85e2ed38509001dd12f117478c"), looks := false }, kinds := [], alts := [], laidByText := true, laidKinds := [.data, .data], laidTests := true, laidLooks := .later }
def LamportSignUptoCardSaid : Prop := Claim7.holds Tryd.pinned (.plain (OpenSpec.upto lamportSignSpec)) lamportSignUptoCard

/-- THE SECOND FORM's CARD OF 'speculumlaw08.LamportPublic'. -/
def lamportPublicUptoCard : Claim7 := { stood := { row := lamportPublicUptoRow, standIns := [], harness := (true, "d6b78c057b5adb655bcd612c6db525609e703f85e2ed38509001dd12f117478c"), looks := false }, kinds := [], alts := [], laidByText := true, laidKinds := [.data, .data], laidTests := true, laidLooks := .later }
def LamportPublicUptoCardSaid : Prop := Claim7.holds Tryd.pinned (.plain (OpenSpec.upto lamportPublicSpec)) lamportPublicUptoCard

/-- THE SECOND FORM's CARD OF 'speculumlaw08.LamportBytes'. -/
def lamportBytesUptoCard : Claim7 := { stood := { row := lamportBytesUptoRow, standIns := [], harness := (true, "d6b78c057b5adb655bcd612c6db525609e703f85e2ed38509001dd12f117478c"), looks := false }, kinds := [], alts := [], laidByText := true, laidKinds := [.data, .data], laidTests := true, laidLooks := .later }
def LamportBytesUptoCardSaid : Prop := Claim7.holds Tryd.pinned (.plain (OpenSpec.upto lamportBytesSpec)) lamportBytesUptoCard

/-- THE SECOND FORM's CARD OF 'speculumlaw08.LamportBack'. -/
def lamportBackUptoCard : Claim7 := { stood := { row := lamportBackUptoRow, standIns := [], harness := (true, "d6b78c057b5adb655bcd612c6db525609e703f85e2ed38509001dd12f117478c"), looks := false }, kinds := [], alts := [], laidByText := true, laidKinds := [.data, .data], laidTests := true, laidLooks := .later }
def LamportBackUptoCardSaid : Prop := Claim7.holds Tryd.pinned (.plain (OpenSpec.upto lamportBackSpec)) lamportBackUptoCard

/-- THE SECOND FORM's CARD OF 'speculumlaw08.LamportApart'. -/
def lamportApartUptoCard : Claim7 := { stood := { row := lamportApartUptoRow, standIns := [], harness := (true, "d6b78c057b5adb655bcd612c6db525609e703f85e2ed38509001dd12f117478c"), looks := false }, kinds := [], alts := [], laidByText := true, laidKinds := [.data, .data], laidTests := true, laidLooks := .later }
def LamportApartUptoCardSaid : Prop := Claim7.holds Tryd.pinned (.plain (OpenSpec.upto lamportApartSpec)) lamportApartUptoCard
end Rows
end Go.Proofs.YtllabnhgiojmmaaDoor
