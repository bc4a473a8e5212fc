/-
  DERIVED. GIVEN WITH THE SEED: THE CARDS: each row of YtgnkdkehooagpaaDoorRows.lean that lists a variable, with what it lists TIED to the program's text (the seventh form; the later family's looks); each row that meets fmt, with fmt's text TOLD by the authors' own Lean function (tested against real Go, not proved from fmt's source: count such statements apart). THE CARD IS WHAT COUNTS. Prove the row's statement (the work); the ties are given (YtgnkdkehooagpaaDoorTie.lean); close each card by the builder's one call (the guide's Derived/Test/ToyasCard.lean, 'card_holds'). Laid BY PROGRAM, IN A SANDBOX (cutbox-door.mjs). By AI agents, Wed Nov 11 2026. No macro, syntax, notation, axiom, sorry.
-/
import Derived.Test.YtgnkdkehooagpaaDoorRows
import GoSem.ClaimSeven
namespace Go.Proofs.YtgnkdkehooagpaaDoor
namespace Rows

/-- THE TIED CARD OF 'speculumlaw09.KeytreeSign'. -/
def keytreeSignCard : Claim7 := { stood := { row := keytreeSignRow, standIns := [], harness := (true, "289e7129baf91516622dddb96fafd7b269d80f9122e03400e8d2f2423be638d3"), looks := false }, kinds := [], alts := [], laidByText := true, laidKinds := [.data, .data], laidTests := true, laidLooks := .later }
def KeytreeSignCardSaid : Prop := Claim7.holds Tryd.pinned (.plain (OpenSpec.ofChange keytreeSignSpec)) keytreeSignCard

/-- THE TIED CARD OF 'speculumlaw09.KeytreeVerify'. -/
def keytreeVerifyCard : Claim7 := { stood := { row := keytreeVerifyRow, standIns := [], harness := (true, "289e7129baf91516622dddb96fafd7b269d80f9122e03400e8d2f2423be638d3"), looks := false }, kinds := [], alts := [], laidByText := true, laidKinds := [.data, .data], laidTests := true, laidLooks := .later }
def KeytreeVerifyCardSaid : Prop := Claim7.holds Tryd.pinned (.plain (OpenSpec.ofChange keytreeVerifySpec)) keytreeVerifyCard

/-- THE TIED CARD OF 'speculumlaw09.KeytreeNone'. -/
def keytreeNoneCard : Claim7 := { stood := { row := keytreeNoneRow, standIns := [], harness := (true, "289e7129baf91516622dddb96fafd7b269d80f9122e03400e8d2f2423be638d3"), looks := false }, kinds := [], alts := [], laidByText := true, laidKinds := [.data, .data], laidTests := true, laidLooks := .later }
def KeytreeNoneCardSaid : Prop := Claim7.holds Tryd.pinned (.plain (OpenSpec.ofChange keytreeNoneSpec)) keytreeNoneCard

/-- THE TIED CARD OF 'speculumlaw09.KeytreeBack'. -/
def keytreeBackCard : Claim7 := { stood := { row := keytreeBackRow, standIns := [], harness := (true, "289e7129baf91516622dddb96fafd7b269d80f9122e03400e8d2f2423be638d3"), looks := false }, kinds := [], alts := [], laidByText := true, laidKinds := [.data, .data], laidTests := true, laidLooks := .later }
def KeytreeBackCardSaid : Prop := Claim7.holds Tryd.pinned (.plain (OpenSpec.ofChange keytreeBackSpec)) keytreeBackCard

/-- THE SECOND FORM's CARD OF 'speculumlaw09.KeytreeSign'. -/
def keytreeSignUptoCard : Claim7 := { stood := { row := keytreeSignUptoRow, standIns := [], harness := (true, "289e7129baf91516622dddb96fafd7b269d80f9122e03400e8d2f2423be638d3"), looks := false }, kinds := [], alts := [], laidByText := true, laidKinds := [.data, .data], laidTests := true, laidLooks := .later }
def KeytreeSignUptoCardSaid : Prop := Claim7.holds Tryd.pinned (.plain (OpenSpec.upto keytreeSignSpec)) keytreeSignUptoCard

/-- THE SECOND FORM's CARD OF 'speculumlaw09.KeytreeVerify'. -/
def keytreeVerifyUptoCard : Claim7 := { stood := { row := keytreeVerifyUptoRow, standIns := [], harness := (true, "289e7129baf91516622dddb96fafd7b269d80f9122e03400e8d2f2423be638d3"), looks := false }, kinds := [], alts := [], laidByText := true, laidKinds := [.data, .data], laidTests := true, laidLooks := .later }
def KeytreeVerifyUptoCardSaid : Prop := Claim7.holds Tryd.pinned (.plain (OpenSpec.upto keytreeVerifySpec)) keytreeVerifyUptoCard

/-- THE SECOND FORM's CARD OF 'speculumlaw09.KeytreeNone'. -/
def keytreeNoneUptoCard : Claim7 := { stood := { row := keytreeNoneUptoRow, standIns := [], harness := (true, "289e7129baf91516622dddb96fafd7b269d80f9122e03400e8d2f2423be638d3"), looks := false }, kinds := [], alts := [], laidByText := true, laidKinds := [.data, .data], laidTests := true, laidLooks := .later }
def KeytreeNoneUptoCardSaid : Prop := Claim7.holds Tryd.pinned (.plain (OpenSpec.upto keytreeNoneSpec)) keytreeNoneUptoCard

/-- THE SECOND FORM's CARD OF 'speculumlaw09.KeytreeBack'. -/
def keytreeBackUptoCard : Claim7 := { stood := { row := keytreeBackUptoRow, standIns := [], harness := (true, "289e7129baf91516622dddb96fafd7b269d80f9122e03400e8d2f2423be638d3"), looks := false }, kinds := [], alts := [], laidByText := true, laidKinds := [.data, .data], laidTests := true, laidLooks := .later }
def KeytreeBackUptoCardSaid : Prop := Claim7.holds Tryd.pinned (.plain (OpenSpec.upto keytreeBackSpec)) keytreeBackUptoCard
end Rows
end Go.Proofs.YtgnkdkehooagpaaDoor
