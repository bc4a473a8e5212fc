/-
  DERIVED. GIVEN WITH THE SEED: THE CARDS: each row of YthagpnakcffjeaaDoorRows.lean that lists a variable, with what it lists TIED to the program's text (the seventh form; the later family's looks); each row that meets fmt, with fmt's text TOLD by the authors' own Lean function (tested against real Go, not proved from fmt's source: count such statements apart). THE CARD IS WHAT COUNTS. Prove the row's statement (the work); the ties are given (YthagpnakcffjeaaDoorTie.lean); close each card by the builder's one call (the guide's Derived/Test/ToyasCard.lean, 'card_holds'). Laid BY PROGRAM, IN A SANDBOX (cutbox-door.mjs). By AI agents, Wed Nov 11 2026. No macro, syntax, notation, axiom, sorry.
-/
import Derived.Test.YthagpnakcffjeaaDoorRows
import GoSem.ClaimSeven
namespace Go.Proofs.YthagpnakcffjeaaDoor
namespace Rows

/-- THE TIED CARD OF 'speculumlaw02.ShaSum'. -/
def shaSumCard : Claim7 := { stood := { row := shaSumRow, standIns := [], harness := (true, "8a0001d1ec139e3d64a9f78dac6879f4d1fd8ffc024d8ae9f1f9a73e663e922c"), looks := false }, kinds := [], alts := [], laidByText := true, laidKinds := [.data, .data], laidTests := true, laidLooks := .later }
def ShaSumCardSaid : Prop := Claim7.holds Tryd.pinned (.plain (OpenSpec.ofChange shaSumSpec)) shaSumCard

/-- THE TIED CARD OF 'speculumlaw02.ShaHex'. -/
def shaHexCard : Claim7 := { stood := { row := shaHexRow, standIns := [], harness := (true, "8a0001d1ec139e3d64a9f78dac6879f4d1fd8ffc024d8ae9f1f9a73e663e922c"), looks := false }, kinds := [], alts := [], laidByText := true, laidKinds := [.data, .data], laidTests := true, laidLooks := .later }
def ShaHexCardSaid : Prop := Claim7.holds Tryd.pinned (.plain (OpenSpec.ofChange shaHexSpec)) shaHexCard

/-- THE TIED CARD OF 'speculumlaw02.ShaBack'. -/
def shaBackCard : Claim7 := { stood := { row := shaBackRow, standIns := [], harness := (true, "8a0001d1ec139e3d64a9f78dac6879f4d1fd8ffc024d8ae9f1f9a73e663e922c"), looks := false }, kinds := [], alts := [], laidByText := true, laidKinds := [.data, .data], laidTests := true, laidLooks := .later }
def ShaBackCardSaid : Prop := Claim7.holds Tryd.pinned (.plain (OpenSpec.ofChange shaBackSpec)) shaBackCard

/-- THE TIED CARD OF 'speculumlaw04.TreesHash'. -/
def treesHashCard : Claim7 := { stood := { row := treesHashRow, standIns := [], harness := (true, "8a0001d1ec139e3d64a9f78dac6879f4d1fd8ffc024d8ae9f1f9a73e663e922c"), looks := false }, kinds := [], alts := [], laidByText := true, laidKinds := [.data, .data], laidTests := true, laidLooks := .later }
def TreesHashCardSaid : Prop := Claim7.holds Tryd.pinned (.plain (OpenSpec.ofChange treesHashSpec)) treesHashCard

/-- THE TIED CARD OF 'speculumlaw04.TreesRoot'. -/
def treesRootCard : Claim7 := { stood := { row := treesRootRow, standIns := [], harness := (true, "8a0001d1ec139e3d64a9f78dac6879f4d1fd8ffc024d8ae9f1f9a73e663e922c"), looks := false }, kinds := [], alts := [], laidByText := true, laidKinds := [.data, .data], laidTests := true, laidLooks := .later }
def TreesRootCardSaid : Prop := Claim7.holds Tryd.pinned (.plain (OpenSpec.ofChange treesRootSpec)) treesRootCard

/-- THE TIED CARD OF 'speculumlaw04.TreesHalves'. -/
def treesHalvesCard : Claim7 := { stood := { row := treesHalvesRow, standIns := [], harness := (true, "8a0001d1ec139e3d64a9f78dac6879f4d1fd8ffc024d8ae9f1f9a73e663e922c"), looks := false }, kinds := [], alts := [], laidByText := true, laidKinds := [.data, .data], laidTests := true, laidLooks := .later }
def TreesHalvesCardSaid : Prop := Claim7.holds Tryd.pinned (.plain (OpenSpec.ofChange treesHalvesSpec)) treesHalvesCard

/-- THE TIED CARD OF 'speculumlaw04.TreesApart'. -/
def treesApartCard : Claim7 := { stood := { row := treesApartRow, standIns := [], harness := (true, "8a0001d1ec139e3d64a9f78dac6879f4d1fd8ffc024d8ae9f1f9a73e663e922c"), looks := false }, kinds := [], alts := [], laidByText := true, laidKinds := [.data, .data], laidTests := true, laidLooks := .later }
def TreesApartCardSaid : Prop := Claim7.holds Tryd.pinned (.plain (OpenSpec.ofChange treesApartSpec)) treesApartCard

/-- THE SECOND FORM's CARD OF 'speculumlaw02.ShaSum'. -/
def shaSumUptoCard : Claim7 := { stood := { row := shaSumUptoRow, standIns := [], harness := (true, "8a0001d1ec139e3d64a9f78dac6879f4d1fd8ffc024d8ae9f1f9a73e663e922c"), looks := false }, kinds := [], alts := [], laidByText := true, laidKinds := [.data, .data], laidTests := true, laidLooks := .later }
def ShaSumUptoCardSaid : Prop := Claim7.holds Tryd.pinned (.plain (OpenSpec.upto shaSumSpec)) shaSumUptoCard

/-- THE SECOND FORM's CARD OF 'speculumlaw02.ShaHex'. -/
def shaHexUptoCard : Claim7 := { stood := { row := shaHexUptoRow, standIns := [], harness := (true, "8a0001d1ec139e3d64a9f78dac6879f4d1fd8ffc024d8ae9f1f9a73e663e922c"), looks := false }, kinds := [], alts := [], laidByText := true, laidKinds := [.data, .data], laidTests := true, laidLooks := .later }
def ShaHexUptoCardSaid : Prop := Claim7.holds Tryd.pinned (.plain (OpenSpec.upto shaHexSpec)) shaHexUptoCard

/-- THE SECOND FORM's CARD OF 'speculumlaw02.ShaBack'. -/
def shaBackUptoCard : Claim7 := { stood := { row := shaBackUptoRow, standIns := [], harness := (true, "8a0001d1ec139e3d64a9f78dac6879f4d1fd8ffc024d8ae9f1f9a73e663e922c"), looks := false }, kinds := [], alts := [], laidByText := true, laidKinds := [.data, .data], laidTests := true, laidLooks := .later }
def ShaBackUptoCardSaid : Prop := Claim7.holds Tryd.pinned (.plain (OpenSpec.upto shaBackSpec)) shaBackUptoCard

/-- THE SECOND FORM's CARD OF 'speculumlaw04.TreesHash'. -/
def treesHashUptoCard : Claim7 := { stood := { row := treesHashUptoRow, standIns := [], harness := (true, "8a0001d1ec139e3d64a9f78dac6879f4d1fd8ffc024d8ae9f1f9a73e663e922c"), looks := false }, kinds := [], alts := [], laidByText := true, laidKinds := [.data, .data], laidTests := true, laidLooks := .later }
def TreesHashUptoCardSaid : Prop := Claim7.holds Tryd.pinned (.plain (OpenSpec.upto treesHashSpec)) treesHashUptoCard

/-- THE SECOND FORM's CARD OF 'speculumlaw04.TreesRoot'. -/
def treesRootUptoCard : Claim7 := { stood := { row := treesRootUptoRow, standIns := [], harness := (true, "8a0001d1ec139e3d64a9f78dac6879f4d1fd8ffc024d8ae9f1f9a73e663e922c"), looks := false }, kinds := [], alts := [], laidByText := true, laidKinds := [.data, .data], laidTests := true, laidLooks := .later }
def TreesRootUptoCardSaid : Prop := Claim7.holds Tryd.pinned (.plain (OpenSpec.upto treesRootSpec)) treesRootUptoCard

/-- THE SECOND FORM's CARD OF 'speculumlaw04.TreesHalves'. -/
def treesHalvesUptoCard : Claim7 := { stood := { row := treesHalvesUptoRow, standIns := [], harness := (true, "8a0001d1ec139e3d64a9f78dac6879f4d1fd8ffc024d8ae9f1f9a73e663e922c"), looks := false }, kinds := [], alts := [], laidByText := true, laidKinds := [.data, .data], laidTests := true, laidLooks := .later }
def TreesHalvesUptoCardSaid : Prop := Claim7.holds Tryd.pinned (.plain (OpenSpec.upto treesHalvesSpec)) treesHalvesUptoCard

/-- THE SECOND FORM's CARD OF 'speculumlaw04.TreesApart'. -/
def treesApartUptoCard : Claim7 := { stood := { row := treesApartUptoRow, standIns := [], harness := (true, "8a0001d1ec139e3d64a9f78dac6879f4d1fd8ffc024d8ae9f1f9a73e663e922c"), looks := false }, kinds := [], alts := [], laidByText := true, laidKinds := [.data, .data], laidTests := true, laidLooks := .later }
def TreesApartUptoCardSaid : Prop := Claim7.holds Tryd.pinned (.plain (OpenSpec.upto treesApartSpec)) treesApartUptoCard
end Rows
end Go.Proofs.YthagpnakcffjeaaDoor
