/-
  DERIVED. GIVEN WITH THE SEED: THE CARDS: each row of YtkjgkeigfebcmaaDoorRows.lean that lists a variable, with what it lists TIED to the program's text (the seventh form; the later family's looks); each row that meets fmt, with fmt's text TOLD by the authors' own Lean function (tested against real Go, not proved from fmt's source: count such statements apart). THE CARD IS WHAT COUNTS. Prove the row's statement (the work); the ties are given (YtkjgkeigfebcmaaDoorTie.lean); close each card by the builder's one call (the guide's Derived/Test/ToyasCard.lean, 'card_holds'). Laid BY PROGRAM, IN A SANDBOX (cutbox-door.mjs). By AI agents, Wed Nov 11 2026. No macro, syntax, notation, axiom, sorry.
-/
import Derived.Test.YtkjgkeigfebcmaaDoorRows
import GoSem.ClaimSeven
namespace Go.Proofs.YtkjgkeigfebcmaaDoor
namespace Rows

/-- THE TIED CARD OF 'speculumlaw07.ProofsProof'. -/
def proofsProofCard : Claim7 := { stood := { row := proofsProofRow, standIns := [], harness := (true, "a6e5ef3d47c6f5f3c65b02c4d05fa8a4757e35facdeb7128e43e9dd00d9b58ae"), looks := false }, kinds := [], alts := [], laidByText := true, laidKinds := [.data, .data], laidTests := true, laidLooks := .later }
def ProofsProofCardSaid : Prop := Claim7.holds Tryd.pinned (.plain (OpenSpec.ofChange proofsProofSpec)) proofsProofCard

/-- THE TIED CARD OF 'speculumlaw07.ProofsCheck'. -/
def proofsCheckCard : Claim7 := { stood := { row := proofsCheckRow, standIns := [], harness := (true, "a6e5ef3d47c6f5f3c65b02c4d05fa8a4757e35facdeb7128e43e9dd00d9b58ae"), looks := false }, kinds := [], alts := [], laidByText := true, laidKinds := [.data, .data], laidTests := true, laidLooks := .later }
def ProofsCheckCardSaid : Prop := Claim7.holds Tryd.pinned (.plain (OpenSpec.ofChange proofsCheckSpec)) proofsCheckCard

/-- THE TIED CARD OF 'speculumlaw07.ProofsBack'. -/
def proofsBackCard : Claim7 := { stood := { row := proofsBackRow, standIns := [], harness := (true, "a6e5ef3d47c6f5f3c65b02c4d05fa8a4757e35facdeb7128e43e9dd00d9b58ae"), looks := false }, kinds := [], alts := [], laidByText := true, laidKinds := [.data, .data], laidTests := true, laidLooks := .later }
def ProofsBackCardSaid : Prop := Claim7.holds Tryd.pinned (.plain (OpenSpec.ofChange proofsBackSpec)) proofsBackCard

/-- THE TIED CARD OF 'speculumlaw07.ProofsOther'. -/
def proofsOtherCard : Claim7 := { stood := { row := proofsOtherRow, standIns := [], harness := (true, "a6e5ef3d47c6f5f3c65b02c4d05fa8a4757e35facdeb7128e43e9dd00d9b58ae"), looks := false }, kinds := [], alts := [], laidByText := true, laidKinds := [.data, .data], laidTests := true, laidLooks := .later }
def ProofsOtherCardSaid : Prop := Claim7.holds Tryd.pinned (.plain (OpenSpec.ofChange proofsOtherSpec)) proofsOtherCard

/-- THE SECOND FORM's CARD OF 'speculumlaw07.ProofsProof'. -/
def proofsProofUptoCard : Claim7 := { stood := { row := proofsProofUptoRow, standIns := [], harness := (true, "a6e5ef3d47c6f5f3c65b02c4d05fa8a4757e35facdeb7128e43e9dd00d9b58ae"), looks := false }, kinds := [], alts := [], laidByText := true, laidKinds := [.data, .data], laidTests := true, laidLooks := .later }
def ProofsProofUptoCardSaid : Prop := Claim7.holds Tryd.pinned (.plain (OpenSpec.upto proofsProofSpec)) proofsProofUptoCard

/-- THE SECOND FORM's CARD OF 'speculumlaw07.ProofsCheck'. -/
def proofsCheckUptoCard : Claim7 := { stood := { row := proofsCheckUptoRow, standIns := [], harness := (true, "a6e5ef3d47c6f5f3c65b02c4d05fa8a4757e35facdeb7128e43e9dd00d9b58ae"), looks := false }, kinds := [], alts := [], laidByText := true, laidKinds := [.data, .data], laidTests := true, laidLooks := .later }
def ProofsCheckUptoCardSaid : Prop := Claim7.holds Tryd.pinned (.plain (OpenSpec.upto proofsCheckSpec)) proofsCheckUptoCard

/-- THE SECOND FORM's CARD OF 'speculumlaw07.ProofsBack'. -/
def proofsBackUptoCard : Claim7 := { stood := { row := proofsBackUptoRow, standIns := [], harness := (true, "a6e5ef3d47c6f5f3c65b02c4d05fa8a4757e35facdeb7128e43e9dd00d9b58ae"), looks := false }, kinds := [], alts := [], laidByText := true, laidKinds := [.data, .data], laidTests := true, laidLooks := .later }
def ProofsBackUptoCardSaid : Prop := Claim7.holds Tryd.pinned (.plain (OpenSpec.upto proofsBackSpec)) proofsBackUptoCard

/-- THE SECOND FORM's CARD OF 'speculumlaw07.ProofsOther'. -/
def proofsOtherUptoCard : Claim7 := { stood := { row := proofsOtherUptoRow, standIns := [], harness := (true, "a6e5ef3d47c6f5f3c65b02c4d05fa8a4757e35facdeb7128e43e9dd00d9b58ae"), looks := false }, kinds := [], alts := [], laidByText := true, laidKinds := [.data, .data], laidTests := true, laidLooks := .later }
def ProofsOtherUptoCardSaid : Prop := Claim7.holds Tryd.pinned (.plain (OpenSpec.upto proofsOtherSpec)) proofsOtherUptoCard
end Rows
end Go.Proofs.YtkjgkeigfebcmaaDoor
