/-
  DERIVED. GIVEN WITH THE SEED: THE CARDS: each row of YtlmkdmdbpopnhaaGreatDoorRows.lean that lists a variable, with what it lists TIED to the program's text (the seventh form; the later family's looks); each row that meets fmt, with fmt's text TOLD by the authors' own Lean function (tested against real Go, not proved from fmt's source: count such statements apart). THE CARD IS WHAT COUNTS. Prove the row's statement (the work); the ties are given (YtlmkdmdbpopnhaaGreatDoorTie.lean); close each card by the builder's one call (the guide's Derived/Test/ToyasCard.lean, 'card_holds'). Laid BY PROGRAM, IN A SANDBOX (cutbox-door.mjs). By AI agents, Wed Nov 11 2026. No macro, syntax, notation, axiom, sorry.
-/
import Derived.Test.YtlmkdmdbpopnhaaGreatDoorRows
import GoSem.ClaimSeven
namespace Go.Proofs.YtlmkdmdbpopnhaaGreatDoor
namespace Rows

/-- THE TIED CARD OF 'exchequerlaw12.ExtLives'. -/
def extLivesCard : Claim7 := { stood := { row := extLivesRow, standIns := [], harness := (true, "3c99ba5350a2d1178904830b8137a2c407368058025194f11326c8567932ec0f"), looks := false }, kinds := [], alts := [], laidByText := true, laidKinds := [.data], laidTests := true, laidLooks := .later }
def ExtLivesCardSaid : Prop := Claim7.holds Tryz.pinned (.plain (OpenSpec.ofChange extLivesSpec)) extLivesCard

/-- THE TIED CARD OF 'exchequerlaw12.ExtFull'. -/
def extFullCard : Claim7 := { stood := { row := extFullRow, standIns := [], harness := (true, "3c99ba5350a2d1178904830b8137a2c407368058025194f11326c8567932ec0f"), looks := false }, kinds := [], alts := [], laidByText := true, laidKinds := [.data], laidTests := true, laidLooks := .later }
def ExtFullCardSaid : Prop := Claim7.holds Tryz.pinned (.plain (OpenSpec.ofChange extFullSpec)) extFullCard

/-- THE TIED CARD OF 'exchequerlaw12.ExtShape'. -/
def extShapeCard : Claim7 := { stood := { row := extShapeRow, standIns := [], harness := (true, "3c99ba5350a2d1178904830b8137a2c407368058025194f11326c8567932ec0f"), looks := false }, kinds := [], alts := [], laidByText := true, laidKinds := [.data], laidTests := true, laidLooks := .later }
def ExtShapeCardSaid : Prop := Claim7.holds Tryz.pinned (.plain (OpenSpec.ofChange extShapeSpec)) extShapeCard

/-- THE TIED CARD OF 'exchequerlaw13.KvLives'. -/
def kvLivesCard : Claim7 := { stood := { row := kvLivesRow, standIns := [], harness := (true, "3c99ba5350a2d1178904830b8137a2c407368058025194f11326c8567932ec0f"), looks := false }, kinds := [], alts := [], laidByText := true, laidKinds := [.data], laidTests := true, laidLooks := .later }
def KvLivesCardSaid : Prop := Claim7.holds Tryz.pinned (.plain (OpenSpec.ofChange kvLivesSpec)) kvLivesCard

/-- THE TIED CARD OF 'exchequerlaw13.KvAtomic'. -/
def kvAtomicCard : Claim7 := { stood := { row := kvAtomicRow, standIns := [], harness := (true, "3c99ba5350a2d1178904830b8137a2c407368058025194f11326c8567932ec0f"), looks := false }, kinds := [], alts := [], laidByText := true, laidKinds := [.data], laidTests := true, laidLooks := .later }
def KvAtomicCardSaid : Prop := Claim7.holds Tryz.pinned (.plain (OpenSpec.ofChange kvAtomicSpec)) kvAtomicCard

/-- THE TIED CARD OF 'exchequerlaw13.KvFull'. -/
def kvFullCard : Claim7 := { stood := { row := kvFullRow, standIns := [], harness := (true, "3c99ba5350a2d1178904830b8137a2c407368058025194f11326c8567932ec0f"), looks := false }, kinds := [], alts := [], laidByText := true, laidKinds := [.data], laidTests := true, laidLooks := .later }
def KvFullCardSaid : Prop := Claim7.holds Tryz.pinned (.plain (OpenSpec.ofChange kvFullSpec)) kvFullCard

/-- THE SECOND FORM's CARD OF 'exchequerlaw12.ExtLives'. -/
def extLivesUptoCard : Claim7 := { stood := { row := extLivesUptoRow, standIns := [], harness := (true, "3c99ba5350a2d1178904830b8137a2c407368058025194f11326c8567932ec0f"), looks := false }, kinds := [], alts := [], laidByText := true, laidKinds := [.data], laidTests := true, laidLooks := .later }
def ExtLivesUptoCardSaid : Prop := Claim7.holds Tryz.pinned (.plain (OpenSpec.upto extLivesSpec)) extLivesUptoCard

/-- THE SECOND FORM's CARD OF 'exchequerlaw12.ExtFull'. -/
def extFullUptoCard : Claim7 := { stood := { row := extFullUptoRow, standIns := [], harness := (true, "3c99ba5350a2d1178904830b8137a2c407368058025194f11326c8567932ec0f"), looks := false }, kinds := [], alts := [], laidByText := true, laidKinds := [.data], laidTests := true, laidLooks := .later }
def ExtFullUptoCardSaid : Prop := Claim7.holds Tryz.pinned (.plain (OpenSpec.upto extFullSpec)) extFullUptoCard

/-- THE SECOND FORM's CARD OF 'exchequerlaw12.ExtShape'. -/
def extShapeUptoCard : Claim7 := { stood := { row := extShapeUptoRow, standIns := [], harness := (true, "3c99ba5350a2d1178904830b8137a2c407368058025194f11326c8567932ec0f"), looks := false }, kinds := [], alts := [], laidByText := true, laidKinds := [.data], laidTests := true, laidLooks := .later }
def ExtShapeUptoCardSaid : Prop := Claim7.holds Tryz.pinned (.plain (OpenSpec.upto extShapeSpec)) extShapeUptoCard

/-- THE SECOND FORM's CARD OF 'exchequerlaw13.KvLives'. -/
def kvLivesUptoCard : Claim7 := { stood := { row := kvLivesUptoRow, standIns := [], harness := (true, "3c99ba5350a2d1178904830b8137a2c407368058025194f11326c8567932ec0f"), looks := false }, kinds := [], alts := [], laidByText := true, laidKinds := [.data], laidTests := true, laidLooks := .later }
def KvLivesUptoCardSaid : Prop := Claim7.holds Tryz.pinned (.plain (OpenSpec.upto kvLivesSpec)) kvLivesUptoCard

/-- THE SECOND FORM's CARD OF 'exchequerlaw13.KvAtomic'. -/
def kvAtomicUptoCard : Claim7 := { stood := { row := kvAtomicUptoRow, standIns := [], harness := (true, "3c99ba5350a2d1178904830b8137a2c407368058025194f11326c8567932ec0f"), looks := false }, kinds := [], alts := [], laidByText := true, laidKinds := [.data], laidTests := true, laidLooks := .later }
def KvAtomicUptoCardSaid : Prop := Claim7.holds Tryz.pinned (.plain (OpenSpec.upto kvAtomicSpec)) kvAtomicUptoCard

/-- THE SECOND FORM's CARD OF 'exchequerlaw13.KvFull'. -/
def kvFullUptoCard : Claim7 := { stood := { row := kvFullUptoRow, standIns := [], harness := (true, "3c99ba5350a2d1178904830b8137a2c407368058025194f11326c8567932ec0f"), looks := false }, kinds := [], alts := [], laidByText := true, laidKinds := [.data], laidTests := true, laidLooks := .later }
def KvFullUptoCardSaid : Prop := Claim7.holds Tryz.pinned (.plain (OpenSpec.upto kvFullSpec)) kvFullUptoCard
end Rows
end Go.Proofs.YtlmkdmdbpopnhaaGreatDoor
