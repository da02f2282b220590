/-
  DERIVED. GIVEN WITH THE SEED: THE CARDS: each row of YtfbljmkjiaklfaaGreatDoorRows.lean that lists a variable, with what it lists TIED to the program's text (the seventh form; the later family's looks); each row that meets fmt, with fmt's text TOLD by the authors' own Lean function (tested against real Go, not proved from fmt's source: count such statements apart). THE CARD IS WHAT COUNTS. Prove the row's statement (the work); the ties are given (YtfbljmkjiaklfaaGreatDoorTie.lean); close each card by the builder's one call (the guide's Derived/Test/ToyasCard.lean, 'card_holds'). Laid BY PROGRAM, IN A SANDBOX (cutbox-door.mjs). By AI agents, Wed Nov 11 2026. No macro, syntax, notation, axiom, sorry.
-/
import Derived.Test.YtfbljmkjiaklfaaGreatDoorRows
import GoSem.ClaimSeven
namespace Go.Proofs.YtfbljmkjiaklfaaGreatDoor
namespace Rows

/-- THE TIED CARD OF 'exchequerlaw12.ExtLives'. -/
def extLivesCard : Claim7 := { stood := { row := extLivesRow, standIns := [], harness := (true, "3037ac6d2657dd848afdbfde4b11be76adc8996ca32f1c5eadf68843a206c396"), looks := false }, kinds := [], alts := [], laidByText := true, laidKinds := [.data], laidTests := true, laidLooks := .later }
def ExtLivesCardSaid : Prop := Claim7.holds Tryz.pinned (.plain (OpenSpec.ofChange extLivesSpec)) extLivesCard

/-- THE TIED CARD OF 'exchequerlaw12.ExtFull'. -/
def extFullCard : Claim7 := { stood := { row := extFullRow, standIns := [], harness := (true, "3037ac6d2657dd848afdbfde4b11be76adc8996ca32f1c5eadf68843a206c396"), looks := false }, kinds := [], alts := [], laidByText := true, laidKinds := [.data], laidTests := true, laidLooks := .later }
def ExtFullCardSaid : Prop := Claim7.holds Tryz.pinned (.plain (OpenSpec.ofChange extFullSpec)) extFullCard

/-- THE TIED CARD OF 'exchequerlaw12.ExtShape'. -/
def extShapeCard : Claim7 := { stood := { row := extShapeRow, standIns := [], harness := (true, "3037ac6d2657dd848afdbfde4b11be76adc8996ca32f1c5eadf68843a206c396"), looks := false }, kinds := [], alts := [], laidByText := true, laidKinds := [.data], laidTests := true, laidLooks := .later }
def ExtShapeCardSaid : Prop := Claim7.holds Tryz.pinned (.plain (OpenSpec.ofChange extShapeSpec)) extShapeCard

/-- THE TIED CARD OF 'exchequerlaw12.ExtNobody'. -/
def extNobodyCard : Claim7 := { stood := { row := extNobodyRow, standIns := [], harness := (true, "3037ac6d2657dd848afdbfde4b11be76adc8996ca32f1c5eadf68843a206c396"), looks := false }, kinds := [], alts := [], laidByText := true, laidKinds := [.data], laidTests := true, laidLooks := .later }
def ExtNobodyCardSaid : Prop := Claim7.holds Tryz.pinned (.plain (OpenSpec.ofChange extNobodySpec)) extNobodyCard

/-- THE SECOND FORM's CARD OF 'exchequerlaw12.ExtLives'. -/
def extLivesUptoCard : Claim7 := { stood := { row := extLivesUptoRow, standIns := [], harness := (true, "3037ac6d2657dd848afdbfde4b11be76adc8996ca32f1c5eadf68843a206c396"), looks := false }, kinds := [], alts := [], laidByText := true, laidKinds := [.data], laidTests := true, laidLooks := .later }
def ExtLivesUptoCardSaid : Prop := Claim7.holds Tryz.pinned (.plain (OpenSpec.upto extLivesSpec)) extLivesUptoCard

/-- THE SECOND FORM's CARD OF 'exchequerlaw12.ExtFull'. -/
def extFullUptoCard : Claim7 := { stood := { row := extFullUptoRow, standIns := [], harness := (true, "3037ac6d2657dd848afdbfde4b11be76adc8996ca32f1c5eadf68843a206c396"), looks := false }, kinds := [], alts := [], laidByText := true, laidKinds := [.data], laidTests := true, laidLooks := .later }
def ExtFullUptoCardSaid : Prop := Claim7.holds Tryz.pinned (.plain (OpenSpec.upto extFullSpec)) extFullUptoCard

/-- THE SECOND FORM's CARD OF 'exchequerlaw12.ExtShape'. -/
def extShapeUptoCard : Claim7 := { stood := { row := extShapeUptoRow, standIns := [], harness := (true, "3037ac6d2657dd848afdbfde4b11be76adc8996ca32f1c5eadf68843a206c396"), looks := false }, kinds := [], alts := [], laidByText := true, laidKinds := [.data], laidTests := true, laidLooks := .later }
def ExtShapeUptoCardSaid : Prop := Claim7.holds Tryz.pinned (.plain (OpenSpec.upto extShapeSpec)) extShapeUptoCard

/-- THE SECOND FORM's CARD OF 'exchequerlaw12.ExtNobody'. -/
def extNobodyUptoCard : Claim7 := { stood := { row := extNobodyUptoRow, standIns := [], harness := (true, "3037ac6d2657dd848afdbfde4b11be76adc8996ca32f1c5eadf68843a206c396"), looks := false }, kinds := [], alts := [], laidByText := true, laidKinds := [.data], laidTests := true, laidLooks := .later }
def ExtNobodyUptoCardSaid : Prop := Claim7.holds Tryz.pinned (.plain (OpenSpec.upto extNobodySpec)) extNobodyUptoCard
end Rows
end Go.Proofs.YtfbljmkjiaklfaaGreatDoor
