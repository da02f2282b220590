/-
  DERIVED. GIVEN WITH THE SEED: THE CARDS: each row of YtkpmfobmlaldfaaGreatDoorRows.lean that lists a variable, with what it lists TIED to the program's text (the seventh form; the later family's looks); each row that meets fmt, with fmt's text TOLD by the authors' own Lean function (tested against real Go, not proved from fmt's source: count such statements apart). THE CARD IS WHAT COUNTS. Prove the row's statement (the work); the ties are given (YtkpmfobmlaldfaaGreatDoorTie.lean); close each card by the builder's one call (the guide's Derived/Test/ToyasCard.lean, 'card_holds'). Laid BY PROGRAM, IN A SANDBOX (cutbox-door.mjs). By AI agents, Wed Nov 11 2026. No macro, syntax, notation, axiom, sorry.
-/
import Derived.Test.YtkpmfobmlaldfaaGreatDoorRows
import GoSem.ClaimSeven
namespace Go.Proofs.YtkpmfobmlaldfaaGreatDoor
namespace Rows

/-- THE TIED CARD OF 'exchequerlaw07.PagerLives'. -/
def pagerLivesCard : Claim7 := { stood := { row := pagerLivesRow, standIns := [], harness := (true, "92e5bfdf353f4344a1eba8b55447d4acbe34c8f0e362cfe18ee9bcbf9d1a910a"), looks := false }, kinds := [], alts := [], laidByText := true, laidKinds := [.data], laidTests := true, laidLooks := .later }
def PagerLivesCardSaid : Prop := Claim7.holds Tryz.pinned (.plain (OpenSpec.ofChange pagerLivesSpec)) pagerLivesCard

/-- THE TIED CARD OF 'exchequerlaw07.PagerAborts'. -/
def pagerAbortsCard : Claim7 := { stood := { row := pagerAbortsRow, standIns := [], harness := (true, "92e5bfdf353f4344a1eba8b55447d4acbe34c8f0e362cfe18ee9bcbf9d1a910a"), looks := false }, kinds := [], alts := [], laidByText := true, laidKinds := [.data], laidTests := true, laidLooks := .later }
def PagerAbortsCardSaid : Prop := Claim7.holds Tryz.pinned (.plain (OpenSpec.ofChange pagerAbortsSpec)) pagerAbortsCard

/-- THE TIED CARD OF 'exchequerlaw07.PagerNobody'. -/
def pagerNobodyCard : Claim7 := { stood := { row := pagerNobodyRow, standIns := [], harness := (true, "92e5bfdf353f4344a1eba8b55447d4acbe34c8f0e362cfe18ee9bcbf9d1a910a"), looks := false }, kinds := [], alts := [], laidByText := true, laidKinds := [.data], laidTests := true, laidLooks := .later }
def PagerNobodyCardSaid : Prop := Claim7.holds Tryz.pinned (.plain (OpenSpec.ofChange pagerNobodySpec)) pagerNobodyCard

/-- THE TIED CARD OF 'exchequerlaw12.ExtLives'. -/
def extLivesCard : Claim7 := { stood := { row := extLivesRow, standIns := [], harness := (true, "92e5bfdf353f4344a1eba8b55447d4acbe34c8f0e362cfe18ee9bcbf9d1a910a"), looks := false }, kinds := [], alts := [], laidByText := true, laidKinds := [.data], laidTests := true, laidLooks := .later }
def ExtLivesCardSaid : Prop := Claim7.holds Tryz.pinned (.plain (OpenSpec.ofChange extLivesSpec)) extLivesCard

/-- THE TIED CARD OF 'exchequerlaw12.ExtFull'. -/
def extFullCard : Claim7 := { stood := { row := extFullRow, standIns := [], harness := (true, "92e5bfdf353f4344a1eba8b55447d4acbe34c8f0e362cfe18ee9bcbf9d1a910a"), looks := false }, kinds := [], alts := [], laidByText := true, laidKinds := [.data], laidTests := true, laidLooks := .later }
def ExtFullCardSaid : Prop := Claim7.holds Tryz.pinned (.plain (OpenSpec.ofChange extFullSpec)) extFullCard

/-- THE TIED CARD OF 'exchequerlaw12.ExtShape'. -/
def extShapeCard : Claim7 := { stood := { row := extShapeRow, standIns := [], harness := (true, "92e5bfdf353f4344a1eba8b55447d4acbe34c8f0e362cfe18ee9bcbf9d1a910a"), looks := false }, kinds := [], alts := [], laidByText := true, laidKinds := [.data], laidTests := true, laidLooks := .later }
def ExtShapeCardSaid : Prop := Claim7.holds Tryz.pinned (.plain (OpenSpec.ofChange extShapeSpec)) extShapeCard

/-- THE TIED CARD OF 'exchequerlaw12.ExtNobody'. -/
def extNobodyCard : Claim7 := { stood := { row := extNobodyRow, standIns := [], harness := (true, "92e5bfdf353f4344a1eba8b55447d4acbe34c8f0e362cfe18ee9bcbf9d1a910a"), looks := false }, kinds := [], alts := [], laidByText := true, laidKinds := [.data], laidTests := true, laidLooks := .later }
def ExtNobodyCardSaid : Prop := Claim7.holds Tryz.pinned (.plain (OpenSpec.ofChange extNobodySpec)) extNobodyCard

/-- THE SECOND FORM's CARD OF 'exchequerlaw07.PagerLives'. -/
def pagerLivesUptoCard : Claim7 := { stood := { row := pagerLivesUptoRow, standIns := [], harness := (true, "92e5bfdf353f4344a1eba8b55447d4acbe34c8f0e362cfe18ee9bcbf9d1a910a"), looks := false }, kinds := [], alts := [], laidByText := true, laidKinds := [.data], laidTests := true, laidLooks := .later }
def PagerLivesUptoCardSaid : Prop := Claim7.holds Tryz.pinned (.plain (OpenSpec.upto pagerLivesSpec)) pagerLivesUptoCard

/-- THE SECOND FORM's CARD OF 'exchequerlaw07.PagerAborts'. -/
def pagerAbortsUptoCard : Claim7 := { stood := { row := pagerAbortsUptoRow, standIns := [], harness := (true, "92e5bfdf353f4344a1eba8b55447d4acbe34c8f0e362cfe18ee9bcbf9d1a910a"), looks := false }, kinds := [], alts := [], laidByText := true, laidKinds := [.data], laidTests := true, laidLooks := .later }
def PagerAbortsUptoCardSaid : Prop := Claim7.holds Tryz.pinned (.plain (OpenSpec.upto pagerAbortsSpec)) pagerAbortsUptoCard

/-- THE SECOND FORM's CARD OF 'exchequerlaw07.PagerNobody'. -/
def pagerNobodyUptoCard : Claim7 := { stood := { row := pagerNobodyUptoRow, standIns := [], harness := (true, "92e5bfdf353f4344a1eba8b55447d4acbe34c8f0e362cfe18ee9bcbf9d1a910a"), looks := false }, kinds := [], alts := [], laidByText := true, laidKinds := [.data], laidTests := true, laidLooks := .later }
def PagerNobodyUptoCardSaid : Prop := Claim7.holds Tryz.pinned (.plain (OpenSpec.upto pagerNobodySpec)) pagerNobodyUptoCard

/-- THE SECOND FORM's CARD OF 'exchequerlaw12.ExtLives'. -/
def extLivesUptoCard : Claim7 := { stood := { row := extLivesUptoRow, standIns := [], harness := (true, "92e5bfdf353f4344a1eba8b55447d4acbe34c8f0e362cfe18ee9bcbf9d1a910a"), looks := false }, kinds := [], alts := [], laidByText := true, laidKinds := [.data], laidTests := true, laidLooks := .later }
def ExtLivesUptoCardSaid : Prop := Claim7.holds Tryz.pinned (.plain (OpenSpec.upto extLivesSpec)) extLivesUptoCard

/-- THE SECOND FORM's CARD OF 'exchequerlaw12.ExtFull'. -/
def extFullUptoCard : Claim7 := { stood := { row := extFullUptoRow, standIns := [], harness := (true, "92e5bfdf353f4344a1eba8b55447d4acbe34c8f0e362cfe18ee9bcbf9d1a910a"), looks := false }, kinds := [], alts := [], laidByText := true, laidKinds := [.data], laidTests := true, laidLooks := .later }
def ExtFullUptoCardSaid : Prop := Claim7.holds Tryz.pinned (.plain (OpenSpec.upto extFullSpec)) extFullUptoCard

/-- THE SECOND FORM's CARD OF 'exchequerlaw12.ExtShape'. -/
def extShapeUptoCard : Claim7 := { stood := { row := extShapeUptoRow, standIns := [], harness := (true, "92e5bfdf353f4344a1eba8b55447d4acbe34c8f0e362cfe18ee9bcbf9d1a910a"), looks := false }, kinds := [], alts := [], laidByText := true, laidKinds := [.data], laidTests := true, laidLooks := .later }
def ExtShapeUptoCardSaid : Prop := Claim7.holds Tryz.pinned (.plain (OpenSpec.upto extShapeSpec)) extShapeUptoCard

/-- THE SECOND FORM's CARD OF 'exchequerlaw12.ExtNobody'. -/
def extNobodyUptoCard : Claim7 := { stood := { row := extNobodyUptoRow, standIns := [], harness := (true, "92e5bfdf353f4344a1eba8b55447d4acbe34c8f0e362cfe18ee9bcbf9d1a910a"), looks := false }, kinds := [], alts := [], laidByText := true, laidKinds := [.data], laidTests := true, laidLooks := .later }
def ExtNobodyUptoCardSaid : Prop := Claim7.holds Tryz.pinned (.plain (OpenSpec.upto extNobodySpec)) extNobodyUptoCard
end Rows
end Go.Proofs.YtkpmfobmlaldfaaGreatDoor
