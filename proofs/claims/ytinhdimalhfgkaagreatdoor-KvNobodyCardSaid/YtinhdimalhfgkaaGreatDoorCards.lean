/-
  DERIVED. GIVEN WITH THE SEED: THE CARDS: each row of YtinhdimalhfgkaaGreatDoorRows.lean that lists a variable, with what it lists TIED to the program's text (the seventh form; the later family's looks); each row that meets fmt, with fmt's text TOLD by the authors' own Lean function (tested against real Go, not proved from fmt's source: count such statements apart). THE CARD IS WHAT COUNTS. Prove the row's statement (the work); the ties are given (YtinhdimalhfgkaaGreatDoorTie.lean); close each card by the builder's one call (the guide's Derived/Test/ToyasCard.lean, 'card_holds'). Laid BY PROGRAM, IN A SANDBOX (cutbox-door.mjs). By AI agents, Wed Nov 11 2026. No macro, syntax, notation, axiom, sorry.
-/
import Derived.Test.YtinhdimalhfgkaaGreatDoorRows
import GoSem.ClaimSeven
namespace Go.Proofs.YtinhdimalhfgkaaGreatDoor
namespace Rows

/-- THE TIED CARD OF 'exchequerlaw12.ExtLives'. -/
def extLivesCard : Claim7 := { stood := { row := extLivesRow, standIns := [], harness := (true, "6392f68f0dc4b28ffad1c15e8043482eba0c33027caf3d558082ec251ee8c053"), looks := false }, kinds := [], alts := [], laidByText := true, laidKinds := [.data], laidTests := true, laidLooks := .later }
def ExtLivesCardSaid : Prop := Claim7.holds Tryz.pinned (.plain (OpenSpec.ofChange extLivesSpec)) extLivesCard

/-- THE TIED CARD OF 'exchequerlaw12.ExtFull'. -/
def extFullCard : Claim7 := { stood := { row := extFullRow, standIns := [], harness := (true, "6392f68f0dc4b28ffad1c15e8043482eba0c33027caf3d558082ec251ee8c053"), looks := false }, kinds := [], alts := [], laidByText := true, laidKinds := [.data], laidTests := true, laidLooks := .later }
def ExtFullCardSaid : Prop := Claim7.holds Tryz.pinned (.plain (OpenSpec.ofChange extFullSpec)) extFullCard

/-- THE TIED CARD OF 'exchequerlaw12.ExtShape'. -/
def extShapeCard : Claim7 := { stood := { row := extShapeRow, standIns := [], harness := (true, "6392f68f0dc4b28ffad1c15e8043482eba0c33027caf3d558082ec251ee8c053"), looks := false }, kinds := [], alts := [], laidByText := true, laidKinds := [.data], laidTests := true, laidLooks := .later }
def ExtShapeCardSaid : Prop := Claim7.holds Tryz.pinned (.plain (OpenSpec.ofChange extShapeSpec)) extShapeCard

/-- THE TIED CARD OF 'exchequerlaw12.ExtNobody'. -/
def extNobodyCard : Claim7 := { stood := { row := extNobodyRow, standIns := [], harness := (true, "6392f68f0dc4b28ffad1c15e8043482eba0c33027caf3d558082ec251ee8c053"), looks := false }, kinds := [], alts := [], laidByText := true, laidKinds := [.data], laidTests := true, laidLooks := .later }
def ExtNobodyCardSaid : Prop := Claim7.holds Tryz.pinned (.plain (OpenSpec.ofChange extNobodySpec)) extNobodyCard

/-- THE TIED CARD OF 'exchequerlaw13.KvNobody'. -/
def kvNobodyCard : Claim7 := { stood := { row := kvNobodyRow, standIns := [], harness := (true, "6392f68f0dc4b28ffad1c15e8043482eba0c33027caf3d558082ec251ee8c053"), looks := false }, kinds := [], alts := [], laidByText := true, laidKinds := [.data], laidTests := true, laidLooks := .later }
def KvNobodyCardSaid : Prop := Claim7.holds Tryz.pinned (.plain (OpenSpec.ofChange kvNobodySpec)) kvNobodyCard

/-- THE SECOND FORM's CARD OF 'exchequerlaw12.ExtLives'. -/
def extLivesUptoCard : Claim7 := { stood := { row := extLivesUptoRow, standIns := [], harness := (true, "6392f68f0dc4b28ffad1c15e8043482eba0c33027caf3d558082ec251ee8c053"), looks := false }, kinds := [], alts := [], laidByText := true, laidKinds := [.data], laidTests := true, laidLooks := .later }
def ExtLivesUptoCardSaid : Prop := Claim7.holds Tryz.pinned (.plain (OpenSpec.upto extLivesSpec)) extLivesUptoCard

/-- THE SECOND FORM's CARD OF 'exchequerlaw12.ExtFull'. -/
def extFullUptoCard : Claim7 := { stood := { row := extFullUptoRow, standIns := [], harness := (true, "6392f68f0dc4b28ffad1c15e8043482eba0c33027caf3d558082ec251ee8c053"), looks := false }, kinds := [], alts := [], laidByText := true, laidKinds := [.data], laidTests := true, laidLooks := .later }
def ExtFullUptoCardSaid : Prop := Claim7.holds Tryz.pinned (.plain (OpenSpec.upto extFullSpec)) extFullUptoCard

/-- THE SECOND FORM's CARD OF 'exchequerlaw12.ExtShape'. -/
def extShapeUptoCard : Claim7 := { stood := { row := extShapeUptoRow, standIns := [], harness := (true, "6392f68f0dc4b28ffad1c15e8043482eba0c33027caf3d558082ec251ee8c053"), looks := false }, kinds := [], alts := [], laidByText := true, laidKinds := [.data], laidTests := true, laidLooks := .later }
def ExtShapeUptoCardSaid : Prop := Claim7.holds Tryz.pinned (.plain (OpenSpec.upto extShapeSpec)) extShapeUptoCard

/-- THE SECOND FORM's CARD OF 'exchequerlaw12.ExtNobody'. -/
def extNobodyUptoCard : Claim7 := { stood := { row := extNobodyUptoRow, standIns := [], harness := (true, "6392f68f0dc4b28ffad1c15e8043482eba0c33027caf3d558082ec251ee8c053"), looks := false }, kinds := [], alts := [], laidByText := true, laidKinds := [.data], laidTests := true, laidLooks := .later }
def ExtNobodyUptoCardSaid : Prop := Claim7.holds Tryz.pinned (.plain (OpenSpec.upto extNobodySpec)) extNobodyUptoCard

/-- THE SECOND FORM's CARD OF 'exchequerlaw13.KvNobody'. -/
def kvNobodyUptoCard : Claim7 := { stood := { row := kvNobodyUptoRow, standIns := [], harness := (true, "6392f68f0dc4b28ffad1c15e8043482eba0c33027caf3d558082ec251ee8c053"), looks := false }, kinds := [], alts := [], laidByText := true, laidKinds := [.data], laidTests := true, laidLooks := .later }
def KvNobodyUptoCardSaid : Prop := Claim7.holds Tryz.pinned (.plain (OpenSpec.upto kvNobodySpec)) kvNobodyUptoCard
end Rows
end Go.Proofs.YtinhdimalhfgkaaGreatDoor
