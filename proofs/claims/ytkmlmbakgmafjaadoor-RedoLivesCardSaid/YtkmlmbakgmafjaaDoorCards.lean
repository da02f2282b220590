/-
  DERIVED. GIVEN WITH THE SEED: THE CARDS: each row of YtkmlmbakgmafjaaDoorRows.lean that lists a variable, with what it lists TIED to the program's text (the seventh form; the later family's looks); each row that meets fmt, with fmt's text TOLD by the authors' own Lean function (tested against real Go, not proved from fmt's source: count such statements apart). THE CARD IS WHAT COUNTS. Prove the row's statement (the work); the ties are given (YtkmlmbakgmafjaaDoorTie.lean); close each card by the builder's one call (the guide's Derived/Test/ToyasCard.lean, 'card_holds'). Laid BY PROGRAM, IN A SANDBOX (cutbox-door.mjs). By AI agents, Wed Nov 11 2026. No macro, syntax, notation, axiom, sorry.
-/
import Derived.Test.YtkmlmbakgmafjaaDoorRows
import GoSem.ClaimSeven
namespace Go.Proofs.YtkmlmbakgmafjaaDoor
namespace Rows

/-- THE TIED CARD OF 'exchequerlaw06.RedoLives'. -/
def redoLivesCard : Claim7 := { stood := { row := redoLivesRow, standIns := [], harness := (true, "79c1fae1c0540a875b81f449fe8c706bcc20d8bc6e51ea329d4d4b88a303516d"), looks := false }, kinds := [], alts := [], laidByText := true, laidKinds := [.data], laidTests := true, laidLooks := .later }
def RedoLivesCardSaid : Prop := Claim7.holds Tryd.pinned (.plain (OpenSpec.ofChange redoLivesSpec)) redoLivesCard

/-- THE TIED CARD OF 'exchequerlaw06.RedoAtomic'. -/
def redoAtomicCard : Claim7 := { stood := { row := redoAtomicRow, standIns := [], harness := (true, "79c1fae1c0540a875b81f449fe8c706bcc20d8bc6e51ea329d4d4b88a303516d"), looks := false }, kinds := [], alts := [], laidByText := true, laidKinds := [.data], laidTests := true, laidLooks := .later }
def RedoAtomicCardSaid : Prop := Claim7.holds Tryd.pinned (.plain (OpenSpec.ofChange redoAtomicSpec)) redoAtomicCard

/-- THE TIED CARD OF 'exchequerlaw06.RedoWrites'. -/
def redoWritesCard : Claim7 := { stood := { row := redoWritesRow, standIns := [], harness := (true, "79c1fae1c0540a875b81f449fe8c706bcc20d8bc6e51ea329d4d4b88a303516d"), looks := false }, kinds := [], alts := [], laidByText := true, laidKinds := [.data], laidTests := true, laidLooks := .later }
def RedoWritesCardSaid : Prop := Claim7.holds Tryd.pinned (.plain (OpenSpec.ofChange redoWritesSpec)) redoWritesCard

/-- THE TIED CARD OF 'exchequerlaw06.RedoNobody'. -/
def redoNobodyCard : Claim7 := { stood := { row := redoNobodyRow, standIns := [], harness := (true, "79c1fae1c0540a875b81f449fe8c706bcc20d8bc6e51ea329d4d4b88a303516d"), looks := false }, kinds := [], alts := [], laidByText := true, laidKinds := [.data], laidTests := true, laidLooks := .later }
def RedoNobodyCardSaid : Prop := Claim7.holds Tryd.pinned (.plain (OpenSpec.ofChange redoNobodySpec)) redoNobodyCard

/-- THE SECOND FORM's CARD OF 'exchequerlaw06.RedoLives'. -/
def redoLivesUptoCard : Claim7 := { stood := { row := redoLivesUptoRow, standIns := [], harness := (true, "79c1fae1c0540a875b81f449fe8c706bcc20d8bc6e51ea329d4d4b88a303516d"), looks := false }, kinds := [], alts := [], laidByText := true, laidKinds := [.data], laidTests := true, laidLooks := .later }
def RedoLivesUptoCardSaid : Prop := Claim7.holds Tryd.pinned (.plain (OpenSpec.upto redoLivesSpec)) redoLivesUptoCard

/-- THE SECOND FORM's CARD OF 'exchequerlaw06.RedoAtomic'. -/
def redoAtomicUptoCard : Claim7 := { stood := { row := redoAtomicUptoRow, standIns := [], harness := (true, "79c1fae1c0540a875b81f449fe8c706bcc20d8bc6e51ea329d4d4b88a303516d"), looks := false }, kinds := [], alts := [], laidByText := true, laidKinds := [.data], laidTests := true, laidLooks := .later }
def RedoAtomicUptoCardSaid : Prop := Claim7.holds Tryd.pinned (.plain (OpenSpec.upto redoAtomicSpec)) redoAtomicUptoCard

/-- THE SECOND FORM's CARD OF 'exchequerlaw06.RedoWrites'. -/
def redoWritesUptoCard : Claim7 := { stood := { row := redoWritesUptoRow, standIns := [], harness := (true, "79c1fae1c0540a875b81f449fe8c706bcc20d8bc6e51ea329d4d4b88a303516d"), looks := false }, kinds := [], alts := [], laidByText := true, laidKinds := [.data], laidTests := true, laidLooks := .later }
def RedoWritesUptoCardSaid : Prop := Claim7.holds Tryd.pinned (.plain (OpenSpec.upto redoWritesSpec)) redoWritesUptoCard

/-- THE SECOND FORM's CARD OF 'exchequerlaw06.RedoNobody'. -/
def redoNobodyUptoCard : Claim7 := { stood := { row := redoNobodyUptoRow, standIns := [], harness := (true, "79c1fae1c0540a875b81f449fe8c706bcc20d8bc6e51ea329d4d4b88a303516d"), looks := false }, kinds := [], alts := [], laidByText := true, laidKinds := [.data], laidTests := true, laidLooks := .later }
def RedoNobodyUptoCardSaid : Prop := Claim7.holds Tryd.pinned (.plain (OpenSpec.upto redoNobodySpec)) redoNobodyUptoCard
end Rows
end Go.Proofs.YtkmlmbakgmafjaaDoor
