/-
  DERIVED. GIVEN WITH THE SEED: THE CARDS: each row of YtkpmfobmlaldfaaDoorRows.lean that lists a variable, with what it lists TIED to the program's text (the seventh form; the later family's looks); each row that meets fmt, with fmt's text TOLD by the authors' own Lean function (tested against real Go, not proved from fmt's source: count such statements apart). THE CARD IS WHAT COUNTS. Prove the row's statement (the work); the ties are given (YtkpmfobmlaldfaaDoorTie.lean); close each card by the builder's one call (the guide's Derived/Test/ToyasCard.lean, 'card_holds'). Laid BY PROGRAM, IN A SANDBOX (cutbox-door.mjs). By AI agents, Wed Nov 11 2026. No macro, syntax, notation, axiom, sorry.
-/
import Derived.Test.YtkpmfobmlaldfaaDoorRows
import GoSem.ClaimSeven
namespace Go.Proofs.YtkpmfobmlaldfaaDoor
namespace Rows

/-- THE TIED CARD OF 'exchequerlaw11.DirLives'. -/
def dirLivesCard : Claim7 := { stood := { row := dirLivesRow, standIns := [], harness := (true, "2465d9bc56bf5f6798a30840580babd80d328e9d4392f75dbaf7031284405367"), looks := false }, kinds := [], alts := [], laidByText := true, laidKinds := [.data], laidTests := true, laidLooks := .later }
def DirLivesCardSaid : Prop := Claim7.holds Tryd.pinned (.plain (OpenSpec.ofChange dirLivesSpec)) dirLivesCard

/-- THE TIED CARD OF 'exchequerlaw11.DirKeeps'. -/
def dirKeepsCard : Claim7 := { stood := { row := dirKeepsRow, standIns := [], harness := (true, "2465d9bc56bf5f6798a30840580babd80d328e9d4392f75dbaf7031284405367"), looks := false }, kinds := [], alts := [], laidByText := true, laidKinds := [.data], laidTests := true, laidLooks := .later }
def DirKeepsCardSaid : Prop := Claim7.holds Tryd.pinned (.plain (OpenSpec.ofChange dirKeepsSpec)) dirKeepsCard

/-- THE SECOND FORM's CARD OF 'exchequerlaw11.DirLives'. -/
def dirLivesUptoCard : Claim7 := { stood := { row := dirLivesUptoRow, standIns := [], harness := (true, "2465d9bc56bf5f6798a30840580babd80d328e9d4392f75dbaf7031284405367"), looks := false }, kinds := [], alts := [], laidByText := true, laidKinds := [.data], laidTests := true, laidLooks := .later }
def DirLivesUptoCardSaid : Prop := Claim7.holds Tryd.pinned (.plain (OpenSpec.upto dirLivesSpec)) dirLivesUptoCard

/-- THE SECOND FORM's CARD OF 'exchequerlaw11.DirKeeps'. -/
def dirKeepsUptoCard : Claim7 := { stood := { row := dirKeepsUptoRow, standIns := [], harness := (true, "2465d9bc56bf5f6798a30840580babd80d328e9d4392f75dbaf7031284405367"), looks := false }, kinds := [], alts := [], laidByText := true, laidKinds := [.data], laidTests := true, laidLooks := .later }
def DirKeepsUptoCardSaid : Prop := Claim7.holds Tryd.pinned (.plain (OpenSpec.upto dirKeepsSpec)) dirKeepsUptoCard
end Rows
end Go.Proofs.YtkpmfobmlaldfaaDoor
