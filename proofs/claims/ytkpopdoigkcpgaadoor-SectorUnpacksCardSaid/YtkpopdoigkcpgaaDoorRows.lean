/-
  NARROWER THAN 'FOR EVERY INPUT', by the rows' own cells (each row's printed sentence says how): SectorPacks: laid · SectorUnpacks: laid · SectorBack: laid.
  DERIVED. THE GIVEN ROWS OF THIS SEAT. 3 by the template 'for every input the law returns true; each argument reads behind the call as it read before'; 0 by the template 'total and deterministic' (their statements: YtkpopdoigkcpgaaDoorTotals.lean).
  GIVEN WITH THE SEED: the statements are not yours to turn. If you find one false, say at which input.
  Laid BY PROGRAM, IN A SANDBOX (cutbox-rows.mjs): the forced cells as the released guide's own fill.sh prints them over the translation 29509d5a602ed3b2… (all of the seat's roots in one cut). By AI agents, Wed Nov 11 2026. No macro, syntax, notation, axiom, sorry.
-/
import Derived.Test.YtkpopdoigkcpgaaDoorChecked
import GoSem.Claim
import GoSem.ClaimJoined
import GoSem.ClaimMapViews
import Derived.JoinedTies
import Derived.KernelRfl
namespace Go.Proofs.YtkpopdoigkcpgaaDoor
/- THE CELL 'sum', in the pinned program and in every row, IS THE sha256 OF THE DUMP (.gsa) THAT YtkpopdoigkcpgaaDoorProg.lean LOADS. Nothing in Lean hashes anything: it is a label: what it is worth is what the hold of that sum in a sandbox is worth. -/
noncomputable def Tryd.pinned : Pinned := { name := "ytkpopdoigkcpgaadoor", sum := "29509d5a602ed3b2df0c296751c9ea123834a2e0ba4008a4d0bfa175be6827f6", checked := Tryd.checked }
namespace Rows
def none {H : Type} : Left H := { results := [], args := [] }

/- WHAT THE LISTED PACKAGE-LEVEL VARIABLES READ AS WHEN THE CALL BEGINS. Each datum BY PROGRAM (the guide's laid-datum.mjs) off the statement by which the dump's own 'gosem.cut.vars' lays the variable. In a bare row this is a premise. The card (YtkpopdoigkcpgaaDoorCards.lean) ties it to the program's text. -/
def laid_exchequer_crc_fourSteps {H : Type} : DataW H := .agg [.lit (.int .u32 0), .lit (.int .u32 498536548), .lit (.int .u32 997073096), .lit (.int .u32 651767980), .lit (.int .u32 1994146192), .lit (.int .u32 1802195444), .lit (.int .u32 1303535960), .lit (.int .u32 1342533948), .lit (.int .u32 3988292384), .lit (.int .u32 4027552580), .lit (.int .u32 3604390888), .lit (.int .u32 3412177804), .lit (.int .u32 2607071920), .lit (.int .u32 2262029012), .lit (.int .u32 2685067896), .lit (.int .u32 3183342108)]

/-- 'exchequerlaw04.SectorPacks': WHATEVER THE INPUT: true; the input reads as it did. -/
def sectorPacksSpec : ChangeSpec := { name := "sectorPacks", fn := fun _ => fun
  | [d1, d2, d3] => { results := [.lit (.bool true)], args := [d1, d2, d3] }
  | _ => none }
def sectorPacksRow : OpenClaim := { program := "ytkpopdoigkcpgaadoor", sum := "29509d5a602ed3b2df0c296751c9ea123834a2e0ba4008a4d0bfa175be6827f6", func := "exchequer/exchequerlaw04.SectorPacks", spec := "sectorPacks", named := ["exchequer/crc.fourSteps"], apart := false, laid := [("exchequer/crc.fourSteps", laid_exchequer_crc_fourSteps)] }
def SectorPacksSaid : Prop := sectorPacksRow.holds Tryd.pinned (OpenSpec.ofChange sectorPacksSpec)

/-- ITS FALSE NEIGHBOUR: 'it returns false'. Refute it at one input. -/
def sectorPacksWrong : ChangeSpec := { name := "sectorPacks", fn := fun _ => fun
  | [d1, d2, d3] => { results := [.lit (.bool false)], args := [d1, d2, d3] }
  | _ => none }
def SectorPacksWrongFalsely : Prop := sectorPacksRow.holds Tryd.pinned (OpenSpec.ofChange sectorPacksWrong)

/-- 'exchequerlaw04.SectorUnpacks': WHATEVER THE INPUT: true; the input reads as it did. -/
def sectorUnpacksSpec : ChangeSpec := { name := "sectorUnpacks", fn := fun _ => fun
  | [d] => { results := [.lit (.bool true)], args := [d] }
  | _ => none }
def sectorUnpacksRow : OpenClaim := { program := "ytkpopdoigkcpgaadoor", sum := "29509d5a602ed3b2df0c296751c9ea123834a2e0ba4008a4d0bfa175be6827f6", func := "exchequer/exchequerlaw04.SectorUnpacks", spec := "sectorUnpacks", named := ["exchequer/crc.fourSteps"], apart := false, laid := [("exchequer/crc.fourSteps", laid_exchequer_crc_fourSteps)] }
def SectorUnpacksSaid : Prop := sectorUnpacksRow.holds Tryd.pinned (OpenSpec.ofChange sectorUnpacksSpec)

/-- ITS FALSE NEIGHBOUR: 'it returns false'. Refute it at one input. -/
def sectorUnpacksWrong : ChangeSpec := { name := "sectorUnpacks", fn := fun _ => fun
  | [d] => { results := [.lit (.bool false)], args := [d] }
  | _ => none }
def SectorUnpacksWrongFalsely : Prop := sectorUnpacksRow.holds Tryd.pinned (OpenSpec.ofChange sectorUnpacksWrong)

/-- 'exchequerlaw04.SectorBack': WHATEVER THE INPUT: true; the input reads as it did. -/
def sectorBackSpec : ChangeSpec := { name := "sectorBack", fn := fun _ => fun
  | [d1, d2, d3, d4, d5, d6] => { results := [.lit (.bool true)], args := [d1, d2, d3, d4, d5, d6] }
  | _ => none }
def sectorBackRow : OpenClaim := { program := "ytkpopdoigkcpgaadoor", sum := "29509d5a602ed3b2df0c296751c9ea123834a2e0ba4008a4d0bfa175be6827f6", func := "exchequer/exchequerlaw04.SectorBack", spec := "sectorBack", named := ["exchequer/crc.fourSteps"], apart := false, laid := [("exchequer/crc.fourSteps", laid_exchequer_crc_fourSteps)] }
def SectorBackSaid : Prop := sectorBackRow.holds Tryd.pinned (OpenSpec.ofChange sectorBackSpec)

/-- ITS FALSE NEIGHBOUR: 'it returns false'. Refute it at one input. -/
def sectorBackWrong : ChangeSpec := { name := "sectorBack", fn := fun _ => fun
  | [d1, d2, d3, d4, d5, d6] => { results := [.lit (.bool false)], args := [d1, d2, d3, d4, d5, d6] }
  | _ => none }
def SectorBackWrongFalsely : Prop := sectorBackRow.holds Tryd.pinned (OpenSpec.ofChange sectorBackWrong)

/- THE SECOND FORM. 'bulk': how many values and letters a reading holds, each counted each time it is reached (what is shared counts as often as it is met; a slice's spare places count too). A statement '..UptoSaid' is the law's where the arguments, and the package variables that the reading takes, are together of bulk at most 1048576: NARROWER than '..Said'. Prove '..Said' where nothing that the law and all that it calls make is longer than what came in: it says more and counts as full. Else prove '..UptoSaid'. A law counts once. -/
mutual
def uptoBulk {H : Type} : DataW H → Nat
  | .lit (.string bytes) => bytes.length + 1
  | .lit _ => 1
  | .nil => 1
  | .ptr d => uptoBulk d + 1
  | .slice elems spare => uptoBulkAll elems + uptoBulkAll spare + 1
  | .agg parts => uptoBulkAll parts + 1
  | .iface _ d => uptoBulk d + 1
  | .map entries => uptoBulkEntries entries + 1
  | .held _ => 1
def uptoBulkAll {H : Type} : List (DataW H) → Nat
  | [] => 0
  | d :: r => uptoBulk d + uptoBulkAll r
def uptoBulkEntries {H : Type} : List (Lit × DataW H) → Nat
  | [] => 0
  | x :: r => uptoBulkEntry x + uptoBulkEntries r
def uptoBulkEntry {H : Type} : Lit × DataW H → Nat
  | (.string bytes, d) => bytes.length + uptoBulk d + 1
  | (_, d) => uptoBulk d + 1
 end
def uptoSmall : (H : Type) → List (DataW H) → Bool := fun _ ds => decide (uptoBulkAll ds ≤ 1048576)
def OpenSpec.upto (s : _root_.Go.ChangeSpec) : _root_.Go.OpenSpec := { _root_.Go.OpenSpec.ofChange s with cond := some uptoSmall }

/-- 'exchequerlaw04.SectorPacks', WHERE WHAT IT READS IS OF BULK AT MOST 1048576: true; the input reads as it did. -/
def sectorPacksUptoRow : OpenClaim := { program := "ytkpopdoigkcpgaadoor", sum := "29509d5a602ed3b2df0c296751c9ea123834a2e0ba4008a4d0bfa175be6827f6", func := "exchequer/exchequerlaw04.SectorPacks", spec := "sectorPacks", named := ["exchequer/crc.fourSteps"], apart := false, laid := [("exchequer/crc.fourSteps", laid_exchequer_crc_fourSteps)], narrowed := true }
def SectorPacksUptoSaid : Prop := sectorPacksUptoRow.holds Tryd.pinned (OpenSpec.upto sectorPacksSpec)

/-- 'exchequerlaw04.SectorUnpacks', WHERE WHAT IT READS IS OF BULK AT MOST 1048576: true; the input reads as it did. -/
def sectorUnpacksUptoRow : OpenClaim := { program := "ytkpopdoigkcpgaadoor", sum := "29509d5a602ed3b2df0c296751c9ea123834a2e0ba4008a4d0bfa175be6827f6", func := "exchequer/exchequerlaw04.SectorUnpacks", spec := "sectorUnpacks", named := ["exchequer/crc.fourSteps"], apart := false, laid := [("exchequer/crc.fourSteps", laid_exchequer_crc_fourSteps)], narrowed := true }
def SectorUnpacksUptoSaid : Prop := sectorUnpacksUptoRow.holds Tryd.pinned (OpenSpec.upto sectorUnpacksSpec)

/-- 'exchequerlaw04.SectorBack', WHERE WHAT IT READS IS OF BULK AT MOST 1048576: true; the input reads as it did. -/
def sectorBackUptoRow : OpenClaim := { program := "ytkpopdoigkcpgaadoor", sum := "29509d5a602ed3b2df0c296751c9ea123834a2e0ba4008a4d0bfa175be6827f6", func := "exchequer/exchequerlaw04.SectorBack", spec := "sectorBack", named := ["exchequer/crc.fourSteps"], apart := false, laid := [("exchequer/crc.fourSteps", laid_exchequer_crc_fourSteps)], narrowed := true }
def SectorBackUptoSaid : Prop := sectorBackUptoRow.holds Tryd.pinned (OpenSpec.upto sectorBackSpec)

end Rows
end Go.Proofs.YtkpopdoigkcpgaaDoor
