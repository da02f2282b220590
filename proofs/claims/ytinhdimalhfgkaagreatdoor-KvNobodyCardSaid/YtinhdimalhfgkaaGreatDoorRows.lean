/-
  NARROWER THAN 'FOR EVERY INPUT', by the rows' own cells (each row's printed sentence says how): ExtLives: laid · ExtFull: laid · ExtShape: laid · ExtNobody: laid · KvNobody: laid.
  DERIVED. THE GIVEN ROWS OF THIS SEAT. 5 by the template 'for every input the law returns true; each argument reads behind the call as it read before'; 0 by the template 'total and deterministic' (their statements: YtinhdimalhfgkaaGreatDoorTotals.lean).
  GIVEN WITH THE SEED: the statements are not yours to turn. If you find one false, say at which input.
  Laid BY PROGRAM, IN A SANDBOX (cutbox-rows.mjs): the forced cells as the released guide's own fill.sh prints them over the translation b634ceadb5e44c61… (all of the seat's roots in one cut). By AI agents, Wed Nov 11 2026. No macro, syntax, notation, axiom, sorry.
-/
import Derived.Test.YtinhdimalhfgkaaGreatDoorChecked
import GoSem.Claim
import GoSem.ClaimJoined
import GoSem.ClaimMapViews
import Derived.JoinedTies
import Derived.KernelRfl
namespace Go.Proofs.YtinhdimalhfgkaaGreatDoor
/- THE CELL 'sum', in the pinned program and in every row, IS THE sha256 OF THE DUMP (.gsa) THAT YtinhdimalhfgkaaGreatDoorProg.lean LOADS. Nothing in Lean hashes anything: it is a label: what it is worth is what the hold of that sum in a sandbox is worth. -/
noncomputable def Tryz.pinned : Pinned := { name := "ytinhdimalhfgkaagreatdoor", sum := "b634ceadb5e44c6198b857daa7b71cdf580dc4fcea201b44c06a9ffbc24fa514", checked := Tryz.checked }
namespace Rows
def none {H : Type} : Left H := { results := [], args := [] }

/- WHAT THE LISTED PACKAGE-LEVEL VARIABLES READ AS WHEN THE CALL BEGINS. Each datum BY PROGRAM (the guide's laid-datum.mjs) off the statement by which the dump's own 'gosem.cut.vars' lays the variable. In a bare row this is a premise. The card (YtinhdimalhfgkaaGreatDoorCards.lean) ties it to the program's text. -/
def laid_exchequer_crc_fourSteps {H : Type} : DataW H := .agg [.lit (.int .u32 0), .lit (.int .u32 498536548), .lit (.int .u32 997073096), .lit (.int .u32 651767980), .lit (.int .u32 1994146192), .lit (.int .u32 1802195444), .lit (.int .u32 1303535960), .lit (.int .u32 1342533948), .lit (.int .u32 3988292384), .lit (.int .u32 4027552580), .lit (.int .u32 3604390888), .lit (.int .u32 3412177804), .lit (.int .u32 2607071920), .lit (.int .u32 2262029012), .lit (.int .u32 2685067896), .lit (.int .u32 3183342108)]

/-- 'exchequerlaw12.ExtLives': WHATEVER THE INPUT: true; the input reads as it did. -/
def extLivesSpec : ChangeSpec := { name := "extLives", fn := fun _ => fun
  | [d] => { results := [.lit (.bool true)], args := [d] }
  | _ => none }
def extLivesRow : OpenClaim := { program := "ytinhdimalhfgkaagreatdoor", sum := "b634ceadb5e44c6198b857daa7b71cdf580dc4fcea201b44c06a9ffbc24fa514", func := "exchequer/exchequerlaw12.ExtLives", spec := "extLives", inPlace := ["internal/bytealg.Compare"], unfollowed := true, recurses := true, named := ["exchequer/crc.fourSteps"], apart := false, laid := [("exchequer/crc.fourSteps", laid_exchequer_crc_fourSteps)] }
def ExtLivesSaid : Prop := extLivesRow.holds Tryz.pinned (OpenSpec.ofChange extLivesSpec)

/-- ITS FALSE NEIGHBOUR: 'it returns false'. Refute it at one input. -/
def extLivesWrong : ChangeSpec := { name := "extLives", fn := fun _ => fun
  | [d] => { results := [.lit (.bool false)], args := [d] }
  | _ => none }
def ExtLivesWrongFalsely : Prop := extLivesRow.holds Tryz.pinned (OpenSpec.ofChange extLivesWrong)

/-- 'exchequerlaw12.ExtFull': WHATEVER THE INPUT: true; the input reads as it did. -/
def extFullSpec : ChangeSpec := { name := "extFull", fn := fun _ => fun
  | [d1, d2] => { results := [.lit (.bool true)], args := [d1, d2] }
  | _ => none }
def extFullRow : OpenClaim := { program := "ytinhdimalhfgkaagreatdoor", sum := "b634ceadb5e44c6198b857daa7b71cdf580dc4fcea201b44c06a9ffbc24fa514", func := "exchequer/exchequerlaw12.ExtFull", spec := "extFull", inPlace := ["internal/bytealg.Compare"], unfollowed := true, recurses := true, named := ["exchequer/crc.fourSteps"], apart := false, laid := [("exchequer/crc.fourSteps", laid_exchequer_crc_fourSteps)] }
def ExtFullSaid : Prop := extFullRow.holds Tryz.pinned (OpenSpec.ofChange extFullSpec)

/-- ITS FALSE NEIGHBOUR: 'it returns false'. Refute it at one input. -/
def extFullWrong : ChangeSpec := { name := "extFull", fn := fun _ => fun
  | [d1, d2] => { results := [.lit (.bool false)], args := [d1, d2] }
  | _ => none }
def ExtFullWrongFalsely : Prop := extFullRow.holds Tryz.pinned (OpenSpec.ofChange extFullWrong)

/-- 'exchequerlaw12.ExtShape': WHATEVER THE INPUT: true; the input reads as it did. -/
def extShapeSpec : ChangeSpec := { name := "extShape", fn := fun _ => fun
  | [d] => { results := [.lit (.bool true)], args := [d] }
  | _ => none }
def extShapeRow : OpenClaim := { program := "ytinhdimalhfgkaagreatdoor", sum := "b634ceadb5e44c6198b857daa7b71cdf580dc4fcea201b44c06a9ffbc24fa514", func := "exchequer/exchequerlaw12.ExtShape", spec := "extShape", unfollowed := true, recurses := true, named := ["exchequer/crc.fourSteps"], apart := false, laid := [("exchequer/crc.fourSteps", laid_exchequer_crc_fourSteps)] }
def ExtShapeSaid : Prop := extShapeRow.holds Tryz.pinned (OpenSpec.ofChange extShapeSpec)

/-- ITS FALSE NEIGHBOUR: 'it returns false'. Refute it at one input. -/
def extShapeWrong : ChangeSpec := { name := "extShape", fn := fun _ => fun
  | [d] => { results := [.lit (.bool false)], args := [d] }
  | _ => none }
def ExtShapeWrongFalsely : Prop := extShapeRow.holds Tryz.pinned (OpenSpec.ofChange extShapeWrong)

/-- 'exchequerlaw12.ExtNobody': WHATEVER THE INPUT: true; the input reads as it did. -/
def extNobodySpec : ChangeSpec := { name := "extNobody", fn := fun _ => fun
  | [d] => { results := [.lit (.bool true)], args := [d] }
  | _ => none }
def extNobodyRow : OpenClaim := { program := "ytinhdimalhfgkaagreatdoor", sum := "b634ceadb5e44c6198b857daa7b71cdf580dc4fcea201b44c06a9ffbc24fa514", func := "exchequer/exchequerlaw12.ExtNobody", spec := "extNobody", inPlace := ["internal/bytealg.Compare"], unfollowed := true, recurses := true, named := ["exchequer/crc.fourSteps"], apart := false, laid := [("exchequer/crc.fourSteps", laid_exchequer_crc_fourSteps)] }
def ExtNobodySaid : Prop := extNobodyRow.holds Tryz.pinned (OpenSpec.ofChange extNobodySpec)

/-- ITS FALSE NEIGHBOUR: 'it returns false'. Refute it at one input. -/
def extNobodyWrong : ChangeSpec := { name := "extNobody", fn := fun _ => fun
  | [d] => { results := [.lit (.bool false)], args := [d] }
  | _ => none }
def ExtNobodyWrongFalsely : Prop := extNobodyRow.holds Tryz.pinned (OpenSpec.ofChange extNobodyWrong)

/-- 'exchequerlaw13.KvNobody': WHATEVER THE INPUT: true; the input reads as it did. -/
def kvNobodySpec : ChangeSpec := { name := "kvNobody", fn := fun _ => fun
  | [d] => { results := [.lit (.bool true)], args := [d] }
  | _ => none }
def kvNobodyRow : OpenClaim := { program := "ytinhdimalhfgkaagreatdoor", sum := "b634ceadb5e44c6198b857daa7b71cdf580dc4fcea201b44c06a9ffbc24fa514", func := "exchequer/exchequerlaw13.KvNobody", spec := "kvNobody", inPlace := ["internal/bytealg.Compare"], unfollowed := true, recurses := true, named := ["exchequer/crc.fourSteps"], apart := false, laid := [("exchequer/crc.fourSteps", laid_exchequer_crc_fourSteps)] }
def KvNobodySaid : Prop := kvNobodyRow.holds Tryz.pinned (OpenSpec.ofChange kvNobodySpec)

/-- ITS FALSE NEIGHBOUR: 'it returns false'. Refute it at one input. -/
def kvNobodyWrong : ChangeSpec := { name := "kvNobody", fn := fun _ => fun
  | [d] => { results := [.lit (.bool false)], args := [d] }
  | _ => none }
def KvNobodyWrongFalsely : Prop := kvNobodyRow.holds Tryz.pinned (OpenSpec.ofChange kvNobodyWrong)

/- THE SECOND FORM. 'bulk': how many values and letters a reading holds, each counted each time it is reached (what is shared counts as often as it is met; a slice's spare places count too). A statement '..UptoSaid' is the law's where the arguments, and the package variables that the reading takes, are together of bulk at most 1048576: NARROWER than '..Said'. Prove '..Said' where nothing that the law and all that it calls make is longer than what came in: it says more and counts as full. Else prove '..UptoSaid'. A law counts once. -/
mutual
def uptoBulk {H : Type} : DataW H → Nat
  | .lit (.string bytes) => bytes.length + 1
  | .lit _ => 1
  | .nil => 1
  | .ptr d => uptoBulk d + 1
  | .slice elems spare => uptoBulkAll elems + uptoBulkAll spare + 1
  | .agg parts => uptoBulkAll parts + 1
  | .iface _ d => uptoBulk d + 1
  | .map entries => uptoBulkEntries entries + 1
  | .held _ => 1
def uptoBulkAll {H : Type} : List (DataW H) → Nat
  | [] => 0
  | d :: r => uptoBulk d + uptoBulkAll r
def uptoBulkEntries {H : Type} : List (Lit × DataW H) → Nat
  | [] => 0
  | x :: r => uptoBulkEntry x + uptoBulkEntries r
def uptoBulkEntry {H : Type} : Lit × DataW H → Nat
  | (.string bytes, d) => bytes.length + uptoBulk d + 1
  | (_, d) => uptoBulk d + 1
 end
def uptoSmall : (H : Type) → List (DataW H) → Bool := fun _ ds => decide (uptoBulkAll ds ≤ 1048576)
def OpenSpec.upto (s : _root_.Go.ChangeSpec) : _root_.Go.OpenSpec := { _root_.Go.OpenSpec.ofChange s with cond := some uptoSmall }

/-- 'exchequerlaw12.ExtLives', WHERE WHAT IT READS IS OF BULK AT MOST 1048576: true; the input reads as it did. -/
def extLivesUptoRow : OpenClaim := { program := "ytinhdimalhfgkaagreatdoor", sum := "b634ceadb5e44c6198b857daa7b71cdf580dc4fcea201b44c06a9ffbc24fa514", func := "exchequer/exchequerlaw12.ExtLives", spec := "extLives", inPlace := ["internal/bytealg.Compare"], unfollowed := true, recurses := true, named := ["exchequer/crc.fourSteps"], apart := false, laid := [("exchequer/crc.fourSteps", laid_exchequer_crc_fourSteps)], narrowed := true }
def ExtLivesUptoSaid : Prop := extLivesUptoRow.holds Tryz.pinned (OpenSpec.upto extLivesSpec)

/-- 'exchequerlaw12.ExtFull', WHERE WHAT IT READS IS OF BULK AT MOST 1048576: true; the input reads as it did. -/
def extFullUptoRow : OpenClaim := { program := "ytinhdimalhfgkaagreatdoor", sum := "b634ceadb5e44c6198b857daa7b71cdf580dc4fcea201b44c06a9ffbc24fa514", func := "exchequer/exchequerlaw12.ExtFull", spec := "extFull", inPlace := ["internal/bytealg.Compare"], unfollowed := true, recurses := true, named := ["exchequer/crc.fourSteps"], apart := false, laid := [("exchequer/crc.fourSteps", laid_exchequer_crc_fourSteps)], narrowed := true }
def ExtFullUptoSaid : Prop := extFullUptoRow.holds Tryz.pinned (OpenSpec.upto extFullSpec)

/-- 'exchequerlaw12.ExtShape', WHERE WHAT IT READS IS OF BULK AT MOST 1048576: true; the input reads as it did. -/
def extShapeUptoRow : OpenClaim := { program := "ytinhdimalhfgkaagreatdoor", sum := "b634ceadb5e44c6198b857daa7b71cdf580dc4fcea201b44c06a9ffbc24fa514", func := "exchequer/exchequerlaw12.ExtShape", spec := "extShape", unfollowed := true, recurses := true, named := ["exchequer/crc.fourSteps"], apart := false, laid := [("exchequer/crc.fourSteps", laid_exchequer_crc_fourSteps)], narrowed := true }
def ExtShapeUptoSaid : Prop := extShapeUptoRow.holds Tryz.pinned (OpenSpec.upto extShapeSpec)

/-- 'exchequerlaw12.ExtNobody', WHERE WHAT IT READS IS OF BULK AT MOST 1048576: true; the input reads as it did. -/
def extNobodyUptoRow : OpenClaim := { program := "ytinhdimalhfgkaagreatdoor", sum := "b634ceadb5e44c6198b857daa7b71cdf580dc4fcea201b44c06a9ffbc24fa514", func := "exchequer/exchequerlaw12.ExtNobody", spec := "extNobody", inPlace := ["internal/bytealg.Compare"], unfollowed := true, recurses := true, named := ["exchequer/crc.fourSteps"], apart := false, laid := [("exchequer/crc.fourSteps", laid_exchequer_crc_fourSteps)], narrowed := true }
def ExtNobodyUptoSaid : Prop := extNobodyUptoRow.holds Tryz.pinned (OpenSpec.upto extNobodySpec)

/-- 'exchequerlaw13.KvNobody', WHERE WHAT IT READS IS OF BULK AT MOST 1048576: true; the input reads as it did. -/
def kvNobodyUptoRow : OpenClaim := { program := "ytinhdimalhfgkaagreatdoor", sum := "b634ceadb5e44c6198b857daa7b71cdf580dc4fcea201b44c06a9ffbc24fa514", func := "exchequer/exchequerlaw13.KvNobody", spec := "kvNobody", inPlace := ["internal/bytealg.Compare"], unfollowed := true, recurses := true, named := ["exchequer/crc.fourSteps"], apart := false, laid := [("exchequer/crc.fourSteps", laid_exchequer_crc_fourSteps)], narrowed := true }
def KvNobodyUptoSaid : Prop := kvNobodyUptoRow.holds Tryz.pinned (OpenSpec.upto kvNobodySpec)

end Rows
end Go.Proofs.YtinhdimalhfgkaaGreatDoor
