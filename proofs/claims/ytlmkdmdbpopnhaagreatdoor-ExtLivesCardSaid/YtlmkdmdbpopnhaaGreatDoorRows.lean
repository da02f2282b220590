/-
  NARROWER THAN 'FOR EVERY INPUT', by the rows' own cells (each row's printed sentence says how): ExtLives: laid · ExtFull: laid · ExtShape: laid · KvLives: laid · KvAtomic: laid · KvFull: laid.
  DERIVED. THE GIVEN ROWS OF THIS SEAT. 6 by the template 'for every input the law returns true; each argument reads behind the call as it read before'; 0 by the template 'total and deterministic' (their statements: YtlmkdmdbpopnhaaGreatDoorTotals.lean).
  GIVEN WITH THE SEED: the statements are not yours to turn. If you find one false, say at which input.
  Laid BY PROGRAM, IN A SANDBOX (cutbox-rows.mjs): the forced cells as the released guide's own fill.sh prints them over the translation 60df3f7007107e2f… (all of the seat's roots in one cut). By AI agents, Wed Nov 11 2026. No macro, syntax, notation, axiom, sorry.
-/
import Derived.Test.YtlmkdmdbpopnhaaGreatDoorChecked
import GoSem.Claim
import GoSem.ClaimJoined
import GoSem.ClaimMapViews
import Derived.JoinedTies
import Derived.KernelRfl
namespace Go.Proofs.YtlmkdmdbpopnhaaGreatDoor
/- THE CELL 'sum', in the pinned program and in every row, IS THE sha256 OF THE DUMP (.gsa) THAT YtlmkdmdbpopnhaaGreatDoorProg.lean LOADS. Nothing in Lean hashes anything: it is a label: what it is worth is what the hold of that sum in a sandbox is worth. -/
noncomputable def Tryz.pinned : Pinned := { name := "ytlmkdmdbpopnhaagreatdoor", sum := "60df3f7007107e2fe3ec321cc49b666f09579ae29c44ea47c0d0c3407243247c", checked := Tryz.checked }
namespace Rows
def none {H : Type} : Left H := { results := [], args := [] }

/- WHAT THE LISTED PACKAGE-LEVEL VARIABLES READ AS WHEN THE CALL BEGINS. Each datum BY PROGRAM (the guide's laid-datum.mjs) off the statement by which the dump's own 'gosem.cut.vars' lays the variable. In a bare row this is a premise. The card (YtlmkdmdbpopnhaaGreatDoorCards.lean) ties it to the program's text. -/
def laid_exchequer_crc_fourSteps {H : Type} : DataW H := .agg [.lit (.int .u32 0), .lit (.int .u32 498536548), .lit (.int .u32 997073096), .lit (.int .u32 651767980), .lit (.int .u32 1994146192), .lit (.int .u32 1802195444), .lit (.int .u32 1303535960), .lit (.int .u32 1342533948), .lit (.int .u32 3988292384), .lit (.int .u32 4027552580), .lit (.int .u32 3604390888), .lit (.int .u32 3412177804), .lit (.int .u32 2607071920), .lit (.int .u32 2262029012), .lit (.int .u32 2685067896), .lit (.int .u32 3183342108)]

/-- 'exchequerlaw12.ExtLives': WHATEVER THE INPUT: true; the input reads as it did. -/
def extLivesSpec : ChangeSpec := { name := "extLives", fn := fun _ => fun
  | [d] => { results := [.lit (.bool true)], args := [d] }
  | _ => none }
def extLivesRow : OpenClaim := { program := "ytlmkdmdbpopnhaagreatdoor", sum := "60df3f7007107e2fe3ec321cc49b666f09579ae29c44ea47c0d0c3407243247c", func := "exchequer/exchequerlaw12.ExtLives", spec := "extLives", inPlace := ["internal/bytealg.Compare"], unfollowed := true, recurses := true, named := ["exchequer/crc.fourSteps"], apart := false, laid := [("exchequer/crc.fourSteps", laid_exchequer_crc_fourSteps)] }
def ExtLivesSaid : Prop := extLivesRow.holds Tryz.pinned (OpenSpec.ofChange extLivesSpec)

/-- ITS FALSE NEIGHBOUR: 'it returns false'. Refute it at one input. -/
def extLivesWrong : ChangeSpec := { name := "extLives", fn := fun _ => fun
  | [d] => { results := [.lit (.bool false)], args := [d] }
  | _ => none }
def ExtLivesWrongFalsely : Prop := extLivesRow.holds Tryz.pinned (OpenSpec.ofChange extLivesWrong)

/-- 'exchequerlaw12.ExtFull': WHATEVER THE INPUT: true; the input reads as it did. -/
def extFullSpec : ChangeSpec := { name := "extFull", fn := fun _ => fun
  | [d1, d2] => { results := [.lit (.bool true)], args := [d1, d2] }
  | _ => none }
def extFullRow : OpenClaim := { program := "ytlmkdmdbpopnhaagreatdoor", sum := "60df3f7007107e2fe3ec321cc49b666f09579ae29c44ea47c0d0c3407243247c", func := "exchequer/exchequerlaw12.ExtFull", spec := "extFull", inPlace := ["internal/bytealg.Compare"], unfollowed := true, recurses := true, named := ["exchequer/crc.fourSteps"], apart := false, laid := [("exchequer/crc.fourSteps", laid_exchequer_crc_fourSteps)] }
def ExtFullSaid : Prop := extFullRow.holds Tryz.pinned (OpenSpec.ofChange extFullSpec)

/-- ITS FALSE NEIGHBOUR: 'it returns false'. Refute it at one input. -/
def extFullWrong : ChangeSpec := { name := "extFull", fn := fun _ => fun
  | [d1, d2] => { results := [.lit (.bool false)], args := [d1, d2] }
  | _ => none }
def ExtFullWrongFalsely : Prop := extFullRow.holds Tryz.pinned (OpenSpec.ofChange extFullWrong)

/-- 'exchequerlaw12.ExtShape': WHATEVER THE INPUT: true; the input reads as it did. -/
def extShapeSpec : ChangeSpec := { name := "extShape", fn := fun _ => fun
  | [d] => { results := [.lit (.bool true)], args := [d] }
  | _ => none }
def extShapeRow : OpenClaim := { program := "ytlmkdmdbpopnhaagreatdoor", sum := "60df3f7007107e2fe3ec321cc49b666f09579ae29c44ea47c0d0c3407243247c", func := "exchequer/exchequerlaw12.ExtShape", spec := "extShape", unfollowed := true, recurses := true, named := ["exchequer/crc.fourSteps"], apart := false, laid := [("exchequer/crc.fourSteps", laid_exchequer_crc_fourSteps)] }
def ExtShapeSaid : Prop := extShapeRow.holds Tryz.pinned (OpenSpec.ofChange extShapeSpec)

/-- ITS FALSE NEIGHBOUR: 'it returns false'. Refute it at one input. -/
def extShapeWrong : ChangeSpec := { name := "extShape", fn := fun _ => fun
  | [d] => { results := [.lit (.bool false)], args := [d] }
  | _ => none }
def ExtShapeWrongFalsely : Prop := extShapeRow.holds Tryz.pinned (OpenSpec.ofChange extShapeWrong)

/-- 'exchequerlaw13.KvLives': WHATEVER THE INPUT: true; the input reads as it did. -/
def kvLivesSpec : ChangeSpec := { name := "kvLives", fn := fun _ => fun
  | [d] => { results := [.lit (.bool true)], args := [d] }
  | _ => none }
def kvLivesRow : OpenClaim := { program := "ytlmkdmdbpopnhaagreatdoor", sum := "60df3f7007107e2fe3ec321cc49b666f09579ae29c44ea47c0d0c3407243247c", func := "exchequer/exchequerlaw13.KvLives", spec := "kvLives", inPlace := ["internal/bytealg.Compare"], unfollowed := true, recurses := true, named := ["exchequer/crc.fourSteps"], apart := false, laid := [("exchequer/crc.fourSteps", laid_exchequer_crc_fourSteps)] }
def KvLivesSaid : Prop := kvLivesRow.holds Tryz.pinned (OpenSpec.ofChange kvLivesSpec)

/-- ITS FALSE NEIGHBOUR: 'it returns false'. Refute it at one input. -/
def kvLivesWrong : ChangeSpec := { name := "kvLives", fn := fun _ => fun
  | [d] => { results := [.lit (.bool false)], args := [d] }
  | _ => none }
def KvLivesWrongFalsely : Prop := kvLivesRow.holds Tryz.pinned (OpenSpec.ofChange kvLivesWrong)

/-- 'exchequerlaw13.KvAtomic': WHATEVER THE INPUT: true; the input reads as it did. -/
def kvAtomicSpec : ChangeSpec := { name := "kvAtomic", fn := fun _ => fun
  | [d1, d2, d3, d4, d5] => { results := [.lit (.bool true)], args := [d1, d2, d3, d4, d5] }
  | _ => none }
def kvAtomicRow : OpenClaim := { program := "ytlmkdmdbpopnhaagreatdoor", sum := "60df3f7007107e2fe3ec321cc49b666f09579ae29c44ea47c0d0c3407243247c", func := "exchequer/exchequerlaw13.KvAtomic", spec := "kvAtomic", inPlace := ["internal/bytealg.Compare"], unfollowed := true, recurses := true, named := ["exchequer/crc.fourSteps"], apart := false, laid := [("exchequer/crc.fourSteps", laid_exchequer_crc_fourSteps)] }
def KvAtomicSaid : Prop := kvAtomicRow.holds Tryz.pinned (OpenSpec.ofChange kvAtomicSpec)

/-- ITS FALSE NEIGHBOUR: 'it returns false'. Refute it at one input. -/
def kvAtomicWrong : ChangeSpec := { name := "kvAtomic", fn := fun _ => fun
  | [d1, d2, d3, d4, d5] => { results := [.lit (.bool false)], args := [d1, d2, d3, d4, d5] }
  | _ => none }
def KvAtomicWrongFalsely : Prop := kvAtomicRow.holds Tryz.pinned (OpenSpec.ofChange kvAtomicWrong)

/-- 'exchequerlaw13.KvFull': WHATEVER THE INPUT: true; the input reads as it did. -/
def kvFullSpec : ChangeSpec := { name := "kvFull", fn := fun _ => fun
  | [d1, d2] => { results := [.lit (.bool true)], args := [d1, d2] }
  | _ => none }
def kvFullRow : OpenClaim := { program := "ytlmkdmdbpopnhaagreatdoor", sum := "60df3f7007107e2fe3ec321cc49b666f09579ae29c44ea47c0d0c3407243247c", func := "exchequer/exchequerlaw13.KvFull", spec := "kvFull", inPlace := ["internal/bytealg.Compare"], unfollowed := true, recurses := true, named := ["exchequer/crc.fourSteps"], apart := false, laid := [("exchequer/crc.fourSteps", laid_exchequer_crc_fourSteps)] }
def KvFullSaid : Prop := kvFullRow.holds Tryz.pinned (OpenSpec.ofChange kvFullSpec)

/-- ITS FALSE NEIGHBOUR: 'it returns false'. Refute it at one input. -/
def kvFullWrong : ChangeSpec := { name := "kvFull", fn := fun _ => fun
  | [d1, d2] => { results := [.lit (.bool false)], args := [d1, d2] }
  | _ => none }
def KvFullWrongFalsely : Prop := kvFullRow.holds Tryz.pinned (OpenSpec.ofChange kvFullWrong)

/- THE SECOND FORM. 'bulk': how many values and letters a reading holds, each counted each time it is reached (what is shared counts as often as it is met; a slice's spare places count too). A statement '..UptoSaid' is the law's where the arguments, and the package variables that the reading takes, are together of bulk at most 1048576: NARROWER than '..Said'. Prove '..Said' where nothing that the law and all that it calls make is longer than what came in: it says more and counts as full. Else prove '..UptoSaid'. A law counts once. -/
mutual
def uptoBulk {H : Type} : DataW H → Nat
  | .lit (.string bytes) => bytes.length + 1
  | .lit _ => 1
  | .nil => 1
  | .ptr d => uptoBulk d + 1
  | .slice elems spare => uptoBulkAll elems + uptoBulkAll spare + 1
  | .agg parts => uptoBulkAll parts + 1
  | .iface _ d => uptoBulk d + 1
  | .map entries => uptoBulkEntries entries + 1
  | .held _ => 1
def uptoBulkAll {H : Type} : List (DataW H) → Nat
  | [] => 0
  | d :: r => uptoBulk d + uptoBulkAll r
def uptoBulkEntries {H : Type} : List (Lit × DataW H) → Nat
  | [] => 0
  | x :: r => uptoBulkEntry x + uptoBulkEntries r
def uptoBulkEntry {H : Type} : Lit × DataW H → Nat
  | (.string bytes, d) => bytes.length + uptoBulk d + 1
  | (_, d) => uptoBulk d + 1
 end
def uptoSmall : (H : Type) → List (DataW H) → Bool := fun _ ds => decide (uptoBulkAll ds ≤ 1048576)
def OpenSpec.upto (s : _root_.Go.ChangeSpec) : _root_.Go.OpenSpec := { _root_.Go.OpenSpec.ofChange s with cond := some uptoSmall }

/-- 'exchequerlaw12.ExtLives', WHERE WHAT IT READS IS OF BULK AT MOST 1048576: true; the input reads as it did. -/
def extLivesUptoRow : OpenClaim := { program := "ytlmkdmdbpopnhaagreatdoor", sum := "60df3f7007107e2fe3ec321cc49b666f09579ae29c44ea47c0d0c3407243247c", func := "exchequer/exchequerlaw12.ExtLives", spec := "extLives", inPlace := ["internal/bytealg.Compare"], unfollowed := true, recurses := true, named := ["exchequer/crc.fourSteps"], apart := false, laid := [("exchequer/crc.fourSteps", laid_exchequer_crc_fourSteps)], narrowed := true }
def ExtLivesUptoSaid : Prop := extLivesUptoRow.holds Tryz.pinned (OpenSpec.upto extLivesSpec)

/-- 'exchequerlaw12.ExtFull', WHERE WHAT IT READS IS OF BULK AT MOST 1048576: true; the input reads as it did. -/
def extFullUptoRow : OpenClaim := { program := "ytlmkdmdbpopnhaagreatdoor", sum := "60df3f7007107e2fe3ec321cc49b666f09579ae29c44ea47c0d0c3407243247c", func := "exchequer/exchequerlaw12.ExtFull", spec := "extFull", inPlace := ["internal/bytealg.Compare"], unfollowed := true, recurses := true, named := ["exchequer/crc.fourSteps"], apart := false, laid := [("exchequer/crc.fourSteps", laid_exchequer_crc_fourSteps)], narrowed := true }
def ExtFullUptoSaid : Prop := extFullUptoRow.holds Tryz.pinned (OpenSpec.upto extFullSpec)

/-- 'exchequerlaw12.ExtShape', WHERE WHAT IT READS IS OF BULK AT MOST 1048576: true; the input reads as it did. -/
def extShapeUptoRow : OpenClaim := { program := "ytlmkdmdbpopnhaagreatdoor", sum := "60df3f7007107e2fe3ec321cc49b666f09579ae29c44ea47c0d0c3407243247c", func := "exchequer/exchequerlaw12.ExtShape", spec := "extShape", unfollowed := true, recurses := true, named := ["exchequer/crc.fourSteps"], apart := false, laid := [("exchequer/crc.fourSteps", laid_exchequer_crc_fourSteps)], narrowed := true }
def ExtShapeUptoSaid : Prop := extShapeUptoRow.holds Tryz.pinned (OpenSpec.upto extShapeSpec)

/-- 'exchequerlaw13.KvLives', WHERE WHAT IT READS IS OF BULK AT MOST 1048576: true; the input reads as it did. -/
def kvLivesUptoRow : OpenClaim := { program := "ytlmkdmdbpopnhaagreatdoor", sum := "60df3f7007107e2fe3ec321cc49b666f09579ae29c44ea47c0d0c3407243247c", func := "exchequer/exchequerlaw13.KvLives", spec := "kvLives", inPlace := ["internal/bytealg.Compare"], unfollowed := true, recurses := true, named := ["exchequer/crc.fourSteps"], apart := false, laid := [("exchequer/crc.fourSteps", laid_exchequer_crc_fourSteps)], narrowed := true }
def KvLivesUptoSaid : Prop := kvLivesUptoRow.holds Tryz.pinned (OpenSpec.upto kvLivesSpec)

/-- 'exchequerlaw13.KvAtomic', WHERE WHAT IT READS IS OF BULK AT MOST 1048576: true; the input reads as it did. -/
def kvAtomicUptoRow : OpenClaim := { program := "ytlmkdmdbpopnhaagreatdoor", sum := "60df3f7007107e2fe3ec321cc49b666f09579ae29c44ea47c0d0c3407243247c", func := "exchequer/exchequerlaw13.KvAtomic", spec := "kvAtomic", inPlace := ["internal/bytealg.Compare"], unfollowed := true, recurses := true, named := ["exchequer/crc.fourSteps"], apart := false, laid := [("exchequer/crc.fourSteps", laid_exchequer_crc_fourSteps)], narrowed := true }
def KvAtomicUptoSaid : Prop := kvAtomicUptoRow.holds Tryz.pinned (OpenSpec.upto kvAtomicSpec)

/-- 'exchequerlaw13.KvFull', WHERE WHAT IT READS IS OF BULK AT MOST 1048576: true; the input reads as it did. -/
def kvFullUptoRow : OpenClaim := { program := "ytlmkdmdbpopnhaagreatdoor", sum := "60df3f7007107e2fe3ec321cc49b666f09579ae29c44ea47c0d0c3407243247c", func := "exchequer/exchequerlaw13.KvFull", spec := "kvFull", inPlace := ["internal/bytealg.Compare"], unfollowed := true, recurses := true, named := ["exchequer/crc.fourSteps"], apart := false, laid := [("exchequer/crc.fourSteps", laid_exchequer_crc_fourSteps)], narrowed := true }
def KvFullUptoSaid : Prop := kvFullUptoRow.holds Tryz.pinned (OpenSpec.upto kvFullSpec)

end Rows
end Go.Proofs.YtlmkdmdbpopnhaaGreatDoor
