/-
  NARROWER THAN 'FOR EVERY INPUT', by the rows' own cells (each row's printed sentence says how): PagerLives: laid · PagerAborts: laid · PagerNobody: laid.
  DERIVED. THE GIVEN ROWS OF THIS SEAT. 3 by the template 'for every input the law returns true; each argument reads behind the call as it read before'; 0 by the template 'total and deterministic' (their statements: YtenpmaagnljabaaGreatDoorTotals.lean).
  GIVEN WITH THE SEED: the statements are not yours to turn. If you find one false, say at which input.
  Laid BY PROGRAM, IN A SANDBOX (cutbox-rows.mjs): the forced cells as the released guide's own fill.sh prints them over the translation beb32743bb06da5a… (all of the seat's roots in one cut). By AI agents, Wed Nov 11 2026. No macro, syntax, notation, axiom, sorry.
-/
import Derived.Test.YtenpmaagnljabaaGreatDoorChecked
import GoSem.Claim
import GoSem.ClaimJoined
import GoSem.ClaimMapViews
import Derived.JoinedTies
import Derived.KernelRfl
namespace Go.Proofs.YtenpmaagnljabaaGreatDoor
/- THE CELL 'sum', in the pinned program and in every row, IS THE sha256 OF THE DUMP (.gsa) THAT YtenpmaagnljabaaGreatDoorProg.lean LOADS. Nothing in Lean hashes anything: it is a label: what it is worth is what the hold of that sum in a sandbox is worth. -/
noncomputable def Tryz.pinned : Pinned := { name := "ytenpmaagnljabaagreatdoor", sum := "beb32743bb06da5a1b8a86aeb111e987929875fc0217444206076dcb4aa6aa91", checked := Tryz.checked }
namespace Rows
def none {H : Type} : Left H := { results := [], args := [] }

/- WHAT THE LISTED PACKAGE-LEVEL VARIABLES READ AS WHEN THE CALL BEGINS. Each datum BY PROGRAM (the guide's laid-datum.mjs) off the statement by which the dump's own 'gosem.cut.vars' lays the variable. In a bare row this is a premise. The card (YtenpmaagnljabaaGreatDoorCards.lean) ties it to the program's text. -/
def laid_exchequer_crc_fourSteps {H : Type} : DataW H := .agg [.lit (.int .u32 0), .lit (.int .u32 498536548), .lit (.int .u32 997073096), .lit (.int .u32 651767980), .lit (.int .u32 1994146192), .lit (.int .u32 1802195444), .lit (.int .u32 1303535960), .lit (.int .u32 1342533948), .lit (.int .u32 3988292384), .lit (.int .u32 4027552580), .lit (.int .u32 3604390888), .lit (.int .u32 3412177804), .lit (.int .u32 2607071920), .lit (.int .u32 2262029012), .lit (.int .u32 2685067896), .lit (.int .u32 3183342108)]

/-- 'exchequerlaw07.PagerLives': WHATEVER THE INPUT: true; the input reads as it did. -/
def pagerLivesSpec : ChangeSpec := { name := "pagerLives", fn := fun _ => fun
  | [d1, d2] => { results := [.lit (.bool true)], args := [d1, d2] }
  | _ => none }
def pagerLivesRow : OpenClaim := { program := "ytenpmaagnljabaagreatdoor", sum := "beb32743bb06da5a1b8a86aeb111e987929875fc0217444206076dcb4aa6aa91", func := "exchequer/exchequerlaw07.PagerLives", spec := "pagerLives", inPlace := ["internal/bytealg.MakeNoZero"], unfollowed := true, recurses := true, named := ["exchequer/crc.fourSteps"], apart := false, laid := [("exchequer/crc.fourSteps", laid_exchequer_crc_fourSteps)] }
def PagerLivesSaid : Prop := pagerLivesRow.holds Tryz.pinned (OpenSpec.ofChange pagerLivesSpec)

/-- ITS FALSE NEIGHBOUR: 'it returns false'. Refute it at one input. -/
def pagerLivesWrong : ChangeSpec := { name := "pagerLives", fn := fun _ => fun
  | [d1, d2] => { results := [.lit (.bool false)], args := [d1, d2] }
  | _ => none }
def PagerLivesWrongFalsely : Prop := pagerLivesRow.holds Tryz.pinned (OpenSpec.ofChange pagerLivesWrong)

/-- 'exchequerlaw07.PagerAborts': WHATEVER THE INPUT: true; the input reads as it did. -/
def pagerAbortsSpec : ChangeSpec := { name := "pagerAborts", fn := fun _ => fun
  | [d1, d2] => { results := [.lit (.bool true)], args := [d1, d2] }
  | _ => none }
def pagerAbortsRow : OpenClaim := { program := "ytenpmaagnljabaagreatdoor", sum := "beb32743bb06da5a1b8a86aeb111e987929875fc0217444206076dcb4aa6aa91", func := "exchequer/exchequerlaw07.PagerAborts", spec := "pagerAborts", inPlace := ["internal/bytealg.MakeNoZero"], unfollowed := true, recurses := true, named := ["exchequer/crc.fourSteps"], apart := false, laid := [("exchequer/crc.fourSteps", laid_exchequer_crc_fourSteps)] }
def PagerAbortsSaid : Prop := pagerAbortsRow.holds Tryz.pinned (OpenSpec.ofChange pagerAbortsSpec)

/-- ITS FALSE NEIGHBOUR: 'it returns false'. Refute it at one input. -/
def pagerAbortsWrong : ChangeSpec := { name := "pagerAborts", fn := fun _ => fun
  | [d1, d2] => { results := [.lit (.bool false)], args := [d1, d2] }
  | _ => none }
def PagerAbortsWrongFalsely : Prop := pagerAbortsRow.holds Tryz.pinned (OpenSpec.ofChange pagerAbortsWrong)

/-- 'exchequerlaw07.PagerNobody': WHATEVER THE INPUT: true; the input reads as it did. -/
def pagerNobodySpec : ChangeSpec := { name := "pagerNobody", fn := fun _ => fun
  | [d] => { results := [.lit (.bool true)], args := [d] }
  | _ => none }
def pagerNobodyRow : OpenClaim := { program := "ytenpmaagnljabaagreatdoor", sum := "beb32743bb06da5a1b8a86aeb111e987929875fc0217444206076dcb4aa6aa91", func := "exchequer/exchequerlaw07.PagerNobody", spec := "pagerNobody", inPlace := ["internal/bytealg.MakeNoZero"], unfollowed := true, recurses := true, named := ["exchequer/crc.fourSteps"], apart := false, laid := [("exchequer/crc.fourSteps", laid_exchequer_crc_fourSteps)] }
def PagerNobodySaid : Prop := pagerNobodyRow.holds Tryz.pinned (OpenSpec.ofChange pagerNobodySpec)

/-- ITS FALSE NEIGHBOUR: 'it returns false'. Refute it at one input. -/
def pagerNobodyWrong : ChangeSpec := { name := "pagerNobody", fn := fun _ => fun
  | [d] => { results := [.lit (.bool false)], args := [d] }
  | _ => none }
def PagerNobodyWrongFalsely : Prop := pagerNobodyRow.holds Tryz.pinned (OpenSpec.ofChange pagerNobodyWrong)

/- THE SECOND FORM. 'bulk': how many values and letters a reading holds, each counted each time it is reached (what is shared counts as often as it is met; a slice's spare places count too). A statement '..UptoSaid' is the law's where the arguments, and the package variables that the reading takes, are together of bulk at most 1048576: NARROWER than '..Said'. Prove '..Said' where nothing that the law and all that it calls make is longer than what came in: it says more and counts as full. Else prove '..UptoSaid'. A law counts once. -/
mutual
def uptoBulk {H : Type} : DataW H → Nat
  | .lit (.string bytes) => bytes.length + 1
  | .lit _ => 1
  | .nil => 1
  | .ptr d => uptoBulk d + 1
  | .slice elems spare => uptoBulkAll elems + uptoBulkAll spare + 1
  | .agg parts => uptoBulkAll parts + 1
  | .iface _ d => uptoBulk d + 1
  | .map entries => uptoBulkEntries entries + 1
  | .held _ => 1
def uptoBulkAll {H : Type} : List (DataW H) → Nat
  | [] => 0
  | d :: r => uptoBulk d + uptoBulkAll r
def uptoBulkEntries {H : Type} : List (Lit × DataW H) → Nat
  | [] => 0
  | x :: r => uptoBulkEntry x + uptoBulkEntries r
def uptoBulkEntry {H : Type} : Lit × DataW H → Nat
  | (.string bytes, d) => bytes.length + uptoBulk d + 1
  | (_, d) => uptoBulk d + 1
 end
def uptoSmall : (H : Type) → List (DataW H) → Bool := fun _ ds => decide (uptoBulkAll ds ≤ 1048576)
def OpenSpec.upto (s : _root_.Go.ChangeSpec) : _root_.Go.OpenSpec := { _root_.Go.OpenSpec.ofChange s with cond := some uptoSmall }

/-- 'exchequerlaw07.PagerLives', WHERE WHAT IT READS IS OF BULK AT MOST 1048576: true; the input reads as it did. -/
def pagerLivesUptoRow : OpenClaim := { program := "ytenpmaagnljabaagreatdoor", sum := "beb32743bb06da5a1b8a86aeb111e987929875fc0217444206076dcb4aa6aa91", func := "exchequer/exchequerlaw07.PagerLives", spec := "pagerLives", inPlace := ["internal/bytealg.MakeNoZero"], unfollowed := true, recurses := true, named := ["exchequer/crc.fourSteps"], apart := false, laid := [("exchequer/crc.fourSteps", laid_exchequer_crc_fourSteps)], narrowed := true }
def PagerLivesUptoSaid : Prop := pagerLivesUptoRow.holds Tryz.pinned (OpenSpec.upto pagerLivesSpec)

/-- 'exchequerlaw07.PagerAborts', WHERE WHAT IT READS IS OF BULK AT MOST 1048576: true; the input reads as it did. -/
def pagerAbortsUptoRow : OpenClaim := { program := "ytenpmaagnljabaagreatdoor", sum := "beb32743bb06da5a1b8a86aeb111e987929875fc0217444206076dcb4aa6aa91", func := "exchequer/exchequerlaw07.PagerAborts", spec := "pagerAborts", inPlace := ["internal/bytealg.MakeNoZero"], unfollowed := true, recurses := true, named := ["exchequer/crc.fourSteps"], apart := false, laid := [("exchequer/crc.fourSteps", laid_exchequer_crc_fourSteps)], narrowed := true }
def PagerAbortsUptoSaid : Prop := pagerAbortsUptoRow.holds Tryz.pinned (OpenSpec.upto pagerAbortsSpec)

/-- 'exchequerlaw07.PagerNobody', WHERE WHAT IT READS IS OF BULK AT MOST 1048576: true; the input reads as it did. -/
def pagerNobodyUptoRow : OpenClaim := { program := "ytenpmaagnljabaagreatdoor", sum := "beb32743bb06da5a1b8a86aeb111e987929875fc0217444206076dcb4aa6aa91", func := "exchequer/exchequerlaw07.PagerNobody", spec := "pagerNobody", inPlace := ["internal/bytealg.MakeNoZero"], unfollowed := true, recurses := true, named := ["exchequer/crc.fourSteps"], apart := false, laid := [("exchequer/crc.fourSteps", laid_exchequer_crc_fourSteps)], narrowed := true }
def PagerNobodyUptoSaid : Prop := pagerNobodyUptoRow.holds Tryz.pinned (OpenSpec.upto pagerNobodySpec)

end Rows
end Go.Proofs.YtenpmaagnljabaaGreatDoor
