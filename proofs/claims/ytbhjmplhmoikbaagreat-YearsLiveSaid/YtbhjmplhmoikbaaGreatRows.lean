/-
  No cell of these rows narrows 'for every input' (looked for: loops, veiled, ifaces, maps, wideKeys, modest, calm, conditions, laid).
  DERIVED. THE GIVEN ROWS OF THIS SEAT. 3 by the template 'for every input the law returns true; each argument reads behind the call as it read before'; 0 by the template 'total and deterministic' (their statements: YtbhjmplhmoikbaaGreatTotals.lean).
  GIVEN WITH THE SEED: the statements are not yours to turn. If you find one false, say at which input.
  Laid BY PROGRAM, IN A SANDBOX (cutbox-rows.mjs): the forced cells as the released guide's own fill.sh prints them over the translation 9d70fd828dfd38ce… (all of the seat's roots in one cut). By AI agents, Wed Nov 11 2026. No macro, syntax, notation, axiom, sorry.
-/
import Derived.Test.YtbhjmplhmoikbaaGreatChecked
import GoSem.Claim
import GoSem.ClaimJoined
import GoSem.ClaimMapViews
import Derived.JoinedTies
import Derived.KernelRfl
namespace Go.Proofs.YtbhjmplhmoikbaaGreat
/- THE CELL 'sum', in the pinned program and in every row, IS THE sha256 OF THE DUMP (.gsa) THAT YtbhjmplhmoikbaaGreatProg.lean LOADS. Nothing in Lean hashes anything: it is a label: what it is worth is what the hold of that sum in a sandbox is worth. -/
noncomputable def Tryz.pinned : Pinned := { name := "ytbhjmplhmoikbaagreat", sum := "9d70fd828dfd38ce4804a16f41890c21894c1ec1785713c571811533e7f8ffed", checked := Tryz.checked }
namespace Rows
def none {H : Type} : Left H := { results := [], args := [] }

/-- 'exchequerlaw21.ChartOnce': WHATEVER THE INPUT: true; the input reads as it did. -/
def chartOnceSpec : ChangeSpec := { name := "chartOnce", fn := fun _ => fun
  | [d] => { results := [.lit (.bool true)], args := [d] }
  | _ => none }
def chartOnceRow : OpenClaim := { program := "ytbhjmplhmoikbaagreat", sum := "9d70fd828dfd38ce4804a16f41890c21894c1ec1785713c571811533e7f8ffed", func := "exchequer/exchequerlaw21.ChartOnce", spec := "chartOnce", inPlace := ["internal/bytealg.Compare"], unfollowed := true, recurses := true, apart := false }
def ChartOnceSaid : Prop := chartOnceRow.holds Tryz.pinned (OpenSpec.ofChange chartOnceSpec)

/-- ITS FALSE NEIGHBOUR: 'it returns false'. Refute it at one input. -/
def chartOnceWrong : ChangeSpec := { name := "chartOnce", fn := fun _ => fun
  | [d] => { results := [.lit (.bool false)], args := [d] }
  | _ => none }
def ChartOnceWrongFalsely : Prop := chartOnceRow.holds Tryz.pinned (OpenSpec.ofChange chartOnceWrong)

/-- 'exchequerlaw22.YearsLive': WHATEVER THE INPUT: true; the input reads as it did. -/
def yearsLiveSpec : ChangeSpec := { name := "yearsLive", fn := fun _ => fun
  | [d1, d2] => { results := [.lit (.bool true)], args := [d1, d2] }
  | _ => none }
def yearsLiveRow : OpenClaim := { program := "ytbhjmplhmoikbaagreat", sum := "9d70fd828dfd38ce4804a16f41890c21894c1ec1785713c571811533e7f8ffed", func := "exchequer/exchequerlaw22.YearsLive", spec := "yearsLive", inPlace := ["internal/bytealg.Compare"], unfollowed := true, recurses := true, apart := false }
def YearsLiveSaid : Prop := yearsLiveRow.holds Tryz.pinned (OpenSpec.ofChange yearsLiveSpec)

/-- ITS FALSE NEIGHBOUR: 'it returns false'. Refute it at one input. -/
def yearsLiveWrong : ChangeSpec := { name := "yearsLive", fn := fun _ => fun
  | [d1, d2] => { results := [.lit (.bool false)], args := [d1, d2] }
  | _ => none }
def YearsLiveWrongFalsely : Prop := yearsLiveRow.holds Tryz.pinned (OpenSpec.ofChange yearsLiveWrong)

/-- 'exchequerlaw22.YearsStay': WHATEVER THE INPUT: true; the input reads as it did. -/
def yearsStaySpec : ChangeSpec := { name := "yearsStay", fn := fun _ => fun
  | [d1, d2] => { results := [.lit (.bool true)], args := [d1, d2] }
  | _ => none }
def yearsStayRow : OpenClaim := { program := "ytbhjmplhmoikbaagreat", sum := "9d70fd828dfd38ce4804a16f41890c21894c1ec1785713c571811533e7f8ffed", func := "exchequer/exchequerlaw22.YearsStay", spec := "yearsStay", inPlace := ["internal/bytealg.Compare"], unfollowed := true, recurses := true, apart := false }
def YearsStaySaid : Prop := yearsStayRow.holds Tryz.pinned (OpenSpec.ofChange yearsStaySpec)

/-- ITS FALSE NEIGHBOUR: 'it returns false'. Refute it at one input. -/
def yearsStayWrong : ChangeSpec := { name := "yearsStay", fn := fun _ => fun
  | [d1, d2] => { results := [.lit (.bool false)], args := [d1, d2] }
  | _ => none }
def YearsStayWrongFalsely : Prop := yearsStayRow.holds Tryz.pinned (OpenSpec.ofChange yearsStayWrong)

/- THE SECOND FORM. 'bulk': how many values and letters a reading holds, each counted each time it is reached (what is shared counts as often as it is met; a slice's spare places count too). A statement '..UptoSaid' is the law's where the arguments, and the package variables that the reading takes, are together of bulk at most 1048576: NARROWER than '..Said'. Prove '..Said' where nothing that the law and all that it calls make is longer than what came in: it says more and counts as full. Else prove '..UptoSaid'. A law counts once. -/
mutual
def uptoBulk {H : Type} : DataW H → Nat
  | .lit (.string bytes) => bytes.length + 1
  | .lit _ => 1
  | .nil => 1
  | .ptr d => uptoBulk d + 1
  | .slice elems spare => uptoBulkAll elems + uptoBulkAll spare + 1
  | .agg parts => uptoBulkAll parts + 1
  | .iface _ d => uptoBulk d + 1
  | .map entries => uptoBulkEntries entries + 1
  | .held _ => 1
def uptoBulkAll {H : Type} : List (DataW H) → Nat
  | [] => 0
  | d :: r => uptoBulk d + uptoBulkAll r
def uptoBulkEntries {H : Type} : List (Lit × DataW H) → Nat
  | [] => 0
  | x :: r => uptoBulkEntry x + uptoBulkEntries r
def uptoBulkEntry {H : Type} : Lit × DataW H → Nat
  | (.string bytes, d) => bytes.length + uptoBulk d + 1
  | (_, d) => uptoBulk d + 1
 end
def uptoSmall : (H : Type) → List (DataW H) → Bool := fun _ ds => decide (uptoBulkAll ds ≤ 1048576)
def OpenSpec.upto (s : _root_.Go.ChangeSpec) : _root_.Go.OpenSpec := { _root_.Go.OpenSpec.ofChange s with cond := some uptoSmall }

/-- 'exchequerlaw21.ChartOnce', WHERE WHAT IT READS IS OF BULK AT MOST 1048576: true; the input reads as it did. -/
def chartOnceUptoRow : OpenClaim := { program := "ytbhjmplhmoikbaagreat", sum := "9d70fd828dfd38ce4804a16f41890c21894c1ec1785713c571811533e7f8ffed", func := "exchequer/exchequerlaw21.ChartOnce", spec := "chartOnce", inPlace := ["internal/bytealg.Compare"], unfollowed := true, recurses := true, apart := false, narrowed := true }
def ChartOnceUptoSaid : Prop := chartOnceUptoRow.holds Tryz.pinned (OpenSpec.upto chartOnceSpec)

/-- 'exchequerlaw22.YearsLive', WHERE WHAT IT READS IS OF BULK AT MOST 1048576: true; the input reads as it did. -/
def yearsLiveUptoRow : OpenClaim := { program := "ytbhjmplhmoikbaagreat", sum := "9d70fd828dfd38ce4804a16f41890c21894c1ec1785713c571811533e7f8ffed", func := "exchequer/exchequerlaw22.YearsLive", spec := "yearsLive", inPlace := ["internal/bytealg.Compare"], unfollowed := true, recurses := true, apart := false, narrowed := true }
def YearsLiveUptoSaid : Prop := yearsLiveUptoRow.holds Tryz.pinned (OpenSpec.upto yearsLiveSpec)

/-- 'exchequerlaw22.YearsStay', WHERE WHAT IT READS IS OF BULK AT MOST 1048576: true; the input reads as it did. -/
def yearsStayUptoRow : OpenClaim := { program := "ytbhjmplhmoikbaagreat", sum := "9d70fd828dfd38ce4804a16f41890c21894c1ec1785713c571811533e7f8ffed", func := "exchequer/exchequerlaw22.YearsStay", spec := "yearsStay", inPlace := ["internal/bytealg.Compare"], unfollowed := true, recurses := true, apart := false, narrowed := true }
def YearsStayUptoSaid : Prop := yearsStayUptoRow.holds Tryz.pinned (OpenSpec.upto yearsStaySpec)

end Rows
end Go.Proofs.YtbhjmplhmoikbaaGreat
