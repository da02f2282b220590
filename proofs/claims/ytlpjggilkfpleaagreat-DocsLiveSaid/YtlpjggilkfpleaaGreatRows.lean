/-
  No cell of these rows narrows 'for every input' (looked for: loops, veiled, ifaces, maps, wideKeys, modest, calm, conditions, laid).
  DERIVED. THE GIVEN ROWS OF THIS SEAT. 4 by the template 'for every input the law returns true; each argument reads behind the call as it read before'; 0 by the template 'total and deterministic' (their statements: YtlpjggilkfpleaaGreatTotals.lean).
  GIVEN WITH THE SEED: the statements are not yours to turn. If you find one false, say at which input.
  Laid BY PROGRAM, IN A SANDBOX (cutbox-rows.mjs): the forced cells as the released guide's own fill.sh prints them over the translation b0dccfd00eb96a75… (all of the seat's roots in one cut). By AI agents, Wed Nov 11 2026. No macro, syntax, notation, axiom, sorry.
-/
import Derived.Test.YtlpjggilkfpleaaGreatChecked
import GoSem.Claim
import GoSem.ClaimJoined
import GoSem.ClaimMapViews
import Derived.JoinedTies
import Derived.KernelRfl
namespace Go.Proofs.YtlpjggilkfpleaaGreat
/- THE CELL 'sum', in the pinned program and in every row, IS THE sha256 OF THE DUMP (.gsa) THAT YtlpjggilkfpleaaGreatProg.lean LOADS. Nothing in Lean hashes anything: it is a label: what it is worth is what the hold of that sum in a sandbox is worth. -/
noncomputable def Tryz.pinned : Pinned := { name := "ytlpjggilkfpleaagreat", sum := "b0dccfd00eb96a7544a6c258603dbaf784ced48fc5001d7606dcd237ea8f2025", checked := Tryz.checked }
namespace Rows
def none {H : Type} : Left H := { results := [], args := [] }

/-- 'exchequerlaw29.CtrlLess': WHATEVER THE INPUT: true; the input reads as it did. -/
def ctrlLessSpec : ChangeSpec := { name := "ctrlLess", fn := fun _ => fun
  | [d1, d2, d3] => { results := [.lit (.bool true)], args := [d1, d2, d3] }
  | _ => none }
def ctrlLessRow : OpenClaim := { program := "ytlpjggilkfpleaagreat", sum := "b0dccfd00eb96a7544a6c258603dbaf784ced48fc5001d7606dcd237ea8f2025", func := "exchequer/exchequerlaw29.CtrlLess", spec := "ctrlLess", unfollowed := true, recurses := true, apart := false }
def CtrlLessSaid : Prop := ctrlLessRow.holds Tryz.pinned (OpenSpec.ofChange ctrlLessSpec)

/-- ITS FALSE NEIGHBOUR: 'it returns false'. Refute it at one input. -/
def ctrlLessWrong : ChangeSpec := { name := "ctrlLess", fn := fun _ => fun
  | [d1, d2, d3] => { results := [.lit (.bool false)], args := [d1, d2, d3] }
  | _ => none }
def CtrlLessWrongFalsely : Prop := ctrlLessRow.holds Tryz.pinned (OpenSpec.ofChange ctrlLessWrong)

/-- 'exchequerlaw29.CtrlHolds': WHATEVER THE INPUT: true; the input reads as it did. -/
def ctrlHoldsSpec : ChangeSpec := { name := "ctrlHolds", fn := fun _ => fun
  | [d1, d2] => { results := [.lit (.bool true)], args := [d1, d2] }
  | _ => none }
def ctrlHoldsRow : OpenClaim := { program := "ytlpjggilkfpleaagreat", sum := "b0dccfd00eb96a7544a6c258603dbaf784ced48fc5001d7606dcd237ea8f2025", func := "exchequer/exchequerlaw29.CtrlHolds", spec := "ctrlHolds", inPlace := ["internal/bytealg.Compare"], unfollowed := true, recurses := true, apart := false }
def CtrlHoldsSaid : Prop := ctrlHoldsRow.holds Tryz.pinned (OpenSpec.ofChange ctrlHoldsSpec)

/-- ITS FALSE NEIGHBOUR: 'it returns false'. Refute it at one input. -/
def ctrlHoldsWrong : ChangeSpec := { name := "ctrlHolds", fn := fun _ => fun
  | [d1, d2] => { results := [.lit (.bool false)], args := [d1, d2] }
  | _ => none }
def CtrlHoldsWrongFalsely : Prop := ctrlHoldsRow.holds Tryz.pinned (OpenSpec.ofChange ctrlHoldsWrong)

/-- 'exchequerlaw30.DocsLive': WHATEVER THE INPUT: true; the input reads as it did. -/
def docsLiveSpec : ChangeSpec := { name := "docsLive", fn := fun _ => fun
  | [d1, d2] => { results := [.lit (.bool true)], args := [d1, d2] }
  | _ => none }
def docsLiveRow : OpenClaim := { program := "ytlpjggilkfpleaagreat", sum := "b0dccfd00eb96a7544a6c258603dbaf784ced48fc5001d7606dcd237ea8f2025", func := "exchequer/exchequerlaw30.DocsLive", spec := "docsLive", inPlace := ["internal/bytealg.Compare"], unfollowed := true, recurses := true, apart := false }
def DocsLiveSaid : Prop := docsLiveRow.holds Tryz.pinned (OpenSpec.ofChange docsLiveSpec)

/-- ITS FALSE NEIGHBOUR: 'it returns false'. Refute it at one input. -/
def docsLiveWrong : ChangeSpec := { name := "docsLive", fn := fun _ => fun
  | [d1, d2] => { results := [.lit (.bool false)], args := [d1, d2] }
  | _ => none }
def DocsLiveWrongFalsely : Prop := docsLiveRow.holds Tryz.pinned (OpenSpec.ofChange docsLiveWrong)

/-- 'exchequerlaw30.DocsBack': WHATEVER THE INPUT: true; the input reads as it did. -/
def docsBackSpec : ChangeSpec := { name := "docsBack", fn := fun _ => fun
  | [d1, d2] => { results := [.lit (.bool true)], args := [d1, d2] }
  | _ => none }
def docsBackRow : OpenClaim := { program := "ytlpjggilkfpleaagreat", sum := "b0dccfd00eb96a7544a6c258603dbaf784ced48fc5001d7606dcd237ea8f2025", func := "exchequer/exchequerlaw30.DocsBack", spec := "docsBack", inPlace := ["internal/bytealg.Compare"], unfollowed := true, recurses := true, apart := false }
def DocsBackSaid : Prop := docsBackRow.holds Tryz.pinned (OpenSpec.ofChange docsBackSpec)

/-- ITS FALSE NEIGHBOUR: 'it returns false'. Refute it at one input. -/
def docsBackWrong : ChangeSpec := { name := "docsBack", fn := fun _ => fun
  | [d1, d2] => { results := [.lit (.bool false)], args := [d1, d2] }
  | _ => none }
def DocsBackWrongFalsely : Prop := docsBackRow.holds Tryz.pinned (OpenSpec.ofChange docsBackWrong)

/- THE SECOND FORM. 'bulk': how many values and letters a reading holds, each counted each time it is reached (what is shared counts as often as it is met; a slice's spare places count too). A statement '..UptoSaid' is the law's where the arguments, and the package variables that the reading takes, are together of bulk at most 1048576: NARROWER than '..Said'. Prove '..Said' where nothing that the law and all that it calls make is longer than what came in: it says more and counts as full. Else prove '..UptoSaid'. A law counts once. -/
mutual
def uptoBulk {H : Type} : DataW H → Nat
  | .lit (.string bytes) => bytes.length + 1
  | .lit _ => 1
  | .nil => 1
  | .ptr d => uptoBulk d + 1
  | .slice elems spare => uptoBulkAll elems + uptoBulkAll spare + 1
  | .agg parts => uptoBulkAll parts + 1
  | .iface _ d => uptoBulk d + 1
  | .map entries => uptoBulkEntries entries + 1
  | .held _ => 1
def uptoBulkAll {H : Type} : List (DataW H) → Nat
  | [] => 0
  | d :: r => uptoBulk d + uptoBulkAll r
def uptoBulkEntries {H : Type} : List (Lit × DataW H) → Nat
  | [] => 0
  | x :: r => uptoBulkEntry x + uptoBulkEntries r
def uptoBulkEntry {H : Type} : Lit × DataW H → Nat
  | (.string bytes, d) => bytes.length + uptoBulk d + 1
  | (_, d) => uptoBulk d + 1
 end
def uptoSmall : (H : Type) → List (DataW H) → Bool := fun _ ds => decide (uptoBulkAll ds ≤ 1048576)
def OpenSpec.upto (s : _root_.Go.ChangeSpec) : _root_.Go.OpenSpec := { _root_.Go.OpenSpec.ofChange s with cond := some uptoSmall }

/-- 'exchequerlaw29.CtrlLess', WHERE WHAT IT READS IS OF BULK AT MOST 1048576: true; the input reads as it did. -/
def ctrlLessUptoRow : OpenClaim := { program := "ytlpjggilkfpleaagreat", sum := "b0dccfd00eb96a7544a6c258603dbaf784ced48fc5001d7606dcd237ea8f2025", func := "exchequer/exchequerlaw29.CtrlLess", spec := "ctrlLess", unfollowed := true, recurses := true, apart := false, narrowed := true }
def CtrlLessUptoSaid : Prop := ctrlLessUptoRow.holds Tryz.pinned (OpenSpec.upto ctrlLessSpec)

/-- 'exchequerlaw29.CtrlHolds', WHERE WHAT IT READS IS OF BULK AT MOST 1048576: true; the input reads as it did. -/
def ctrlHoldsUptoRow : OpenClaim := { program := "ytlpjggilkfpleaagreat", sum := "b0dccfd00eb96a7544a6c258603dbaf784ced48fc5001d7606dcd237ea8f2025", func := "exchequer/exchequerlaw29.CtrlHolds", spec := "ctrlHolds", inPlace := ["internal/bytealg.Compare"], unfollowed := true, recurses := true, apart := false, narrowed := true }
def CtrlHoldsUptoSaid : Prop := ctrlHoldsUptoRow.holds Tryz.pinned (OpenSpec.upto ctrlHoldsSpec)

/-- 'exchequerlaw30.DocsLive', WHERE WHAT IT READS IS OF BULK AT MOST 1048576: true; the input reads as it did. -/
def docsLiveUptoRow : OpenClaim := { program := "ytlpjggilkfpleaagreat", sum := "b0dccfd00eb96a7544a6c258603dbaf784ced48fc5001d7606dcd237ea8f2025", func := "exchequer/exchequerlaw30.DocsLive", spec := "docsLive", inPlace := ["internal/bytealg.Compare"], unfollowed := true, recurses := true, apart := false, narrowed := true }
def DocsLiveUptoSaid : Prop := docsLiveUptoRow.holds Tryz.pinned (OpenSpec.upto docsLiveSpec)

/-- 'exchequerlaw30.DocsBack', WHERE WHAT IT READS IS OF BULK AT MOST 1048576: true; the input reads as it did. -/
def docsBackUptoRow : OpenClaim := { program := "ytlpjggilkfpleaagreat", sum := "b0dccfd00eb96a7544a6c258603dbaf784ced48fc5001d7606dcd237ea8f2025", func := "exchequer/exchequerlaw30.DocsBack", spec := "docsBack", inPlace := ["internal/bytealg.Compare"], unfollowed := true, recurses := true, apart := false, narrowed := true }
def DocsBackUptoSaid : Prop := docsBackUptoRow.holds Tryz.pinned (OpenSpec.upto docsBackSpec)

end Rows
end Go.Proofs.YtlpjggilkfpleaaGreat
