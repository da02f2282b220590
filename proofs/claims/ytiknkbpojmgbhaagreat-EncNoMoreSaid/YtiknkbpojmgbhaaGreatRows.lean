/-
  No cell of these rows narrows 'for every input' (looked for: loops, veiled, ifaces, maps, wideKeys, modest, calm, conditions, laid).
  DERIVED. THE GIVEN ROWS OF THIS SEAT. 5 by the template 'for every input the law returns true; each argument reads behind the call as it read before'; 0 by the template 'total and deterministic' (their statements: YtiknkbpojmgbhaaGreatTotals.lean).
  GIVEN WITH THE SEED: the statements are not yours to turn. If you find one false, say at which input.
  Laid BY PROGRAM, IN A SANDBOX (cutbox-rows.mjs): the forced cells as the released guide's own fill.sh prints them over the translation 96002015ddb8490a… (all of the seat's roots in one cut). By AI agents, Wed Nov 11 2026. No macro, syntax, notation, axiom, sorry.
-/
import Derived.Test.YtiknkbpojmgbhaaGreatChecked
import GoSem.Claim
import GoSem.ClaimJoined
import GoSem.ClaimMapViews
import Derived.JoinedTies
import Derived.KernelRfl
namespace Go.Proofs.YtiknkbpojmgbhaaGreat
/- THE CELL 'sum', in the pinned program and in every row, IS THE sha256 OF THE DUMP (.gsa) THAT YtiknkbpojmgbhaaGreatProg.lean LOADS. Nothing in Lean hashes anything: it is a label: what it is worth is what the hold of that sum in a sandbox is worth. -/
noncomputable def Tryz.pinned : Pinned := { name := "ytiknkbpojmgbhaagreat", sum := "96002015ddb8490aeaade6fb0c8a3ac39b527dcf10800cfd526d4b1101fae3ef", checked := Tryz.checked }
namespace Rows
def none {H : Type} : Left H := { results := [], args := [] }

/-- 'exchequerlaw32.EncNoMore': WHATEVER THE INPUT: true; the input reads as it did. -/
def encNoMoreSpec : ChangeSpec := { name := "encNoMore", fn := fun _ => fun
  | [d1, d2, d3, d4] => { results := [.lit (.bool true)], args := [d1, d2, d3, d4] }
  | _ => none }
def encNoMoreRow : OpenClaim := { program := "ytiknkbpojmgbhaagreat", sum := "96002015ddb8490aeaade6fb0c8a3ac39b527dcf10800cfd526d4b1101fae3ef", func := "exchequer/exchequerlaw32.EncNoMore", spec := "encNoMore", inPlace := ["internal/bytealg.Compare"], unfollowed := true, recurses := true, apart := false }
def EncNoMoreSaid : Prop := encNoMoreRow.holds Tryz.pinned (OpenSpec.ofChange encNoMoreSpec)

/-- ITS FALSE NEIGHBOUR: 'it returns false'. Refute it at one input. -/
def encNoMoreWrong : ChangeSpec := { name := "encNoMore", fn := fun _ => fun
  | [d1, d2, d3, d4] => { results := [.lit (.bool false)], args := [d1, d2, d3, d4] }
  | _ => none }
def EncNoMoreWrongFalsely : Prop := encNoMoreRow.holds Tryz.pinned (OpenSpec.ofChange encNoMoreWrong)

/-- 'exchequerlaw33.ExpNew': WHATEVER THE INPUT: true; the input reads as it did. -/
def expNewSpec : ChangeSpec := { name := "expNew", fn := fun _ => fun
  | [d1, d2, d3] => { results := [.lit (.bool true)], args := [d1, d2, d3] }
  | _ => none }
def expNewRow : OpenClaim := { program := "ytiknkbpojmgbhaagreat", sum := "96002015ddb8490aeaade6fb0c8a3ac39b527dcf10800cfd526d4b1101fae3ef", func := "exchequer/exchequerlaw33.ExpNew", spec := "expNew", inPlace := ["internal/bytealg.Compare"], unfollowed := true, recurses := true, apart := false }
def ExpNewSaid : Prop := expNewRow.holds Tryz.pinned (OpenSpec.ofChange expNewSpec)

/-- ITS FALSE NEIGHBOUR: 'it returns false'. Refute it at one input. -/
def expNewWrong : ChangeSpec := { name := "expNew", fn := fun _ => fun
  | [d1, d2, d3] => { results := [.lit (.bool false)], args := [d1, d2, d3] }
  | _ => none }
def ExpNewWrongFalsely : Prop := expNewRow.holds Tryz.pinned (OpenSpec.ofChange expNewWrong)

/-- 'exchequerlaw33.ExpStands': WHATEVER THE INPUT: true; the input reads as it did. -/
def expStandsSpec : ChangeSpec := { name := "expStands", fn := fun _ => fun
  | [d1, d2] => { results := [.lit (.bool true)], args := [d1, d2] }
  | _ => none }
def expStandsRow : OpenClaim := { program := "ytiknkbpojmgbhaagreat", sum := "96002015ddb8490aeaade6fb0c8a3ac39b527dcf10800cfd526d4b1101fae3ef", func := "exchequer/exchequerlaw33.ExpStands", spec := "expStands", inPlace := ["internal/bytealg.Compare"], unfollowed := true, recurses := true, apart := false }
def ExpStandsSaid : Prop := expStandsRow.holds Tryz.pinned (OpenSpec.ofChange expStandsSpec)

/-- ITS FALSE NEIGHBOUR: 'it returns false'. Refute it at one input. -/
def expStandsWrong : ChangeSpec := { name := "expStands", fn := fun _ => fun
  | [d1, d2] => { results := [.lit (.bool false)], args := [d1, d2] }
  | _ => none }
def ExpStandsWrongFalsely : Prop := expStandsRow.holds Tryz.pinned (OpenSpec.ofChange expStandsWrong)

/-- 'exchequerlaw34.ShiftLives': WHATEVER THE INPUT: true; the input reads as it did. -/
def shiftLivesSpec : ChangeSpec := { name := "shiftLives", fn := fun _ => fun
  | [d1, d2] => { results := [.lit (.bool true)], args := [d1, d2] }
  | _ => none }
def shiftLivesRow : OpenClaim := { program := "ytiknkbpojmgbhaagreat", sum := "96002015ddb8490aeaade6fb0c8a3ac39b527dcf10800cfd526d4b1101fae3ef", func := "exchequer/exchequerlaw34.ShiftLives", spec := "shiftLives", inPlace := ["internal/bytealg.Compare"], unfollowed := true, recurses := true, apart := false }
def ShiftLivesSaid : Prop := shiftLivesRow.holds Tryz.pinned (OpenSpec.ofChange shiftLivesSpec)

/-- ITS FALSE NEIGHBOUR: 'it returns false'. Refute it at one input. -/
def shiftLivesWrong : ChangeSpec := { name := "shiftLives", fn := fun _ => fun
  | [d1, d2] => { results := [.lit (.bool false)], args := [d1, d2] }
  | _ => none }
def ShiftLivesWrongFalsely : Prop := shiftLivesRow.holds Tryz.pinned (OpenSpec.ofChange shiftLivesWrong)

/-- 'exchequerlaw34.ShiftStays': WHATEVER THE INPUT: true; the input reads as it did. -/
def shiftStaysSpec : ChangeSpec := { name := "shiftStays", fn := fun _ => fun
  | [d] => { results := [.lit (.bool true)], args := [d] }
  | _ => none }
def shiftStaysRow : OpenClaim := { program := "ytiknkbpojmgbhaagreat", sum := "96002015ddb8490aeaade6fb0c8a3ac39b527dcf10800cfd526d4b1101fae3ef", func := "exchequer/exchequerlaw34.ShiftStays", spec := "shiftStays", inPlace := ["internal/bytealg.Compare"], unfollowed := true, recurses := true, apart := false }
def ShiftStaysSaid : Prop := shiftStaysRow.holds Tryz.pinned (OpenSpec.ofChange shiftStaysSpec)

/-- ITS FALSE NEIGHBOUR: 'it returns false'. Refute it at one input. -/
def shiftStaysWrong : ChangeSpec := { name := "shiftStays", fn := fun _ => fun
  | [d] => { results := [.lit (.bool false)], args := [d] }
  | _ => none }
def ShiftStaysWrongFalsely : Prop := shiftStaysRow.holds Tryz.pinned (OpenSpec.ofChange shiftStaysWrong)

/- THE SECOND FORM. 'bulk': how many values and letters a reading holds, each counted each time it is reached (what is shared counts as often as it is met; a slice's spare places count too). A statement '..UptoSaid' is the law's where the arguments, and the package variables that the reading takes, are together of bulk at most 1048576: NARROWER than '..Said'. Prove '..Said' where nothing that the law and all that it calls make is longer than what came in: it says more and counts as full. Else prove '..UptoSaid'. A law counts once. -/
mutual
def uptoBulk {H : Type} : DataW H → Nat
  | .lit (.string bytes) => bytes.length + 1
  | .lit _ => 1
  | .nil => 1
  | .ptr d => uptoBulk d + 1
  | .slice elems spare => uptoBulkAll elems + uptoBulkAll spare + 1
  | .agg parts => uptoBulkAll parts + 1
  | .iface _ d => uptoBulk d + 1
  | .map entries => uptoBulkEntries entries + 1
  | .held _ => 1
def uptoBulkAll {H : Type} : List (DataW H) → Nat
  | [] => 0
  | d :: r => uptoBulk d + uptoBulkAll r
def uptoBulkEntries {H : Type} : List (Lit × DataW H) → Nat
  | [] => 0
  | x :: r => uptoBulkEntry x + uptoBulkEntries r
def uptoBulkEntry {H : Type} : Lit × DataW H → Nat
  | (.string bytes, d) => bytes.length + uptoBulk d + 1
  | (_, d) => uptoBulk d + 1
 end
def uptoSmall : (H : Type) → List (DataW H) → Bool := fun _ ds => decide (uptoBulkAll ds ≤ 1048576)
def OpenSpec.upto (s : _root_.Go.ChangeSpec) : _root_.Go.OpenSpec := { _root_.Go.OpenSpec.ofChange s with cond := some uptoSmall }

/-- 'exchequerlaw32.EncNoMore', WHERE WHAT IT READS IS OF BULK AT MOST 1048576: true; the input reads as it did. -/
def encNoMoreUptoRow : OpenClaim := { program := "ytiknkbpojmgbhaagreat", sum := "96002015ddb8490aeaade6fb0c8a3ac39b527dcf10800cfd526d4b1101fae3ef", func := "exchequer/exchequerlaw32.EncNoMore", spec := "encNoMore", inPlace := ["internal/bytealg.Compare"], unfollowed := true, recurses := true, apart := false, narrowed := true }
def EncNoMoreUptoSaid : Prop := encNoMoreUptoRow.holds Tryz.pinned (OpenSpec.upto encNoMoreSpec)

/-- 'exchequerlaw33.ExpNew', WHERE WHAT IT READS IS OF BULK AT MOST 1048576: true; the input reads as it did. -/
def expNewUptoRow : OpenClaim := { program := "ytiknkbpojmgbhaagreat", sum := "96002015ddb8490aeaade6fb0c8a3ac39b527dcf10800cfd526d4b1101fae3ef", func := "exchequer/exchequerlaw33.ExpNew", spec := "expNew", inPlace := ["internal/bytealg.Compare"], unfollowed := true, recurses := true, apart := false, narrowed := true }
def ExpNewUptoSaid : Prop := expNewUptoRow.holds Tryz.pinned (OpenSpec.upto expNewSpec)

/-- 'exchequerlaw33.ExpStands', WHERE WHAT IT READS IS OF BULK AT MOST 1048576: true; the input reads as it did. -/
def expStandsUptoRow : OpenClaim := { program := "ytiknkbpojmgbhaagreat", sum := "96002015ddb8490aeaade6fb0c8a3ac39b527dcf10800cfd526d4b1101fae3ef", func := "exchequer/exchequerlaw33.ExpStands", spec := "expStands", inPlace := ["internal/bytealg.Compare"], unfollowed := true, recurses := true, apart := false, narrowed := true }
def ExpStandsUptoSaid : Prop := expStandsUptoRow.holds Tryz.pinned (OpenSpec.upto expStandsSpec)

/-- 'exchequerlaw34.ShiftLives', WHERE WHAT IT READS IS OF BULK AT MOST 1048576: true; the input reads as it did. -/
def shiftLivesUptoRow : OpenClaim := { program := "ytiknkbpojmgbhaagreat", sum := "96002015ddb8490aeaade6fb0c8a3ac39b527dcf10800cfd526d4b1101fae3ef", func := "exchequer/exchequerlaw34.ShiftLives", spec := "shiftLives", inPlace := ["internal/bytealg.Compare"], unfollowed := true, recurses := true, apart := false, narrowed := true }
def ShiftLivesUptoSaid : Prop := shiftLivesUptoRow.holds Tryz.pinned (OpenSpec.upto shiftLivesSpec)

/-- 'exchequerlaw34.ShiftStays', WHERE WHAT IT READS IS OF BULK AT MOST 1048576: true; the input reads as it did. -/
def shiftStaysUptoRow : OpenClaim := { program := "ytiknkbpojmgbhaagreat", sum := "96002015ddb8490aeaade6fb0c8a3ac39b527dcf10800cfd526d4b1101fae3ef", func := "exchequer/exchequerlaw34.ShiftStays", spec := "shiftStays", inPlace := ["internal/bytealg.Compare"], unfollowed := true, recurses := true, apart := false, narrowed := true }
def ShiftStaysUptoSaid : Prop := shiftStaysUptoRow.holds Tryz.pinned (OpenSpec.upto shiftStaysSpec)

end Rows
end Go.Proofs.YtiknkbpojmgbhaaGreat
