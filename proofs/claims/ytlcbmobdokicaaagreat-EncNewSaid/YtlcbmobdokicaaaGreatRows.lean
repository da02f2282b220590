/-
  No cell of these rows narrows 'for every input' (looked for: loops, veiled, ifaces, maps, wideKeys, modest, calm, conditions, laid).
  DERIVED. THE GIVEN ROWS OF THIS SEAT. 4 by the template 'for every input the law returns true; each argument reads behind the call as it read before'; 0 by the template 'total and deterministic' (their statements: YtlcbmobdokicaaaGreatTotals.lean).
  GIVEN WITH THE SEED: the statements are not yours to turn. If you find one false, say at which input.
  Laid BY PROGRAM, IN A SANDBOX (cutbox-rows.mjs): the forced cells as the released guide's own fill.sh prints them over the translation b603c8c3e353a953… (all of the seat's roots in one cut). By AI agents, Wed Nov 11 2026. No macro, syntax, notation, axiom, sorry.
-/
import Derived.Test.YtlcbmobdokicaaaGreatChecked
import GoSem.Claim
import GoSem.ClaimJoined
import GoSem.ClaimMapViews
import Derived.JoinedTies
import Derived.KernelRfl
namespace Go.Proofs.YtlcbmobdokicaaaGreat
/- THE CELL 'sum', in the pinned program and in every row, IS THE sha256 OF THE DUMP (.gsa) THAT YtlcbmobdokicaaaGreatProg.lean LOADS. Nothing in Lean hashes anything: it is a label: what it is worth is what the hold of that sum in a sandbox is worth. -/
noncomputable def Tryz.pinned : Pinned := { name := "ytlcbmobdokicaaagreat", sum := "b603c8c3e353a9537153bfdd8eedfe8ed117155394ea1c06eeae28488568b2c4", checked := Tryz.checked }
namespace Rows
def none {H : Type} : Left H := { results := [], args := [] }

/-- 'exchequerlaw31.PreNew': WHATEVER THE INPUT: true; the input reads as it did. -/
def preNewSpec : ChangeSpec := { name := "preNew", fn := fun _ => fun
  | [d1, d2] => { results := [.lit (.bool true)], args := [d1, d2] }
  | _ => none }
def preNewRow : OpenClaim := { program := "ytlcbmobdokicaaagreat", sum := "b603c8c3e353a9537153bfdd8eedfe8ed117155394ea1c06eeae28488568b2c4", func := "exchequer/exchequerlaw31.PreNew", spec := "preNew", inPlace := ["internal/bytealg.Compare"], unfollowed := true, recurses := true, apart := false }
def PreNewSaid : Prop := preNewRow.holds Tryz.pinned (OpenSpec.ofChange preNewSpec)

/-- ITS FALSE NEIGHBOUR: 'it returns false'. Refute it at one input. -/
def preNewWrong : ChangeSpec := { name := "preNew", fn := fun _ => fun
  | [d1, d2] => { results := [.lit (.bool false)], args := [d1, d2] }
  | _ => none }
def PreNewWrongFalsely : Prop := preNewRow.holds Tryz.pinned (OpenSpec.ofChange preNewWrong)

/-- 'exchequerlaw31.PreOpen': WHATEVER THE INPUT: true; the input reads as it did. -/
def preOpenSpec : ChangeSpec := { name := "preOpen", fn := fun _ => fun
  | [d1, d2, d3] => { results := [.lit (.bool true)], args := [d1, d2, d3] }
  | _ => none }
def preOpenRow : OpenClaim := { program := "ytlcbmobdokicaaagreat", sum := "b603c8c3e353a9537153bfdd8eedfe8ed117155394ea1c06eeae28488568b2c4", func := "exchequer/exchequerlaw31.PreOpen", spec := "preOpen", unfollowed := true, recurses := true, apart := false }
def PreOpenSaid : Prop := preOpenRow.holds Tryz.pinned (OpenSpec.ofChange preOpenSpec)

/-- ITS FALSE NEIGHBOUR: 'it returns false'. Refute it at one input. -/
def preOpenWrong : ChangeSpec := { name := "preOpen", fn := fun _ => fun
  | [d1, d2, d3] => { results := [.lit (.bool false)], args := [d1, d2, d3] }
  | _ => none }
def PreOpenWrongFalsely : Prop := preOpenRow.holds Tryz.pinned (OpenSpec.ofChange preOpenWrong)

/-- 'exchequerlaw32.EncNew': WHATEVER THE INPUT: true; the input reads as it did. -/
def encNewSpec : ChangeSpec := { name := "encNew", fn := fun _ => fun
  | [d1, d2, d3] => { results := [.lit (.bool true)], args := [d1, d2, d3] }
  | _ => none }
def encNewRow : OpenClaim := { program := "ytlcbmobdokicaaagreat", sum := "b603c8c3e353a9537153bfdd8eedfe8ed117155394ea1c06eeae28488568b2c4", func := "exchequer/exchequerlaw32.EncNew", spec := "encNew", inPlace := ["internal/bytealg.Compare"], unfollowed := true, recurses := true, apart := false }
def EncNewSaid : Prop := encNewRow.holds Tryz.pinned (OpenSpec.ofChange encNewSpec)

/-- ITS FALSE NEIGHBOUR: 'it returns false'. Refute it at one input. -/
def encNewWrong : ChangeSpec := { name := "encNew", fn := fun _ => fun
  | [d1, d2, d3] => { results := [.lit (.bool false)], args := [d1, d2, d3] }
  | _ => none }
def EncNewWrongFalsely : Prop := encNewRow.holds Tryz.pinned (OpenSpec.ofChange encNewWrong)

/-- 'exchequerlaw32.EncNoMore': WHATEVER THE INPUT: true; the input reads as it did. -/
def encNoMoreSpec : ChangeSpec := { name := "encNoMore", fn := fun _ => fun
  | [d1, d2, d3, d4] => { results := [.lit (.bool true)], args := [d1, d2, d3, d4] }
  | _ => none }
def encNoMoreRow : OpenClaim := { program := "ytlcbmobdokicaaagreat", sum := "b603c8c3e353a9537153bfdd8eedfe8ed117155394ea1c06eeae28488568b2c4", func := "exchequer/exchequerlaw32.EncNoMore", spec := "encNoMore", inPlace := ["internal/bytealg.Compare"], unfollowed := true, recurses := true, apart := false }
def EncNoMoreSaid : Prop := encNoMoreRow.holds Tryz.pinned (OpenSpec.ofChange encNoMoreSpec)

/-- ITS FALSE NEIGHBOUR: 'it returns false'. Refute it at one input. -/
def encNoMoreWrong : ChangeSpec := { name := "encNoMore", fn := fun _ => fun
  | [d1, d2, d3, d4] => { results := [.lit (.bool false)], args := [d1, d2, d3, d4] }
  | _ => none }
def EncNoMoreWrongFalsely : Prop := encNoMoreRow.holds Tryz.pinned (OpenSpec.ofChange encNoMoreWrong)

/- THE SECOND FORM. 'bulk': how many values and letters a reading holds, each counted each time it is reached (what is shared counts as often as it is met; a slice's spare places count too). A statement '..UptoSaid' is the law's where the arguments, and the package variables that the reading takes, are together of bulk at most 1048576: NARROWER than '..Said'. Prove '..Said' where nothing that the law and all that it calls make is longer than what came in: it says more and counts as full. Else prove '..UptoSaid'. A law counts once. -/
mutual
def uptoBulk {H : Type} : DataW H → Nat
  | .lit (.string bytes) => bytes.length + 1
  | .lit _ => 1
  | .nil => 1
  | .ptr d => uptoBulk d + 1
  | .slice elems spare => uptoBulkAll elems + uptoBulkAll spare + 1
  | .agg parts => uptoBulkAll parts + 1
  | .iface _ d => uptoBulk d + 1
  | .map entries => uptoBulkEntries entries + 1
  | .held _ => 1
def uptoBulkAll {H : Type} : List (DataW H) → Nat
  | [] => 0
  | d :: r => uptoBulk d + uptoBulkAll r
def uptoBulkEntries {H : Type} : List (Lit × DataW H) → Nat
  | [] => 0
  | x :: r => uptoBulkEntry x + uptoBulkEntries r
def uptoBulkEntry {H : Type} : Lit × DataW H → Nat
  | (.string bytes, d) => bytes.length + uptoBulk d + 1
  | (_, d) => uptoBulk d + 1
 end
def uptoSmall : (H : Type) → List (DataW H) → Bool := fun _ ds => decide (uptoBulkAll ds ≤ 1048576)
def OpenSpec.upto (s : _root_.Go.ChangeSpec) : _root_.Go.OpenSpec := { _root_.Go.OpenSpec.ofChange s with cond := some uptoSmall }

/-- 'exchequerlaw31.PreNew', WHERE WHAT IT READS IS OF BULK AT MOST 1048576: true; the input reads as it did. -/
def preNewUptoRow : OpenClaim := { program := "ytlcbmobdokicaaagreat", sum := "b603c8c3e353a9537153bfdd8eedfe8ed117155394ea1c06eeae28488568b2c4", func := "exchequer/exchequerlaw31.PreNew", spec := "preNew", inPlace := ["internal/bytealg.Compare"], unfollowed := true, recurses := true, apart := false, narrowed := true }
def PreNewUptoSaid : Prop := preNewUptoRow.holds Tryz.pinned (OpenSpec.upto preNewSpec)

/-- 'exchequerlaw31.PreOpen', WHERE WHAT IT READS IS OF BULK AT MOST 1048576: true; the input reads as it did. -/
def preOpenUptoRow : OpenClaim := { program := "ytlcbmobdokicaaagreat", sum := "b603c8c3e353a9537153bfdd8eedfe8ed117155394ea1c06eeae28488568b2c4", func := "exchequer/exchequerlaw31.PreOpen", spec := "preOpen", unfollowed := true, recurses := true, apart := false, narrowed := true }
def PreOpenUptoSaid : Prop := preOpenUptoRow.holds Tryz.pinned (OpenSpec.upto preOpenSpec)

/-- 'exchequerlaw32.EncNew', WHERE WHAT IT READS IS OF BULK AT MOST 1048576: true; the input reads as it did. -/
def encNewUptoRow : OpenClaim := { program := "ytlcbmobdokicaaagreat", sum := "b603c8c3e353a9537153bfdd8eedfe8ed117155394ea1c06eeae28488568b2c4", func := "exchequer/exchequerlaw32.EncNew", spec := "encNew", inPlace := ["internal/bytealg.Compare"], unfollowed := true, recurses := true, apart := false, narrowed := true }
def EncNewUptoSaid : Prop := encNewUptoRow.holds Tryz.pinned (OpenSpec.upto encNewSpec)

/-- 'exchequerlaw32.EncNoMore', WHERE WHAT IT READS IS OF BULK AT MOST 1048576: true; the input reads as it did. -/
def encNoMoreUptoRow : OpenClaim := { program := "ytlcbmobdokicaaagreat", sum := "b603c8c3e353a9537153bfdd8eedfe8ed117155394ea1c06eeae28488568b2c4", func := "exchequer/exchequerlaw32.EncNoMore", spec := "encNoMore", inPlace := ["internal/bytealg.Compare"], unfollowed := true, recurses := true, apart := false, narrowed := true }
def EncNoMoreUptoSaid : Prop := encNoMoreUptoRow.holds Tryz.pinned (OpenSpec.upto encNoMoreSpec)

end Rows
end Go.Proofs.YtlcbmobdokicaaaGreat
