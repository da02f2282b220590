/-
  The texts LinP, AmtV joined. Conditions: those that each part says at its head.
-/
import Derived.Test.YtlcbmobdokicaaaGreatBase
import Derived.Test.YtlcbmobdokicaaaGreatIntApp

/-
  Lines of entries as plain lists: what the lines of each fund are together (modulo 2^64), rising; lines in another order have the same; with what balances them each fund has nothing. Plain facts; no condition beyond what each says.
-/
namespace Go.Proofs.YtlcbmobdokicaaaGreat
set_option maxRecDepth 100000
set_option linter.unusedVariables false

/-- A line: fund, object, node, amount. -/
structure Ln where
  f : Int
  o : Int
  n : Int
  a : Int
def B64 (x : Int) : Prop := -9223372036854775808 ≤ x ∧ x ≤ 9223372036854775807
/-- Its numbers are ints. -/
def LnOk (x : Ln) : Prop := B64 x.f ∧ B64 x.o ∧ B64 x.n ∧ B64 x.a
end Go.Proofs.YtlcbmobdokicaaaGreat

/-
  Contracts of amount.Fits, Right, Add and Sum, under names of their own (as XAmtA, XAmtB say them). No condition but that lengths are ints.
-/
namespace Go.Proofs.YtlcbmobdokicaaaGreat
open Go.RowKit
set_option maxRecDepth 100000
set_option linter.unusedVariables false

/-- May n be asked for? -/
def amtRightB (n : Int) : Bool := decide (1 ≤ n) && decide (n ≤ 9007199254740992)
set_option maxHeartbeats 400000 in
theorem amtRight_any (a : Int) (w : World) : Calls Tryz.prog 43 #[.int .i64 a] w fun e w' => e = .returned (.bool (amtRightB a)) ∧ w = w' := by
  unfold amtRightB
  by_cases h : 1 ≤ a
  · go_enter Tryz.func43, Tryz.ntmps43
    go_wp2
    go_ret
    simp [h]
  · go_enter Tryz.func43, Tryz.ntmps43
    go_wp2
    go_ret
    simp; omega
end Go.Proofs.YtlcbmobdokicaaaGreat
