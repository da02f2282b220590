/-
  Plain: where on a disk what stands, as the document says. No program.
-/
import Derived.Test.YtkmlmbakgmafjaaRows
import Derived.WalkKit
import Derived.WalkSpells
import Derived.WalkLawsBesides
import Derived.IntWalk
import Derived.Below
import Derived.Lib.Hide
namespace Go.Proofs.Ytkmlmbakgmafjaa
open Go.RowKit
set_option maxRecDepth 100000
set_option linter.unusedVariables false

/-- How many pages a disk of n sectors has. -/
def pagesOf (n : Int) : Int := if n < 3 ∨ n > 65536 then 0 else (n - 1) / 2
def slotOf (n i : Int) : Int × Bool := if i < 0 ∨ i ≥ pagesOf n then (0, false) else (i + 1, true)
def homeOf (n p : Int) : Int × Bool := if p < 0 ∨ p ≥ pagesOf n then (0, false) else (p + 1 + pagesOf n, true)

theorem pagesOf_bounds (n : Int) : 0 ≤ pagesOf n ∧ pagesOf n ≤ 32767 := by
  unfold pagesOf
  split <;> omega

theorem pagesOf_nn (n : Int) : 0 ≤ pagesOf n ∧ (3 ≤ n → 2 * pagesOf n < n) ∧ pagesOf n ≤ 32767 := by
  unfold pagesOf
  split <;> omega

theorem int_bounds' {n : Int} (h : (Lit.int .i64 n).wf = true) : -9223372036854775808 ≤ n ∧ n ≤ 9223372036854775807 := by
  simpa [Lit.wf, IntKind.min, IntKind.max, IntKind.signed, IntKind.bits] using h

end Go.Proofs.Ytkmlmbakgmafjaa
