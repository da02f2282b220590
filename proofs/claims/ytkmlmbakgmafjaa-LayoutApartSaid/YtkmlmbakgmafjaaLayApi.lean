/-
  What the program's own layout is to answer, as statements: proved in a text of its own, used by the laws' walks. No condition.
-/
import Derived.Test.YtkmlmbakgmafjaaLayRef
namespace Go.Proofs.Ytkmlmbakgmafjaa
open Go.RowKit
set_option maxRecDepth 100000
set_option linter.unusedVariables false

def LayPagesSaid : Prop := ∀ (n : Int) (w : World), -9223372036854775808 ≤ n ∧ n ≤ 9223372036854775807 → Calls Try.prog 9 #[.int .i64 n] w fun e w' => e = .returned (.int .i64 (pagesOf n)) ∧ w = w'
def LaySlotSaid : Prop := ∀ (n i : Int) (w : World), -9223372036854775808 ≤ n ∧ n ≤ 9223372036854775807 → -9223372036854775808 ≤ i ∧ i ≤ 9223372036854775807 → Calls Try.prog 5 #[.int .i64 n, .int .i64 i] w fun e w' => e = .returned (.tuple #[.int .i64 (slotOf n i).1, .bool (slotOf n i).2]) ∧ w = w'
def LayHomeSaid : Prop := ∀ (n i : Int) (w : World), -9223372036854775808 ≤ n ∧ n ≤ 9223372036854775807 → -9223372036854775808 ≤ i ∧ i ≤ 9223372036854775807 → Calls Try.prog 7 #[.int .i64 n, .int .i64 i] w fun e w' => e = .returned (.tuple #[.int .i64 (homeOf n i).1, .bool (homeOf n i).2]) ∧ w = w'
def LayMarkSaid : Prop := ∀ w : World, Calls Try.prog 12 #[] w fun e w' => e = .returned (.int .i64 0) ∧ w = w'
/-- All four. -/
structure LayApi : Prop where
  pages : LayPagesSaid
  slot : LaySlotSaid
  home : LayHomeSaid
  mark : LayMarkSaid

end Go.Proofs.Ytkmlmbakgmafjaa
