/-
  Which numbers are a fund, an object, an object that is there already, by contract: the program's and the document's. No condition.
-/
import Derived.Test.YtccibahlcpkiaaaGreatBase
import Derived.ProofKit
namespace Go.Proofs.YtccibahlcpkiaaaGreat
open Go.RowKit
set_option maxRecDepth 100000
set_option linter.unusedVariables false

/-- May n be a fund, an object? -/
def fundB (n : Int) : Bool := decide (100 ≤ n) && decide (n ≤ 999)
def objB (n : Int) : Bool := decide (1000 ≤ n) && decide (n ≤ 5999)
theorem fund_iff (n : Int) : fundB n = true ↔ 100 ≤ n ∧ n ≤ 999 := by simp [fundB]
theorem obj_iff (n : Int) : objB n = true ↔ 1000 ≤ n ∧ n ≤ 5999 := by simp [objB]
set_option maxHeartbeats 400000 in
theorem fund_any (a : Int) (w : World) : Calls Tryz.prog 23 #[.int .i64 a] w fun e w' => e = .returned (.bool (fundB a)) ∧ w = w' := by
  unfold fundB
  by_cases h : 100 ≤ a
  · go_enter Tryz.func23, Tryz.ntmps23
    go_wp2
    go_ret
    simp; omega
  · go_enter Tryz.func23, Tryz.ntmps23
    go_wp2
    go_ret
    simp; omega
set_option maxHeartbeats 400000 in
theorem refFund_any (a : Int) (w : World) : Calls Tryz.prog 29 #[.int .i64 a] w fun e w' => e = .returned (.bool (fundB a)) ∧ w = w' := by
  unfold fundB
  by_cases h : 100 ≤ a
  · go_enter Tryz.func29, Tryz.ntmps29
    go_wp2
    go_ret
    simp; omega
  · go_enter Tryz.func29, Tryz.ntmps29
    go_wp2
    go_ret
    simp; omega
/-- Is an object always there? -/
def fixedB (o : Int) : Bool := o == 1010 || (o == 1900 || (o == 2900 || o == 3000))
set_option maxHeartbeats 400000 in
theorem fixed_any (a : Int) (w : World) : Calls Tryz.prog 75 #[.int .i64 a] w fun e w' => e = .returned (.bool (fixedB a)) ∧ w = w' := by
  unfold fixedB
  cases h1 : (a == 1010)
  · cases h2 : (a == 1900)
    · cases h3 : (a == 2900)
      · cases h4 : (a == 3000)
        · go_enter Tryz.func75, Tryz.ntmps75
          go_wp2
          go_ret
          exact ⟨rfl, rfl⟩
        · go_enter Tryz.func75, Tryz.ntmps75
          go_wp2
          go_ret
          exact ⟨rfl, rfl⟩
      · go_enter Tryz.func75, Tryz.ntmps75
        go_wp2
        go_ret
        exact ⟨rfl, rfl⟩
    · go_enter Tryz.func75, Tryz.ntmps75
      go_wp2
      go_ret
      exact ⟨rfl, rfl⟩
  · go_enter Tryz.func75, Tryz.ntmps75
    go_wp2
    go_ret
    exact ⟨rfl, rfl⟩
set_option maxHeartbeats 400000 in
theorem refFixed_any (a : Int) (w : World) : Calls Tryz.prog 62 #[.int .i64 a] w fun e w' => e = .returned (.bool (fixedB a)) ∧ w = w' := by
  unfold fixedB
  cases h1 : (a == 1010)
  · cases h2 : (a == 1900)
    · cases h3 : (a == 2900)
      · cases h4 : (a == 3000)
        · go_enter Tryz.func62, Tryz.ntmps62
          go_wp2
          go_ret
          exact ⟨rfl, rfl⟩
        · go_enter Tryz.func62, Tryz.ntmps62
          go_wp2
          go_ret
          exact ⟨rfl, rfl⟩
      · go_enter Tryz.func62, Tryz.ntmps62
        go_wp2
        go_ret
        exact ⟨rfl, rfl⟩
    · go_enter Tryz.func62, Tryz.ntmps62
      go_wp2
      go_ret
      exact ⟨rfl, rfl⟩
  · go_enter Tryz.func62, Tryz.ntmps62
    go_wp2
    go_ret
    exact ⟨rfl, rfl⟩


end Go.Proofs.YtccibahlcpkiaaaGreat
