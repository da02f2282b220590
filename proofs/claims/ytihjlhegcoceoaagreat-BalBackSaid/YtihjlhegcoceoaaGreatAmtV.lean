/-
  Contracts of amount.Fits, Right, Add and Sum, under names of their own (as XAmtA, XAmtB say them). No condition but that lengths are ints.
-/
import Derived.Test.YtihjlhegcoceoaaGreatBase
import Derived.Test.YtihjlhegcoceoaaGreatInts
namespace Go.Proofs.YtihjlhegcoceoaaGreat
open Go.RowKit
set_option maxRecDepth 100000
set_option linter.unusedVariables false

/-- An int. -/
def AmtInt (n : Int) : Prop := -9223372036854775808 ≤ n ∧ n ≤ 9223372036854775807
theorem AmtInt.of_wf {n : Int} (h : (Lit.int .i64 n).wf = true) : AmtInt n := by
  simp [Lit.wf, IntKind.min, IntKind.max, IntKind.signed, IntKind.bits] at h
  exact ⟨by omega, by omega⟩
/-- May n be a total? -/
def amtFitsB (n : Int) : Bool := decide (-4611686018427387904 ≤ n) && decide (n ≤ 4611686018427387904)
/-- May n be asked for? -/
def amtRightB (n : Int) : Bool := decide (1 ≤ n) && decide (n ≤ 9007199254740992)
/-- Two together, and the error. -/
def amtAddR (a b : Int) : Int × Int := if (amtFitsB a && amtFitsB b && amtFitsB (a + b)) = true then (a + b, 0) else (0, 9)

theorem amtFits_iff (n : Int) : amtFitsB n = true ↔ -4611686018427387904 ≤ n ∧ n ≤ 4611686018427387904 := by simp [amtFitsB]

set_option maxHeartbeats 400000 in
theorem amtFits_any (a : Int) (w : World) : Calls Tryz.prog 26 #[.int .i64 a] w fun e w' => e = .returned (.bool (amtFitsB a)) ∧ w = w' := by
  unfold amtFitsB
  by_cases h : -4611686018427387904 ≤ a
  · go_enter Tryz.func26, Tryz.ntmps26
    go_wp2
    go_ret
    simp [h]
  · go_enter Tryz.func26, Tryz.ntmps26
    go_wp2
    go_ret
    simp; omega
/-- The sum of two that fit wraps round to what fits just if it fits. -/
theorem amtSum_wraps {a b : Int} (ha : amtFitsB a = true) (hb : amtFitsB b = true) : amtFitsB (IntKind.i64.wrap (a + b)) = amtFitsB (a + b) ∧ (amtFitsB (a + b) = true → IntKind.i64.wrap (a + b) = a + b) := by
  rw [amtFits_iff] at ha hb
  have hw : IntKind.i64.wrap (a + b) = a + b ∨ (a + b = 9223372036854775808 ∧ IntKind.i64.wrap (a + b) = -9223372036854775808) := by
    rw [IntKind.wrap_i64]
    omega
  rcases hw with e | ⟨e, f⟩
  · rw [e]; exact ⟨rfl, fun _ => rfl⟩
  · rw [f, e]; exact ⟨by decide, by decide⟩

set_option maxHeartbeats 800000 in
theorem amtAdd_any (a b : Int) (w : World) : Calls Tryz.prog 12 #[.int .i64 a, .int .i64 b] w fun e w' => e = .returned (.tuple #[.int .i64 (amtAddR a b).1, .int .i64 (amtAddR a b).2]) ∧ w = w' := by
  unfold amtAddR
  cases ha : amtFitsB a
  · simp only [Bool.false_and, Bool.false_eq_true, if_false]
    go_enter Tryz.func12, Tryz.ntmps12
    go_wp2_with (refine (amtFits_any _ _).mono ?_; rw [ha]; rintro e w' ⟨rfl, rfl⟩)
    go_ret2
    exact ⟨rfl, rfl⟩
  · cases hb : amtFitsB b
    · simp only [Bool.false_and, Bool.and_false, Bool.false_eq_true, if_false]
      go_enter Tryz.func12, Tryz.ntmps12
      go_wp2_with fail
      refine (amtFits_any _ _).mono ?_; rw [ha]; rintro e w' ⟨rfl, rfl⟩
      go_wp2_with fail
      refine (amtFits_any _ _).mono ?_; rw [hb]; rintro e w' ⟨rfl, rfl⟩
      go_wp2_with fail
      go_ret2
      exact ⟨rfl, rfl⟩
    · obtain ⟨hw, hv⟩ := amtSum_wraps ha hb
      obtain ⟨s, hs⟩ : ∃ s, IntKind.i64.wrap (a + b) = s := ⟨_, rfl⟩
      rw [hs] at hw hv
      cases hc : amtFitsB (a + b)
      · rw [hc] at hw
        clear hv
        simp only [Bool.and_false, Bool.false_eq_true, if_false]
        go_enter Tryz.func12, Tryz.ntmps12
        go_wp2_with fail
        refine (amtFits_any _ _).mono ?_; rw [ha]; rintro e w' ⟨rfl, rfl⟩
        go_wp2_with fail
        refine (amtFits_any _ _).mono ?_; rw [hb]; rintro e w' ⟨rfl, rfl⟩
        go_wp2_with fail
        refine (amtFits_any _ _).mono ?_; rw [hw]; rintro e w' ⟨rfl, rfl⟩
        go_wp2_with fail
        go_ret2
        exact ⟨rfl, rfl⟩
      · rw [hc] at hw
        obtain rfl : s = a + b := hv hc
        clear hv
        simp only [Bool.and_self, if_true]
        go_enter Tryz.func12, Tryz.ntmps12
        go_wp2_with fail
        refine (amtFits_any _ _).mono ?_; rw [ha]; rintro e w' ⟨rfl, rfl⟩
        go_wp2_with fail
        refine (amtFits_any _ _).mono ?_; rw [hb]; rintro e w' ⟨rfl, rfl⟩
        go_wp2_with fail
        refine (amtFits_any _ _).mono ?_; rw [hw]; rintro e w' ⟨rfl, rfl⟩
        go_wp2_with fail
        go_ret2
        exact ⟨rfl, rfl⟩


/-- All together, from s on, one by one; the error. -/
def amtSumR (s : Int) : List Int → Int × Int
  | [] => (s, 0)
  | n :: l => if (amtAddR s n).2 = 0 then amtSumR (amtAddR s n).1 l else (0, (amtAddR s n).2)
theorem amtSumR_drop {l : List Int} {k : Nat} (h : k < l.length) (s : Int) : amtSumR s (l.drop k) = if (amtAddR s (l[k]?.getD 0)).2 = 0 then amtSumR (amtAddR s (l[k]?.getD 0)).1 (l.drop (k + 1)) else (0, (amtAddR s (l[k]?.getD 0)).2) := by
  rw [List.drop_eq_getElem_cons h, List.getElem?_eq_getElem h]
  rfl

end Go.Proofs.YtihjlhegcoceoaaGreat
