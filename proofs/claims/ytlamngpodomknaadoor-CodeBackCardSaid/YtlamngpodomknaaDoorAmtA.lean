/-
  Contracts of amount.Fits, Add, Right and of the plain ones: for every int they answer whether it fits, the sum or 0 and the error, whether it may be asked for; nothing is written. No condition but that the numbers are ints.
-/
import Derived.Test.YtlamngpodomknaaDoorBase
namespace Go.Proofs.YtlamngpodomknaaDoor
open Go.RowKit
set_option maxRecDepth 100000
set_option linter.unusedVariables false

/-- An int. -/
def IsInt (n : Int) : Prop := -9223372036854775808 ≤ n ∧ n ≤ 9223372036854775807
theorem IsInt.of_wf {n : Int} (h : (Lit.int .i64 n).wf = true) : IsInt n := by
  simp [Lit.wf, IntKind.min, IntKind.max, IntKind.signed, IntKind.bits] at h
  exact ⟨by omega, by omega⟩
/-- May n be a total? -/
def fitsB (n : Int) : Bool := decide (-4611686018427387904 ≤ n) && decide (n ≤ 4611686018427387904)
/-- May n be asked for? -/
def rightB (n : Int) : Bool := decide (1 ≤ n) && decide (n ≤ 9007199254740992)
/-- Two together, and the error. -/
def addR (a b : Int) : Int × Int := if (fitsB a && fitsB b && fitsB (a + b)) = true then (a + b, 0) else (0, 9)

theorem fits_iff (n : Int) : fitsB n = true ↔ -4611686018427387904 ≤ n ∧ n ≤ 4611686018427387904 := by simp [fitsB]

set_option maxHeartbeats 400000 in
theorem fits_any (a : Int) (w : World) : Calls Tryd.prog 12 #[.int .i64 a] w fun e w' => e = .returned (.bool (fitsB a)) ∧ w = w' := by
  unfold fitsB
  by_cases h : -4611686018427387904 ≤ a
  · go_enter Tryd.func12, Tryd.ntmps12
    go_wp2
    go_ret
    simp [h]
  · go_enter Tryd.func12, Tryd.ntmps12
    go_wp2
    go_ret
    simp; omega
set_option maxHeartbeats 400000 in
theorem refFits_any (a : Int) (w : World) : Calls Tryd.prog 13 #[.int .i64 a] w fun e w' => e = .returned (.bool (fitsB a)) ∧ w = w' := by
  unfold fitsB
  by_cases h : -4611686018427387904 ≤ a
  · go_enter Tryd.func13, Tryd.ntmps13
    go_wp2
    go_ret
    simp [h]
  · go_enter Tryd.func13, Tryd.ntmps13
    go_wp2
    go_ret
    simp; omega
set_option maxHeartbeats 400000 in
theorem right_any (a : Int) (w : World) : Calls Tryd.prog 14 #[.int .i64 a] w fun e w' => e = .returned (.bool (rightB a)) ∧ w = w' := by
  unfold rightB
  by_cases h : 1 ≤ a
  · go_enter Tryd.func14, Tryd.ntmps14
    go_wp2
    go_ret
    simp [h]
  · go_enter Tryd.func14, Tryd.ntmps14
    go_wp2
    go_ret
    simp; omega
set_option maxHeartbeats 400000 in
theorem refRight_any (a : Int) (w : World) : Calls Tryd.prog 15 #[.int .i64 a] w fun e w' => e = .returned (.bool (rightB a)) ∧ w = w' := by
  unfold rightB
  by_cases h : 1 ≤ a
  · go_enter Tryd.func15, Tryd.ntmps15
    go_wp2
    go_ret
    simp [h]
  · go_enter Tryd.func15, Tryd.ntmps15
    go_wp2
    go_ret
    simp; omega

/-- The sum of two that fit wraps round to what fits just if it fits. -/
theorem sum_wraps {a b : Int} (ha : fitsB a = true) (hb : fitsB b = true) : fitsB (IntKind.i64.wrap (a + b)) = fitsB (a + b) ∧ (fitsB (a + b) = true → IntKind.i64.wrap (a + b) = a + b) := by
  rw [fits_iff] at ha hb
  have hw : IntKind.i64.wrap (a + b) = a + b ∨ (a + b = 9223372036854775808 ∧ IntKind.i64.wrap (a + b) = -9223372036854775808) := by
    rw [IntKind.wrap_i64]
    omega
  rcases hw with e | ⟨e, f⟩
  · rw [e]; exact ⟨rfl, fun _ => rfl⟩
  · rw [f, e]; exact ⟨by decide, by decide⟩

set_option maxHeartbeats 800000 in
theorem add_any (a b : Int) (w : World) : Calls Tryd.prog 8 #[.int .i64 a, .int .i64 b] w fun e w' => e = .returned (.tuple #[.int .i64 (addR a b).1, .int .i64 (addR a b).2]) ∧ w = w' := by
  unfold addR
  cases ha : fitsB a
  · simp only [Bool.false_and, Bool.false_eq_true, if_false]
    go_enter Tryd.func8, Tryd.ntmps8
    go_wp2_with (refine (fits_any _ _).mono ?_; rw [ha]; rintro e w' ⟨rfl, rfl⟩)
    go_ret2
    exact ⟨rfl, rfl⟩
  · cases hb : fitsB b
    · simp only [Bool.false_and, Bool.and_false, Bool.false_eq_true, if_false]
      go_enter Tryd.func8, Tryd.ntmps8
      go_wp2_with fail
      refine (fits_any _ _).mono ?_; rw [ha]; rintro e w' ⟨rfl, rfl⟩
      go_wp2_with fail
      refine (fits_any _ _).mono ?_; rw [hb]; rintro e w' ⟨rfl, rfl⟩
      go_wp2_with fail
      go_ret2
      exact ⟨rfl, rfl⟩
    · obtain ⟨hw, hv⟩ := sum_wraps ha hb
      obtain ⟨s, hs⟩ : ∃ s, IntKind.i64.wrap (a + b) = s := ⟨_, rfl⟩
      rw [hs] at hw hv
      cases hc : fitsB (a + b)
      · rw [hc] at hw
        clear hv
        simp only [Bool.and_false, Bool.false_eq_true, if_false]
        go_enter Tryd.func8, Tryd.ntmps8
        go_wp2_with fail
        refine (fits_any _ _).mono ?_; rw [ha]; rintro e w' ⟨rfl, rfl⟩
        go_wp2_with fail
        refine (fits_any _ _).mono ?_; rw [hb]; rintro e w' ⟨rfl, rfl⟩
        go_wp2_with fail
        refine (fits_any _ _).mono ?_; rw [hw]; rintro e w' ⟨rfl, rfl⟩
        go_wp2_with fail
        go_ret2
        exact ⟨rfl, rfl⟩
      · rw [hc] at hw
        obtain rfl : s = a + b := hv hc
        clear hv
        simp only [Bool.and_self, if_true]
        go_enter Tryd.func8, Tryd.ntmps8
        go_wp2_with fail
        refine (fits_any _ _).mono ?_; rw [ha]; rintro e w' ⟨rfl, rfl⟩
        go_wp2_with fail
        refine (fits_any _ _).mono ?_; rw [hb]; rintro e w' ⟨rfl, rfl⟩
        go_wp2_with fail
        refine (fits_any _ _).mono ?_; rw [hw]; rintro e w' ⟨rfl, rfl⟩
        go_wp2_with fail
        go_ret2
        exact ⟨rfl, rfl⟩

set_option maxHeartbeats 1600000 in
theorem refAdd_any (a b : Int) (w : World) : Calls Tryd.prog 9 #[.int .i64 a, .int .i64 b] w fun e w' => e = .returned (.tuple #[.int .i64 (addR a b).1, .int .i64 (addR a b).2]) ∧ w = w' := by
  unfold addR
  cases ha : fitsB a
  · simp only [Bool.false_and, Bool.false_eq_true, if_false]
    go_enter Tryd.func9, Tryd.ntmps9
    go_wp2_with (refine (refFits_any _ _).mono ?_; rw [ha]; rintro e w' ⟨rfl, rfl⟩)
    go_ret2
    exact ⟨rfl, rfl⟩
  · cases hb : fitsB b
    · simp only [Bool.false_and, Bool.and_false, Bool.false_eq_true, if_false]
      go_enter Tryd.func9, Tryd.ntmps9
      go_wp2_with fail
      refine (refFits_any _ _).mono ?_; rw [ha]; rintro e w' ⟨rfl, rfl⟩
      go_wp2_with fail
      refine (refFits_any _ _).mono ?_; rw [hb]; rintro e w' ⟨rfl, rfl⟩
      go_wp2_with fail
      go_ret2
      exact ⟨rfl, rfl⟩
    · have hA := (fits_iff a).1 ha
      have hB := (fits_iff b).1 hb
      by_cases hs : -4611686018427387904 ≤ a + b ∧ a + b ≤ 4611686018427387904
      · have hk : IntKind.i64.wrap (a + b) = a + b := by rw [IntKind.wrap_i64]; omega
        rw [(fits_iff (a + b)).2 hs]
        simp only [Bool.and_self, if_true]
        obtain ⟨s, hS⟩ : ∃ s, a + b = s := ⟨_, rfl⟩
        rw [hS] at hs ⊢
        have hk : IntKind.i64.wrap (a + b) = s := by rw [hk, hS]
        rcases (show 0 < a ∨ a = 0 ∨ a < 0 by omega) with h0 | h0 | h0
        · -- a above 0
          have d1 : decide (0 < a) = true := by simp; omega
          have d2 : decide (a < 0) = false := by simp; omega
          obtain ⟨p, hp⟩ : ∃ p, 4611686018427387904 - a = p := ⟨_, rfl⟩
          have k1 : IntKind.i64.wrap (4611686018427387904 - a) = p := by rw [IntKind.wrap_i64]; omega
          have d3 : decide (p < b) = false := by simp; omega
          have HS := Lib.hid hS
          clear h0 hp hA hB hS
          go_enter Tryd.func9, Tryd.ntmps9
          go_wp2_with fail
          refine (refFits_any _ _).mono ?_; rw [ha]; rintro e w' ⟨rfl, rfl⟩
          go_wp2_with fail
          refine (refFits_any _ _).mono ?_; rw [hb]; rintro e w' ⟨rfl, rfl⟩
          go_wp2_with fail
          go_ret2
          obtain rfl := HS.out
          exact ⟨rfl, rfl⟩
        · subst h0
          obtain rfl : b = s := by omega
          clear hS hA hB
          go_enter Tryd.func9, Tryd.ntmps9
          go_wp2_with fail
          refine (refFits_any _ _).mono ?_; rw [ha]; rintro e w' ⟨rfl, rfl⟩
          go_wp2_with fail
          refine (refFits_any _ _).mono ?_; rw [hb]; rintro e w' ⟨rfl, rfl⟩
          go_wp2_with fail
          go_ret2
          exact ⟨rfl, rfl⟩
        · -- a below 0
          have d1 : decide (0 < a) = false := by simp; omega
          have d2 : decide (a < 0) = true := by simp; omega
          obtain ⟨q, hq⟩ : ∃ q, -4611686018427387904 - a = q := ⟨_, rfl⟩
          have k2 : IntKind.i64.wrap (-4611686018427387904 - a) = q := by rw [IntKind.wrap_i64]; omega
          have d3 : decide (b < q) = false := by simp; omega
          have HS := Lib.hid hS
          clear h0 hq hA hB hS
          go_enter Tryd.func9, Tryd.ntmps9
          go_wp2_with fail
          refine (refFits_any _ _).mono ?_; rw [ha]; rintro e w' ⟨rfl, rfl⟩
          go_wp2_with fail
          refine (refFits_any _ _).mono ?_; rw [hb]; rintro e w' ⟨rfl, rfl⟩
          go_wp2_with fail
          go_ret2
          obtain rfl := HS.out
          exact ⟨rfl, rfl⟩
      · have hn : fitsB (a + b) = false := by rw [Bool.eq_false_iff]; exact fun h => hs ((fits_iff _).1 h)
        rw [hn]
        simp only [Bool.and_false, Bool.false_eq_true, if_false]
        have hS := hs
        rcases (show 0 < a ∨ a = 0 ∨ a < 0 by omega) with h0 | h0 | h0
        · -- a above 0
          have d1 : decide (0 < a) = true := by simp; omega
          have d2 : decide (a < 0) = false := by simp; omega
          obtain ⟨p, hp⟩ : ∃ p, 4611686018427387904 - a = p := ⟨_, rfl⟩
          have k1 : IntKind.i64.wrap (4611686018427387904 - a) = p := by rw [IntKind.wrap_i64]; omega
          have d3 : decide (p < b) = true := by simp; omega
          clear hs h0 hp hA hB hS
          go_enter Tryd.func9, Tryd.ntmps9
          go_wp2_with fail
          refine (refFits_any _ _).mono ?_; rw [ha]; rintro e w' ⟨rfl, rfl⟩
          go_wp2_with fail
          refine (refFits_any _ _).mono ?_; rw [hb]; rintro e w' ⟨rfl, rfl⟩
          go_wp2_with fail
          go_ret2
          exact ⟨rfl, rfl⟩
        · omega
        · -- a below 0
          have d1 : decide (0 < a) = false := by simp; omega
          have d2 : decide (a < 0) = true := by simp; omega
          obtain ⟨q, hq⟩ : ∃ q, -4611686018427387904 - a = q := ⟨_, rfl⟩
          have k2 : IntKind.i64.wrap (-4611686018427387904 - a) = q := by rw [IntKind.wrap_i64]; omega
          have d3 : decide (b < q) = true := by simp; omega
          clear hs h0 hq hA hB hS
          go_enter Tryd.func9, Tryd.ntmps9
          go_wp2_with fail
          refine (refFits_any _ _).mono ?_; rw [ha]; rintro e w' ⟨rfl, rfl⟩
          go_wp2_with fail
          refine (refFits_any _ _).mono ?_; rw [hb]; rintro e w' ⟨rfl, rfl⟩
          go_wp2_with fail
          go_ret2
          exact ⟨rfl, rfl⟩

end Go.Proofs.YtlamngpodomknaaDoor
