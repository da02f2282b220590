/-
  The walks of the statements on amounts: for every ints and slice of ints both sides answer alike, so each returns true; nothing that was there is written. Condition: the library's table of powers of ten holds what its text lays in it.
-/
import Derived.Test.YtlamngpodomknaaDoorAmtU
namespace Go.Proofs.YtlamngpodomknaaDoor
open Go.RowKit
set_option maxRecDepth 100000
set_option linter.unusedVariables false

set_option maxHeartbeats 1600000 in
theorem amountAdds_walk (a b : Int) (ha : IsInt a) (w : World) {n : Nat} {A : Option Addr} {l : List Int} (c : Nat) (hr : RI w w.heap.size A n l) (hm : n ≤ maxLen) (ht : Pows w) :
    Calls Tryd.prog 3 #[.int .i64 a, .int .i64 b, .slice A n c] w fun e w' => e = .returned (.bool true) ∧ Below w.heap.size w w' := by
  by_cases hbig : 200 < n
  · have k0 : decide ((200 : Int) < (n : Int)) = true := by simp; omega
    unfold maxLen at hm
    go_enter Tryd.func3, Tryd.ntmps3
    go_wp2_with (go_at_call 7; refine (awake15_any _ ht).mono ?_; rintro e w' ⟨rfl, hb⟩)
    go_ret
    exact ⟨rfl, hb⟩
  · have k0 : decide ((200 : Int) < (n : Int)) = false := by simp; omega
    have h1 := fun w => add_any a b w
    have h2 := fun w => refAdd_any a b w
    have h3 := sum_any c hr hm
    have h4 := refSum_any c hr hm
    generalize addR a b = r1 at h1 h2
    generalize sumR 0 l = r2 at h3 h4
    clear hm
    go_enter Tryd.func3, Tryd.ntmps3
    go_wp2_with fail
    refine (h1 _).mono ?_
    rintro e w1 ⟨rfl, rfl⟩
    go_wp2_with fail
    refine (h2 _).mono ?_
    rintro e w1 ⟨rfl, rfl⟩
    go_wp2_with fail
    refine h3.mono ?_
    rintro e w1 ⟨rfl, rfl⟩
    go_wp2_with fail
    refine h4.mono ?_
    rintro e w1 ⟨rfl, rfl⟩
    go_wp2_with fail
    refine (fits_any _ _).mono ?_
    rintro e w1 ⟨rfl, rfl⟩
    go_wp2_with fail
    refine (refFits_any _ _).mono ?_
    rintro e w1 ⟨rfl, rfl⟩
    go_wp2_with fail
    refine (right_any _ _).mono ?_
    rintro e w1 ⟨rfl, rfl⟩
    go_wp2_with fail
    refine (refRight_any _ _).mono ?_
    rintro e w1 ⟨rfl, rfl⟩
    go_wp2_with fail
    refine (text_any _ ha _ ht).mono ?_
    rintro e w1 ⟨rfl, b1⟩
    go_wp2_with fail
    refine (refText_any _ ha _).mono ?_
    rintro e w2 ⟨rfl, rfl⟩
    go_wp2_with fail
    refine (awake15_any _ (ht.below b1)).mono ?_
    rintro e w2 ⟨rfl, b2⟩
    go_wp2_with fail
    go_ret
    exact ⟨rfl, b1.trans (b2.mono b1.size)⟩

/-- What was added is taken off again. -/
theorem add_back {a b : Int} (h : (addR a b).2 = 0) : addR (addR a b).1 (-b) = (a, 0) ∧ fitsB (addR a b).1 = true := by
  unfold addR at h ⊢
  by_cases hc : (fitsB a && fitsB b && fitsB (a + b)) = true
  · rw [if_pos hc]
    have hk := hc
    rw [Bool.and_eq_true, Bool.and_eq_true, fits_iff, fits_iff, fits_iff] at hk
    obtain ⟨⟨h1, h2⟩, h3⟩ := hk
    have e : a + b + -b = a := by omega
    refine ⟨?_, (fits_iff _).2 h3⟩
    show (if (fitsB (a + b) && fitsB (-b) && fitsB (a + b + -b)) = true then (a + b + -b, (0 : Int)) else (0, 9)) = (a, 0)
    rw [e, (fits_iff _).2 h1, (fits_iff _).2 h3, (fits_iff _).2 (show _ ∧ _ from ⟨by omega, by omega⟩)]
    rfl
  · rw [if_neg hc] at h
    cases h
theorem addR_comm (a b : Int) : addR b a = addR a b := by
  unfold addR
  rw [Int.add_comm b a, Bool.and_comm (fitsB b) (fitsB a)]
theorem addR_zero {a b : Int} (h : (addR a b).2 ≠ 0) : (addR a b).1 = 0 := by
  unfold addR at h ⊢
  split
  · rename_i hc; rw [if_pos hc] at h; exact absurd rfl h
  · rfl

set_option maxHeartbeats 1600000 in
theorem amountBack_walk (a b : Int) (hb : IsInt b) (w : World) (ht : Pows w) :
    Calls Tryd.prog 4 #[.int .i64 a, .int .i64 b] w fun e w' => e = .returned (.bool true) ∧ Below w.heap.size w w' := by
  have h1 := fun w => add_any a b w
  have h2 := fun w => add_any b a w
  rw [addR_comm] at h2
  by_cases h0 : (addR a b).2 = 0
  · obtain ⟨e1, e2⟩ := add_back h0
    have h3 := fun w => add_any (addR a b).1 (-b) w
    rw [e1] at h3
    have h4 := fun w => fits_any (addR a b).1 w
    rw [e2] at h4
    have hfb : fitsB b = true := by
      have : (fitsB a && fitsB b && fitsB (a + b)) = true := by
        cases hc : (fitsB a && fitsB b && fitsB (a + b))
        · unfold addR at h0; rw [hc] at h0; cases h0
        · rfl
      simp only [Bool.and_eq_true] at this
      exact this.1.2
    have k1 : IntKind.i64.wrap (-b) = -b := by
      have := (fits_iff b).1 hfb
      rw [IntKind.wrap_i64]
      omega
    clear e1 e2 hfb
    rw [h0] at h1 h2
    clear h0
    generalize (addR a b).1 = r at h1 h2 h3 h4
    obtain ⟨nb, hnb⟩ : ∃ x, -b = x := ⟨_, rfl⟩
    rw [hnb] at h3 k1
    have k2 : IntKind.i64.wrap (-b) = nb := by rw [hnb]; exact k1
    clear k1 hnb
    go_enter Tryd.func4, Tryd.ntmps4
    go_wp2_with fail
    refine (h1 _).mono ?_
    rintro e w1 ⟨rfl, rfl⟩
    go_wp2_with fail
    refine (h2 _).mono ?_
    rintro e w1 ⟨rfl, rfl⟩
    go_wp2_with fail
    refine (h3 _).mono ?_
    rintro e w1 ⟨rfl, rfl⟩
    go_wp2_with fail
    refine (h4 _).mono ?_
    rintro e w1 ⟨rfl, rfl⟩
    go_wp2_with fail
    refine (awake15_any _ ht).mono ?_
    rintro e w2 ⟨rfl, b2⟩
    go_wp2_with fail
    go_ret
    exact ⟨rfl, b2⟩
  · rw [addR_zero h0] at h1 h2
    have d0 : ((addR a b).2 == 0) = false := by simpa using h0
    clear h0
    generalize (addR a b).2 = r at h1 h2 d0
    go_enter Tryd.func4, Tryd.ntmps4
    go_wp2_with fail
    refine (h1 _).mono ?_
    rintro e w1 ⟨rfl, rfl⟩
    go_wp2_with fail
    refine (h2 _).mono ?_
    rintro e w1 ⟨rfl, rfl⟩
    go_wp2_with fail
    refine (awake15_any _ ht).mono ?_
    rintro e w2 ⟨rfl, b2⟩
    go_wp2_with fail
    go_ret
    exact ⟨rfl, b2⟩
end Go.Proofs.YtlamngpodomknaaDoor
