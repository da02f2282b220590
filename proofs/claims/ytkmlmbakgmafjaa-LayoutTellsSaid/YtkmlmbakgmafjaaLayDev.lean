/-
  The program's own layout by contract: for any numbers it answers how many pages there are and where they stand; nothing is written. No condition.
-/
import Derived.Test.YtkmlmbakgmafjaaLayApi
import Derived.IntWalk
namespace Go.Proofs.Ytkmlmbakgmafjaa
open Go.RowKit
set_option maxRecDepth 100000
set_option linter.unusedVariables false

theorem layMark_any : LayMarkSaid := by
  intro w
  go_enter Try.func12, Try.ntmps12
  go_wp2; go_ret; exact ⟨rfl, rfl⟩

set_option maxHeartbeats 800000 in
theorem layPages_any : LayPagesSaid := by
  intro n w hn
  unfold pagesOf
  by_cases h1 : n < 3
  · rw [if_pos (.inl h1)]
    have k1 : decide (n < 3) = true := by simpa using h1
    clear h1
    go_enter Try.func9, Try.ntmps9
    go_wp2; go_ret; exact ⟨rfl, rfl⟩
  by_cases h2 : 65536 < n
  · rw [if_pos (.inr h2)]
    have k1 : decide (n < 3) = false := by simpa using h1
    have k2 : decide (65536 < n) = true := by simpa using h2
    clear h1 h2
    go_enter Try.func9, Try.ntmps9
    go_wp2; go_ret; exact ⟨rfl, rfl⟩
  · rw [if_neg (by omega)]
    have k1 : decide (n < 3) = false := by simpa using h1
    have k2 : decide (65536 < n) = false := by simpa using h2
    go_enter Try.func9, Try.ntmps9
    go_wp2; go_ret
    exact ⟨rfl, rfl⟩

set_option maxHeartbeats 800000 in
theorem layHas_any (n i : Int) (w : World) (hn : -9223372036854775808 ≤ n ∧ n ≤ 9223372036854775807) (hi : -9223372036854775808 ≤ i ∧ i ≤ 9223372036854775807) : Calls Try.prog 13 #[.int .i64 n, .int .i64 i] w fun e w' => e = .returned (.bool (decide (0 ≤ i ∧ i < pagesOf n))) ∧ w = w' := by
  have hp := pagesOf_bounds n
  have HP := Lib.hid (layPages_any n w hn)
  by_cases h1 : i < 0
  · rw [show decide (0 ≤ i ∧ i < pagesOf n) = false from by simpa using fun h => by omega]
    have k1 : decide (0 ≤ i) = false := by simpa using h1
    clear h1
    go_enter Try.func13, Try.ntmps13
    go_wp2_with (go_at_call 9; refine HP.out.mono ?_; rintro e w1 ⟨rfl, rfl⟩)
    go_ret; exact ⟨rfl, rfl⟩
  have k1 : decide (0 ≤ i) = true := by simpa using h1
  by_cases h2 : i < pagesOf n
  · rw [show decide (0 ≤ i ∧ i < pagesOf n) = true from by simpa using ⟨by omega, h2⟩]
    have k2 : decide (i < pagesOf n) = true := by simpa using h2
    clear h1 h2
    go_enter Try.func13, Try.ntmps13
    go_wp2_with (go_at_call 9; refine HP.out.mono ?_; rintro e w1 ⟨rfl, rfl⟩)
    go_ret; exact ⟨rfl, rfl⟩
  · rw [show decide (0 ≤ i ∧ i < pagesOf n) = false from by simpa using fun h => by omega]
    have k2 : decide (i < pagesOf n) = false := by simpa using h2
    clear h1 h2
    go_enter Try.func13, Try.ntmps13
    go_wp2_with (go_at_call 9; refine HP.out.mono ?_; rintro e w1 ⟨rfl, rfl⟩)
    go_ret; exact ⟨rfl, rfl⟩

set_option maxHeartbeats 800000 in
theorem laySlot_any : LaySlotSaid := by
  intro n i w hn hi
  have hp := pagesOf_bounds n
  have HH := Lib.hid (layHas_any n i w hn hi)
  have HM := Lib.hid (layMark_any w)
  unfold slotOf
  by_cases h : 0 ≤ i ∧ i < pagesOf n
  · rw [if_neg (by omega)]
    rw [show decide (0 ≤ i ∧ i < pagesOf n) = true from by simpa using h] at HH
    go_enter Try.func5, Try.ntmps5
    go_wp2_with (first
      | (go_at_call 13; refine HH.out.mono ?_; rintro e w1 ⟨rfl, rfl⟩)
      | (go_at_call 12; refine HM.out.mono ?_; rintro e w1 ⟨rfl, rfl⟩))
    go_ret2; exact ⟨by simp; omega, rfl⟩
  · rw [if_pos (by omega)]
    rw [show decide (0 ≤ i ∧ i < pagesOf n) = false from by simpa using h] at HH
    go_enter Try.func5, Try.ntmps5
    go_wp2_with (first
      | (go_at_call 13; refine HH.out.mono ?_; rintro e w1 ⟨rfl, rfl⟩)
      | (go_at_call 12; refine HM.out.mono ?_; rintro e w1 ⟨rfl, rfl⟩))
    go_ret2; exact ⟨rfl, rfl⟩

set_option maxHeartbeats 800000 in
theorem layHome_any : LayHomeSaid := by
  intro n i w hn hi
  have hp := pagesOf_bounds n
  have HH := Lib.hid (layHas_any n i w hn hi)
  have HM := Lib.hid (layMark_any w)
  have HP := Lib.hid (layPages_any n w hn)
  unfold homeOf
  by_cases h : 0 ≤ i ∧ i < pagesOf n
  · rw [if_neg (by omega)]
    rw [show decide (0 ≤ i ∧ i < pagesOf n) = true from by simpa using h] at HH
    generalize pagesOf n = P at *
    go_enter Try.func7, Try.ntmps7
    go_wp2_with (first
      | (go_at_call 13; refine HH.out.mono ?_; rintro e w1 ⟨rfl, rfl⟩)
      | (go_at_call 12; refine HM.out.mono ?_; rintro e w1 ⟨rfl, rfl⟩)
      | (go_at_call 9; refine HP.out.mono ?_; rintro e w1 ⟨rfl, rfl⟩))
    go_ret2; exact ⟨by simp; omega, rfl⟩
  · rw [if_pos (by omega)]
    rw [show decide (0 ≤ i ∧ i < pagesOf n) = false from by simpa using h] at HH
    go_enter Try.func7, Try.ntmps7
    go_wp2_with (first
      | (go_at_call 13; refine HH.out.mono ?_; rintro e w1 ⟨rfl, rfl⟩)
      | (go_at_call 12; refine HM.out.mono ?_; rintro e w1 ⟨rfl, rfl⟩)
      | (go_at_call 9; refine HP.out.mono ?_; rintro e w1 ⟨rfl, rfl⟩))
    go_ret2; exact ⟨rfl, rfl⟩

theorem lay_said : LayApi := ⟨layPages_any, laySlot_any, layHome_any, layMark_any⟩

end Go.Proofs.Ytkmlmbakgmafjaa
