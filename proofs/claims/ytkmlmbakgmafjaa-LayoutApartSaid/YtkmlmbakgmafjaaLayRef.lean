/-
  Contracts of the plain answers of layout: for any numbers they answer how many pages there are and where they stand; nothing is written. No condition.
-/
import Derived.Test.YtkmlmbakgmafjaaLayP
import Derived.IntWalk
namespace Go.Proofs.Ytkmlmbakgmafjaa
open Go.RowKit
set_option maxRecDepth 100000
set_option linter.unusedVariables false

set_option maxHeartbeats 800000 in
theorem refPages_any (n : Int) (w : World) (hn : -9223372036854775808 ≤ n ∧ n ≤ 9223372036854775807) : Calls Try.prog 10 #[.int .i64 n] w fun e w' => e = .returned (.int .i64 (pagesOf n)) ∧ w = w' := by
  unfold pagesOf
  by_cases h1 : n < 3
  · rw [if_pos (.inl h1)]
    have k1 : decide (n < 3) = true := by simpa using h1
    clear h1
    go_enter Try.func10, Try.ntmps10
    go_wp2; go_ret; exact ⟨rfl, rfl⟩
  by_cases h2 : 65536 < n
  · rw [if_pos (.inr h2)]
    have k1 : decide (n < 3) = false := by simpa using h1
    have k2 : decide (65536 < n) = true := by simpa using h2
    clear h1 h2
    go_enter Try.func10, Try.ntmps10
    go_wp2; go_ret; exact ⟨rfl, rfl⟩
  · rw [if_neg (by omega)]
    have k1 : decide (n < 3) = false := by simpa using h1
    have k2 : decide (65536 < n) = false := by simpa using h2
    go_enter Try.func10, Try.ntmps10
    go_wp2; go_ret
    exact ⟨rfl, rfl⟩

set_option maxHeartbeats 800000 in
theorem refSlot_any (n i : Int) (w : World) (hn : -9223372036854775808 ≤ n ∧ n ≤ 9223372036854775807) : Calls Try.prog 6 #[.int .i64 n, .int .i64 i] w fun e w' => e = .returned (.tuple #[.int .i64 (slotOf n i).1, .bool (slotOf n i).2]) ∧ w = w' := by
  have hp := pagesOf_bounds n
  have HP := Lib.hid (refPages_any n w hn)
  unfold slotOf
  by_cases h1 : i < 0
  · rw [if_pos (.inl h1)]
    have k1 : decide (i < 0) = true := by simpa using h1
    clear h1
    go_enter Try.func6, Try.ntmps6
    go_wp2_with (go_at_call 10; refine HP.out.mono ?_; rintro e w1 ⟨rfl, rfl⟩)
    go_ret2; exact ⟨rfl, rfl⟩
  have k1 : decide (i < 0) = false := by simpa using h1
  by_cases h2 : pagesOf n ≤ i
  · rw [if_pos (.inr h2)]
    have k2 : decide (pagesOf n ≤ i) = true := by simpa using h2
    clear h1 h2
    go_enter Try.func6, Try.ntmps6
    go_wp2_with (go_at_call 10; refine HP.out.mono ?_; rintro e w1 ⟨rfl, rfl⟩)
    go_ret2; exact ⟨rfl, rfl⟩
  · rw [if_neg (by omega)]
    have k2 : decide (pagesOf n ≤ i) = false := by simpa using h2
    go_enter Try.func6, Try.ntmps6
    go_wp2_with (go_at_call 10; refine HP.out.mono ?_; rintro e w1 ⟨rfl, rfl⟩)
    go_ret2; exact ⟨rfl, rfl⟩

set_option maxHeartbeats 800000 in
theorem refHome_any (n i : Int) (w : World) (hn : -9223372036854775808 ≤ n ∧ n ≤ 9223372036854775807) : Calls Try.prog 8 #[.int .i64 n, .int .i64 i] w fun e w' => e = .returned (.tuple #[.int .i64 (homeOf n i).1, .bool (homeOf n i).2]) ∧ w = w' := by
  have hp := pagesOf_bounds n
  have HP := Lib.hid (refPages_any n w hn)
  unfold homeOf
  by_cases h1 : i < 0
  · rw [if_pos (.inl h1)]
    have k1 : decide (i < 0) = true := by simpa using h1
    clear h1
    go_enter Try.func8, Try.ntmps8
    go_wp2_with (go_at_call 10; refine HP.out.mono ?_; rintro e w1 ⟨rfl, rfl⟩)
    go_ret2; exact ⟨rfl, rfl⟩
  have k1 : decide (i < 0) = false := by simpa using h1
  by_cases h2 : pagesOf n ≤ i
  · rw [if_pos (.inr h2)]
    have k2 : decide (pagesOf n ≤ i) = true := by simpa using h2
    clear h1 h2
    go_enter Try.func8, Try.ntmps8
    go_wp2_with (go_at_call 10; refine HP.out.mono ?_; rintro e w1 ⟨rfl, rfl⟩)
    go_ret2; exact ⟨rfl, rfl⟩
  · rw [if_neg (by omega)]
    have k2 : decide (pagesOf n ≤ i) = false := by simpa using h2
    generalize pagesOf n = P at *
    go_enter Try.func8, Try.ntmps8
    go_wp2_with (go_at_call 10; refine HP.out.mono ?_; rintro e w1 ⟨rfl, rfl⟩)
    go_ret2; exact ⟨rfl, rfl⟩

end Go.Proofs.Ytkmlmbakgmafjaa
