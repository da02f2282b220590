/-
  The statement LayoutApart's walk, where its four calls' answers are given. No condition.
-/
import Derived.Test.YtkmlmbakgmafjaaLaySaid
namespace Go.Proofs.Ytkmlmbakgmafjaa
open Go.RowKit
set_option maxRecDepth 100000
set_option linter.unusedVariables false

theorem u16_bounds {n : Int} (h : (Lit.int .u16 n).wf = true) : 0 ≤ n ∧ n ≤ 65535 := by
  simpa [Lit.wf, IntKind.min, IntKind.max, IntKind.signed, IntKind.bits] using h

set_option maxHeartbeats 3200000 in
theorem apart_walk (api : LayApi) (n i k : Int) (w : World) (hn : 0 ≤ n ∧ n ≤ 65535) (hi : 0 ≤ i ∧ i ≤ 65535) (hk : 0 ≤ k ∧ k ≤ 65535) :
    Calls Try.prog 4 #[.int .u16 n, .int .u16 i, .int .u16 k] w fun e w' => e = .returned (.bool true) ∧ w = w' := by
  have hpb := pagesOf_bounds n
  have hpn := (pagesOf_nn n).2.1
  have hp3 : n < 3 → pagesOf n = 0 := fun h => by unfold pagesOf; rw [if_pos (.inl h)]
  have W1 : IntKind.i64.wrap n = n := by rw [IntKind.wrap_i64]; omega
  have W2 : IntKind.i64.wrap i = i := by rw [IntKind.wrap_i64]; omega
  have W3 : IntKind.i64.wrap k = k := by rw [IntKind.wrap_i64]; omega
  have S1 := api.slot n i w (by omega) (by omega)
  have S2 := api.home n k w (by omega) (by omega)
  have S3 := api.slot n k w (by omega) (by omega)
  have S4 := api.home n i w (by omega) (by omega)
  have H7 := Lib.hid (layAwake_any api w)
  have H8 := Lib.hid (api.mark w)
  have si : slotOf n i = if pagesOf n ≤ i then (0, false) else (i + 1, true) := by
    unfold slotOf
    by_cases h : pagesOf n ≤ i
    · rw [if_pos (.inr h), if_pos h]
    · rw [if_neg (by omega), if_neg h]
  have sk : slotOf n k = if pagesOf n ≤ k then (0, false) else (k + 1, true) := by
    unfold slotOf
    by_cases h : pagesOf n ≤ k
    · rw [if_pos (.inr h), if_pos h]
    · rw [if_neg (by omega), if_neg h]
  have hi' : homeOf n i = if pagesOf n ≤ i then (0, false) else (i + 1 + pagesOf n, true) := by
    unfold homeOf
    by_cases h : pagesOf n ≤ i
    · rw [if_pos (.inr h), if_pos h]
    · rw [if_neg (by omega), if_neg h]
  have hk' : homeOf n k = if pagesOf n ≤ k then (0, false) else (k + 1 + pagesOf n, true) := by
    unfold homeOf
    by_cases h : pagesOf n ≤ k
    · rw [if_pos (.inr h), if_pos h]
    · rw [if_neg (by omega), if_neg h]
  rw [si] at S1
  rw [hk'] at S2
  rw [sk] at S3
  rw [hi'] at S4
  clear si sk hi' hk'
  obtain ⟨P, hP⟩ : ∃ P, P = pagesOf n := ⟨_, rfl⟩
  rw [← hP] at S1 S2 S3 S4 hpb hpn hp3
  clear hP
  by_cases c1 : P ≤ i
  · rw [if_pos c1] at S1 S4
    by_cases c2 : P ≤ k
    · rw [if_pos c2] at S2 S3
      have H1 := Lib.hid S1
      have H2 := Lib.hid S2
      have H3 := Lib.hid S3
      have H4 := Lib.hid S4
      clear S1 S2 S3 S4

      go_enter Try.func4, Try.ntmps4
      go_wp2_with fail
      refine H1.out.mono ?_
      rintro e w1 ⟨rfl, rfl⟩
      go_wp2_with fail
      refine H2.out.mono ?_
      rintro e w1 ⟨rfl, rfl⟩
      go_wp2_with fail
      refine H3.out.mono ?_
      rintro e w1 ⟨rfl, rfl⟩
      go_wp2_with fail
      refine H4.out.mono ?_
      rintro e w1 ⟨rfl, rfl⟩
      go_wp2_with (first
        | (go_at_call 12; refine H8.out.mono ?_; rintro e w1 ⟨rfl, rfl⟩)
        | (go_at_call 11; refine H7.out.mono ?_; rintro e w1 ⟨rfl, rfl⟩))
      go_ret
      exact ⟨rfl, rfl⟩
    · rw [if_neg c2] at S2 S3
      have H1 := Lib.hid S1
      have H2 := Lib.hid S2
      have H3 := Lib.hid S3
      have H4 := Lib.hid S4
      clear S1 S2 S3 S4

      go_enter Try.func4, Try.ntmps4
      go_wp2_with fail
      refine H1.out.mono ?_
      rintro e w1 ⟨rfl, rfl⟩
      go_wp2_with fail
      refine H2.out.mono ?_
      rintro e w1 ⟨rfl, rfl⟩
      go_wp2_with fail
      refine H3.out.mono ?_
      rintro e w1 ⟨rfl, rfl⟩
      go_wp2_with fail
      refine H4.out.mono ?_
      rintro e w1 ⟨rfl, rfl⟩
      go_wp2_with (first
        | (go_at_call 12; refine H8.out.mono ?_; rintro e w1 ⟨rfl, rfl⟩)
        | (go_at_call 11; refine H7.out.mono ?_; rintro e w1 ⟨rfl, rfl⟩))
      go_ret
      exact ⟨rfl, rfl⟩
  · rw [if_neg c1] at S1 S4
    by_cases c2 : P ≤ k
    · rw [if_pos c2] at S2 S3
      have H1 := Lib.hid S1
      have H2 := Lib.hid S2
      have H3 := Lib.hid S3
      have H4 := Lib.hid S4
      clear S1 S2 S3 S4
      have f1 : decide (i + 1 ≤ 0) = false := by simp; omega
      have f2 : decide (n ≤ i + 1) = false := by simp; omega
      have f3 : decide (i + 1 + P ≤ 0) = false := by simp; omega
      have f4 : decide (n ≤ i + 1 + P) = false := by simp; omega
      have r1 : wrap64 (i + 1 + P) = i + 1 + P := by unfold wrap64; omega
      go_enter Try.func4, Try.ntmps4
      go_wp2_with fail
      refine H1.out.mono ?_
      rintro e w1 ⟨rfl, rfl⟩
      go_wp2_with fail
      refine H2.out.mono ?_
      rintro e w1 ⟨rfl, rfl⟩
      go_wp2_with fail
      refine H3.out.mono ?_
      rintro e w1 ⟨rfl, rfl⟩
      go_wp2_with fail
      refine H4.out.mono ?_
      rintro e w1 ⟨rfl, rfl⟩
      go_wp2_with (first
        | (go_at_call 12; refine H8.out.mono ?_; rintro e w1 ⟨rfl, rfl⟩)
        | (go_at_call 11; refine H7.out.mono ?_; rintro e w1 ⟨rfl, rfl⟩))
      go_ret
      exact ⟨rfl, rfl⟩
    · rw [if_neg c2] at S2 S3
      by_cases c3 : i = k
      · subst c3
        have H1 := Lib.hid S1
        have H2 := Lib.hid S2
        have H3 := Lib.hid S3
        have H4 := Lib.hid S4
        clear S1 S2 S3 S4
        have f1 : decide (i + 1 ≤ 0) = false := by simp; omega
        have f2 : decide (n ≤ i + 1) = false := by simp; omega
        have f3 : decide (i + 1 + P ≤ 0) = false := by simp; omega
        have f4 : decide (n ≤ i + 1 + P) = false := by simp; omega
        have r1 : wrap64 (i + 1 + P) = i + 1 + P := by unfold wrap64; omega
        have f5 : (i + 1 != i + 1 + P) = true := by simp; omega
        have f6 : (i + 1 == i + 1) = true := by simp
        have f7 : (i == i) = true := by simp
        have f8 : (i + 1 + P == i + 1 + P) = true := by simp
        go_enter Try.func4, Try.ntmps4
        go_wp2_with fail
        refine H1.out.mono ?_
        rintro e w1 ⟨rfl, rfl⟩
        go_wp2_with fail
        refine H2.out.mono ?_
        rintro e w1 ⟨rfl, rfl⟩
        go_wp2_with fail
        refine H3.out.mono ?_
        rintro e w1 ⟨rfl, rfl⟩
        go_wp2_with fail
        refine H4.out.mono ?_
        rintro e w1 ⟨rfl, rfl⟩
        go_wp2_with (first
          | (go_at_call 12; refine H8.out.mono ?_; rintro e w1 ⟨rfl, rfl⟩)
          | (go_at_call 11; refine H7.out.mono ?_; rintro e w1 ⟨rfl, rfl⟩))
        go_ret
        exact ⟨rfl, rfl⟩
      · have H1 := Lib.hid S1
        have H2 := Lib.hid S2
        have H3 := Lib.hid S3
        have H4 := Lib.hid S4
        clear S1 S2 S3 S4
        have f1 : decide (i + 1 ≤ 0) = false := by simp; omega
        have f2 : decide (n ≤ i + 1) = false := by simp; omega
        have f3 : decide (i + 1 + P ≤ 0) = false := by simp; omega
        have f4 : decide (n ≤ i + 1 + P) = false := by simp; omega
        have r1 : wrap64 (i + 1 + P) = i + 1 + P := by unfold wrap64; omega
        have f5 : (i + 1 != k + 1 + P) = true := by simp; omega
        have f6 : (i + 1 == k + 1) = false := by simp; omega
        have f7 : (i == k) = false := by simpa using c3
        have f8 : (k + 1 + P == i + 1 + P) = false := by simp; omega
        go_enter Try.func4, Try.ntmps4
        go_wp2_with fail
        refine H1.out.mono ?_
        rintro e w1 ⟨rfl, rfl⟩
        go_wp2_with fail
        refine H2.out.mono ?_
        rintro e w1 ⟨rfl, rfl⟩
        go_wp2_with fail
        refine H3.out.mono ?_
        rintro e w1 ⟨rfl, rfl⟩
        go_wp2_with fail
        refine H4.out.mono ?_
        rintro e w1 ⟨rfl, rfl⟩
        go_wp2_with (first
          | (go_at_call 12; refine H8.out.mono ?_; rintro e w1 ⟨rfl, rfl⟩)
          | (go_at_call 11; refine H7.out.mono ?_; rintro e w1 ⟨rfl, rfl⟩))
        go_ret
        exact ⟨rfl, rfl⟩

end Go.Proofs.Ytkmlmbakgmafjaa
