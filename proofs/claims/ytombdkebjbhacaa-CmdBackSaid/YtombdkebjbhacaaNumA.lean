/-
  Contracts of the small functions over sizes: what num.isSize, num.Right and the plain answers sized, pow, Right return, for every argument; none of them touches the memory. No condition.
-/
import Derived.Test.YtombdkebjbhacaaRows
import Derived.WalkKit
import Derived.WalkSpells
import Derived.WalkLawsBesides
import Derived.IntWalk
import Derived.Lib.Hide
namespace Go.Proofs.Ytombdkebjbhacaa
open Go.RowKit
set_option maxRecDepth 100000

/-- A size that numbers have. -/
def sizeB (s : Int) : Bool := decide (s = 1 ∨ s = 2 ∨ s = 4 ∨ s = 8)

/-- A number that may stand in so many bytes. -/
def rightB (n s : Int) : Bool := decide (s = 8) || (decide (s = 1) && decide (0 ≤ n ∧ n < 256)) || (decide (s = 2) && decide (0 ≤ n ∧ n < 65536)) || (decide (s = 4) && decide (0 ≤ n ∧ n < 4294967296))

theorem size_cases {s : Int} (h : sizeB s = true) : s = 1 ∨ s = 2 ∨ s = 4 ∨ s = 8 := of_decide_eq_true h

set_option maxHeartbeats 400000 in
theorem isSize_any (s : Int) (w : World) :
    Calls Try.prog 37 #[.int .i64 s] w fun e w' => e = .returned (.bool (sizeB s)) ∧ w = w' := by
  by_cases h1 : s = 1
  · subst h1
    go_enter Try.func37, Try.ntmps37
    go_wp2; go_ret; exact ⟨rfl, rfl⟩
  by_cases h2 : s = 2
  · subst h2
    go_enter Try.func37, Try.ntmps37
    go_wp2; go_ret; exact ⟨rfl, rfl⟩
  by_cases h4 : s = 4
  · subst h4
    go_enter Try.func37, Try.ntmps37
    go_wp2; go_ret; exact ⟨rfl, rfl⟩
  by_cases h8 : s = 8
  · subst h8
    go_enter Try.func37, Try.ntmps37
    go_wp2; go_ret; exact ⟨rfl, rfl⟩
  have e : sizeB s = false := by simp [sizeB, h1, h2, h4, h8]
  have k1 : (s == 1) = false := by simpa using h1
  have k2 : (s == 2) = false := by simpa using h2
  have k4 : (s == 4) = false := by simpa using h4
  have k8 : (s == 8) = false := by simpa using h8
  rw [e]; clear e h1 h2 h4 h8
  go_enter Try.func37, Try.ntmps37
  go_wp2; go_ret; exact ⟨rfl, rfl⟩

set_option maxHeartbeats 400000 in
theorem sized_any (s : Int) (w : World) :
    Calls Try.prog 40 #[.int .i64 s] w fun e w' => e = .returned (.bool (sizeB s)) ∧ w = w' := by
  by_cases h1 : s = 1
  · subst h1
    go_enter Try.func40, Try.ntmps40
    go_wp2; go_ret; exact ⟨rfl, rfl⟩
  by_cases h2 : s = 2
  · subst h2
    go_enter Try.func40, Try.ntmps40
    go_wp2; go_ret; exact ⟨rfl, rfl⟩
  by_cases h4 : s = 4
  · subst h4
    go_enter Try.func40, Try.ntmps40
    go_wp2; go_ret; exact ⟨rfl, rfl⟩
  by_cases h8 : s = 8
  · subst h8
    go_enter Try.func40, Try.ntmps40
    go_wp2; go_ret; exact ⟨rfl, rfl⟩
  have e : sizeB s = false := by simp [sizeB, h1, h2, h4, h8]
  have k1 : (s == 1) = false := by simpa using h1
  have k2 : (s == 2) = false := by simpa using h2
  have k4 : (s == 4) = false := by simpa using h4
  have k8 : (s == 8) = false := by simpa using h8
  rw [e]; clear e h1 h2 h4 h8
  go_enter Try.func40, Try.ntmps40
  go_wp2; go_ret; exact ⟨rfl, rfl⟩

theorem rightB_none {n s : Int} (h : sizeB s = false) : rightB n s = false := by
  simp only [sizeB, decide_eq_false_iff_not, not_or] at h
  obtain ⟨a, b, c, d⟩ := h
  simp [rightB, a, b, c, d]

/-- 256 to the power of a size. -/
def powN : Nat → Int | 0 => 1 | k + 1 => powN k * 256

set_option maxHeartbeats 400000 in
theorem pow_any (k : Nat) (hk : k ≤ 7) (w : World) :
    Calls Try.prog 41 #[.int .i64 (k : Int)] w fun e w' => e = .returned (.int .i64 (powN k)) ∧ w = w' := by
  have hall : k = 0 ∨ k = 1 ∨ k = 2 ∨ k = 3 ∨ k = 4 ∨ k = 5 ∨ k = 6 ∨ k = 7 := by omega
  have hlt : ∀ j, j < 7 → 0 ≤ powN j ∧ powN j < 10000000000000000 := by
    intro j hj
    have : j = 0 ∨ j = 1 ∨ j = 2 ∨ j = 3 ∨ j = 4 ∨ j = 5 ∨ j = 6 := by omega
    rcases this with rfl | rfl | rfl | rfl | rfl | rfl | rfl <;> decide
  have HL := Lib.hid hlt
  clear hlt hall
  go_enter Try.func41, Try.ntmps41
  go_wp2
  go_loop [3, 4] (fun n i => ∃ j : Nat, j ≤ k ∧ i = .int .i64 j ∧ n = .int .i64 (powN j)) (fun _ i => k - (intOf i).toNat)
  case atStart => exact ⟨0, Nat.zero_le _, rfl, rfl⟩
  case round =>
    obtain ⟨j, hj, rfl, rfl⟩ := hrel
    by_cases hlt : j < k
    · obtain ⟨b0, b1⟩ := HL.out j (by omega)
      have H2 := Lib.hid (show powN (j + 1) = powN j * 256 from rfl)
      go_wp2
      go_round
      case rel => exact ⟨j + 1, by omega, by go_num, by rw [H2.out]⟩
      case measure => simp [intOf]; omega
    · go_wp2
      go_ret
      obtain rfl : j = k := by omega
      exact ⟨rfl, rfl⟩

theorem pow1 (w : World) : Calls Try.prog 41 #[.int .i64 1] w fun e w' => e = .returned (.int .i64 256) ∧ w = w' := pow_any 1 (by decide) w
theorem pow2 (w : World) : Calls Try.prog 41 #[.int .i64 2] w fun e w' => e = .returned (.int .i64 65536) ∧ w = w' := pow_any 2 (by decide) w
theorem pow4 (w : World) : Calls Try.prog 41 #[.int .i64 4] w fun e w' => e = .returned (.int .i64 4294967296) ∧ w = w' := pow_any 4 (by decide) w
theorem isSize_no (s : Int) (w : World) (h : sizeB s = false) :
    Calls Try.prog 37 #[.int .i64 s] w fun e w' => e = .returned (.bool false) ∧ w = w' := by
  have := isSize_any s w; rwa [h] at this
theorem isSize_yes (s : Int) (w : World) (h : sizeB s = true) :
    Calls Try.prog 37 #[.int .i64 s] w fun e w' => e = .returned (.bool true) ∧ w = w' := by
  have := isSize_any s w; rwa [h] at this
theorem sized_no (s : Int) (w : World) (h : sizeB s = false) :
    Calls Try.prog 40 #[.int .i64 s] w fun e w' => e = .returned (.bool false) ∧ w = w' := by
  have := sized_any s w; rwa [h] at this
theorem sized_yes (s : Int) (w : World) (h : sizeB s = true) :
    Calls Try.prog 40 #[.int .i64 s] w fun e w' => e = .returned (.bool true) ∧ w = w' := by
  have := sized_any s w; rwa [h] at this

set_option maxHeartbeats 1600000 in
theorem Right_any (n s : Int) (w : World) :
    Calls Try.prog 30 #[.int .i64 n, .int .i64 s] w fun e w' => e = .returned (.bool (rightB n s)) ∧ w = w' := by
  by_cases hs : sizeB s = true
  · rcases size_cases hs with rfl | rfl | rfl | rfl
    · clear hs
      by_cases h0 : 0 ≤ n
      · by_cases h1 : n < 256
        · have e : rightB n 1 = true := by simp [rightB, h0, h1]
          have k0 : decide (0 ≤ n) = true := by simp [h0]
          have k1 : decide (n < 256) = true := by simp [h1]
          rw [e]; clear e h0 h1
          go_enter Try.func30, Try.ntmps30; go_wp2_with (go_at_call 37; refine (isSize_any _ _).mono ?_; rintro e w' ⟨rfl, rfl⟩); go_ret; exact ⟨rfl, rfl⟩
        · have e : rightB n 1 = false := by simp [rightB, h1]
          have k0 : decide (0 ≤ n) = true := by simp [h0]
          have k1 : decide (n < 256) = false := by simp; omega
          rw [e]; clear e h0 h1
          go_enter Try.func30, Try.ntmps30; go_wp2_with (go_at_call 37; refine (isSize_any _ _).mono ?_; rintro e w' ⟨rfl, rfl⟩); go_ret; exact ⟨rfl, rfl⟩
      · have e : rightB n 1 = false := by simp [rightB, h0]
        have k0 : decide (0 ≤ n) = false := by simp; omega
        rw [e]; clear e h0
        go_enter Try.func30, Try.ntmps30; go_wp2_with (go_at_call 37; refine (isSize_any _ _).mono ?_; rintro e w' ⟨rfl, rfl⟩); go_ret; exact ⟨rfl, rfl⟩
    · clear hs
      by_cases h0 : 0 ≤ n
      · by_cases h1 : n < 65536
        · have e : rightB n 2 = true := by simp [rightB, h0, h1]
          have k0 : decide (0 ≤ n) = true := by simp [h0]
          have k1 : decide (n < 65536) = true := by simp [h1]
          rw [e]; clear e h0 h1
          go_enter Try.func30, Try.ntmps30; go_wp2_with (go_at_call 37; refine (isSize_any _ _).mono ?_; rintro e w' ⟨rfl, rfl⟩); go_ret; exact ⟨rfl, rfl⟩
        · have e : rightB n 2 = false := by simp [rightB, h1]
          have k0 : decide (0 ≤ n) = true := by simp [h0]
          have k1 : decide (n < 65536) = false := by simp; omega
          rw [e]; clear e h0 h1
          go_enter Try.func30, Try.ntmps30; go_wp2_with (go_at_call 37; refine (isSize_any _ _).mono ?_; rintro e w' ⟨rfl, rfl⟩); go_ret; exact ⟨rfl, rfl⟩
      · have e : rightB n 2 = false := by simp [rightB, h0]
        have k0 : decide (0 ≤ n) = false := by simp; omega
        rw [e]; clear e h0
        go_enter Try.func30, Try.ntmps30; go_wp2_with (go_at_call 37; refine (isSize_any _ _).mono ?_; rintro e w' ⟨rfl, rfl⟩); go_ret; exact ⟨rfl, rfl⟩
    · clear hs
      by_cases h0 : 0 ≤ n
      · by_cases h1 : n < 4294967296
        · have e : rightB n 4 = true := by simp [rightB, h0, h1]
          have k0 : decide (0 ≤ n) = true := by simp [h0]
          have k1 : decide (n < 4294967296) = true := by simp [h1]
          rw [e]; clear e h0 h1
          go_enter Try.func30, Try.ntmps30; go_wp2_with (go_at_call 37; refine (isSize_any _ _).mono ?_; rintro e w' ⟨rfl, rfl⟩); go_ret; exact ⟨rfl, rfl⟩
        · have e : rightB n 4 = false := by simp [rightB, h1]
          have k0 : decide (0 ≤ n) = true := by simp [h0]
          have k1 : decide (n < 4294967296) = false := by simp; omega
          rw [e]; clear e h0 h1
          go_enter Try.func30, Try.ntmps30; go_wp2_with (go_at_call 37; refine (isSize_any _ _).mono ?_; rintro e w' ⟨rfl, rfl⟩); go_ret; exact ⟨rfl, rfl⟩
      · have e : rightB n 4 = false := by simp [rightB, h0]
        have k0 : decide (0 ≤ n) = false := by simp; omega
        rw [e]; clear e h0
        go_enter Try.func30, Try.ntmps30; go_wp2_with (go_at_call 37; refine (isSize_any _ _).mono ?_; rintro e w' ⟨rfl, rfl⟩); go_ret; exact ⟨rfl, rfl⟩
    · clear hs
      have e : rightB n 8 = true := by simp [rightB]
      rw [e]; clear e
      go_enter Try.func30, Try.ntmps30; go_wp2_with (go_at_call 37; refine (isSize_any _ _).mono ?_; rintro e w' ⟨rfl, rfl⟩); go_ret; exact ⟨rfl, rfl⟩
  · have hs' : sizeB s = false := by simpa using hs
    rw [rightB_none hs']
    have k8 : (s == 8) = false := by
      simp only [sizeB, decide_eq_false_iff_not, not_or] at hs'
      simpa using hs'.2.2.2
    clear hs
    have HS := Lib.hid hs'
    clear hs'
    go_enter Try.func30, Try.ntmps30; go_wp2_with (go_at_call 37; refine (isSize_no _ _ HS.out).mono ?_; rintro e w' ⟨rfl, rfl⟩); go_ret; exact ⟨rfl, rfl⟩

set_option maxHeartbeats 1600000 in
theorem refRight_any (n s : Int) (w : World) :
    Calls Try.prog 38 #[.int .i64 n, .int .i64 s] w fun e w' => e = .returned (.bool (rightB n s)) ∧ w = w' := by
  by_cases hs : sizeB s = true
  · rcases size_cases hs with rfl | rfl | rfl | rfl
    · clear hs
      by_cases h0 : 0 ≤ n
      · by_cases h1 : n < 256
        · have e : rightB n 1 = true := by simp [rightB, h0, h1]
          have k0 : decide (0 ≤ n) = true := by simp [h0]
          have k1 : decide (n < 256) = true := by simp [h1]
          rw [e]; clear e h0 h1
          go_enter Try.func38, Try.ntmps38; go_wp2_with (first | (go_at_call 40; refine (sized_any _ _).mono ?_; rintro e w' ⟨rfl, rfl⟩) | (go_at_call 41; refine (pow1 _).mono ?_; rintro e w' ⟨rfl, rfl⟩)); go_ret; exact ⟨rfl, rfl⟩
        · have e : rightB n 1 = false := by simp [rightB, h1]
          have k0 : decide (0 ≤ n) = true := by simp [h0]
          have k1 : decide (n < 256) = false := by simp; omega
          rw [e]; clear e h0 h1
          go_enter Try.func38, Try.ntmps38; go_wp2_with (first | (go_at_call 40; refine (sized_any _ _).mono ?_; rintro e w' ⟨rfl, rfl⟩) | (go_at_call 41; refine (pow1 _).mono ?_; rintro e w' ⟨rfl, rfl⟩)); go_ret; exact ⟨rfl, rfl⟩
      · have e : rightB n 1 = false := by simp [rightB, h0]
        have k0 : decide (0 ≤ n) = false := by simp; omega
        rw [e]; clear e h0
        go_enter Try.func38, Try.ntmps38; go_wp2_with (first | (go_at_call 40; refine (sized_any _ _).mono ?_; rintro e w' ⟨rfl, rfl⟩) | (go_at_call 41; refine (pow1 _).mono ?_; rintro e w' ⟨rfl, rfl⟩)); go_ret; exact ⟨rfl, rfl⟩
    · clear hs
      by_cases h0 : 0 ≤ n
      · by_cases h1 : n < 65536
        · have e : rightB n 2 = true := by simp [rightB, h0, h1]
          have k0 : decide (0 ≤ n) = true := by simp [h0]
          have k1 : decide (n < 65536) = true := by simp [h1]
          rw [e]; clear e h0 h1
          go_enter Try.func38, Try.ntmps38; go_wp2_with (first | (go_at_call 40; refine (sized_any _ _).mono ?_; rintro e w' ⟨rfl, rfl⟩) | (go_at_call 41; refine (pow2 _).mono ?_; rintro e w' ⟨rfl, rfl⟩)); go_ret; exact ⟨rfl, rfl⟩
        · have e : rightB n 2 = false := by simp [rightB, h1]
          have k0 : decide (0 ≤ n) = true := by simp [h0]
          have k1 : decide (n < 65536) = false := by simp; omega
          rw [e]; clear e h0 h1
          go_enter Try.func38, Try.ntmps38; go_wp2_with (first | (go_at_call 40; refine (sized_any _ _).mono ?_; rintro e w' ⟨rfl, rfl⟩) | (go_at_call 41; refine (pow2 _).mono ?_; rintro e w' ⟨rfl, rfl⟩)); go_ret; exact ⟨rfl, rfl⟩
      · have e : rightB n 2 = false := by simp [rightB, h0]
        have k0 : decide (0 ≤ n) = false := by simp; omega
        rw [e]; clear e h0
        go_enter Try.func38, Try.ntmps38; go_wp2_with (first | (go_at_call 40; refine (sized_any _ _).mono ?_; rintro e w' ⟨rfl, rfl⟩) | (go_at_call 41; refine (pow2 _).mono ?_; rintro e w' ⟨rfl, rfl⟩)); go_ret; exact ⟨rfl, rfl⟩
    · clear hs
      by_cases h0 : 0 ≤ n
      · by_cases h1 : n < 4294967296
        · have e : rightB n 4 = true := by simp [rightB, h0, h1]
          have k0 : decide (0 ≤ n) = true := by simp [h0]
          have k1 : decide (n < 4294967296) = true := by simp [h1]
          rw [e]; clear e h0 h1
          go_enter Try.func38, Try.ntmps38; go_wp2_with (first | (go_at_call 40; refine (sized_any _ _).mono ?_; rintro e w' ⟨rfl, rfl⟩) | (go_at_call 41; refine (pow4 _).mono ?_; rintro e w' ⟨rfl, rfl⟩)); go_ret; exact ⟨rfl, rfl⟩
        · have e : rightB n 4 = false := by simp [rightB, h1]
          have k0 : decide (0 ≤ n) = true := by simp [h0]
          have k1 : decide (n < 4294967296) = false := by simp; omega
          rw [e]; clear e h0 h1
          go_enter Try.func38, Try.ntmps38; go_wp2_with (first | (go_at_call 40; refine (sized_any _ _).mono ?_; rintro e w' ⟨rfl, rfl⟩) | (go_at_call 41; refine (pow4 _).mono ?_; rintro e w' ⟨rfl, rfl⟩)); go_ret; exact ⟨rfl, rfl⟩
      · have e : rightB n 4 = false := by simp [rightB, h0]
        have k0 : decide (0 ≤ n) = false := by simp; omega
        rw [e]; clear e h0
        go_enter Try.func38, Try.ntmps38; go_wp2_with (first | (go_at_call 40; refine (sized_any _ _).mono ?_; rintro e w' ⟨rfl, rfl⟩) | (go_at_call 41; refine (pow4 _).mono ?_; rintro e w' ⟨rfl, rfl⟩)); go_ret; exact ⟨rfl, rfl⟩
    · clear hs
      have e : rightB n 8 = true := by simp [rightB]
      rw [e]; clear e
      go_enter Try.func38, Try.ntmps38; go_wp2_with (first | (go_at_call 40; refine (sized_any _ _).mono ?_; rintro e w' ⟨rfl, rfl⟩) | (go_at_call 41; refine (pow1 _).mono ?_; rintro e w' ⟨rfl, rfl⟩)); go_ret; exact ⟨rfl, rfl⟩
  · have hs' : sizeB s = false := by simpa using hs
    rw [rightB_none hs']
    have k8 : (s == 8) = false := by
      simp only [sizeB, decide_eq_false_iff_not, not_or] at hs'
      simpa using hs'.2.2.2
    clear hs
    have HS := Lib.hid hs'
    clear hs'
    go_enter Try.func38, Try.ntmps38; go_wp2_with (first | (go_at_call 40; refine (sized_no _ _ HS.out).mono ?_; rintro e w' ⟨rfl, rfl⟩) | (go_at_call 41; refine (pow1 _).mono ?_; rintro e w' ⟨rfl, rfl⟩)); go_ret; exact ⟨rfl, rfl⟩

theorem Right_yes (n s : Int) (w : World) (h : rightB n s = true) : Calls Try.prog 30 #[.int .i64 n, .int .i64 s] w fun e w' => e = .returned (.bool true) ∧ w = w' := by
  have := Right_any n s w; rwa [h] at this
theorem Right_no (n s : Int) (w : World) (h : rightB n s = false) : Calls Try.prog 30 #[.int .i64 n, .int .i64 s] w fun e w' => e = .returned (.bool false) ∧ w = w' := by
  have := Right_any n s w; rwa [h] at this
theorem refRight_yes (n s : Int) (w : World) (h : rightB n s = true) : Calls Try.prog 38 #[.int .i64 n, .int .i64 s] w fun e w' => e = .returned (.bool true) ∧ w = w' := by
  have := refRight_any n s w; rwa [h] at this
theorem refRight_no (n s : Int) (w : World) (h : rightB n s = false) : Calls Try.prog 38 #[.int .i64 n, .int .i64 s] w fun e w' => e = .returned (.bool false) ∧ w = w' := by
  have := refRight_any n s w; rwa [h] at this

end Go.Proofs.Ytombdkebjbhacaa
