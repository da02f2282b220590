/-
  The texts NumA, NumP, Get joined. Conditions: those that each part says at its head.
-/
import Derived.Test.YtlcbmobdokicaaaGreatRows
import Derived.WalkKit
import Derived.WalkSpells
import Derived.WalkLawsBesides
import Derived.IntWalk
import Derived.Lib.Hide
import Derived.Laws.BitsLemmas
import Derived.RowKit
import Derived.Test.YtlcbmobdokicaaaGreatBase

/-
  Contracts of the small functions over sizes: what num.isSize, num.Right and the plain answers sized, pow, Right return, for every argument; none of them touches the memory. No condition.
-/
namespace Go.Proofs.YtlcbmobdokicaaaGreat
open Go.RowKit
set_option maxRecDepth 100000

/-- A size that numbers have. -/
def sizeB (s : Int) : Bool := decide (s = 1 ∨ s = 2 ∨ s = 4 ∨ s = 8)

/-- A number that may stand in so many bytes. -/
def rightB (n s : Int) : Bool := decide (s = 8) || (decide (s = 1) && decide (0 ≤ n ∧ n < 256)) || (decide (s = 2) && decide (0 ≤ n ∧ n < 65536)) || (decide (s = 4) && decide (0 ≤ n ∧ n < 4294967296))

theorem size_cases {s : Int} (h : sizeB s = true) : s = 1 ∨ s = 2 ∨ s = 4 ∨ s = 8 := of_decide_eq_true h

set_option maxHeartbeats 400000 in
theorem isSize_any (s : Int) (w : World) :
    Calls Tryz.prog 185 #[.int .i64 s] w fun e w' => e = .returned (.bool (sizeB s)) ∧ w = w' := by
  by_cases h1 : s = 1
  · subst h1
    go_enter Tryz.func185, Tryz.ntmps185
    go_wp2; go_ret; exact ⟨rfl, rfl⟩
  by_cases h2 : s = 2
  · subst h2
    go_enter Tryz.func185, Tryz.ntmps185
    go_wp2; go_ret; exact ⟨rfl, rfl⟩
  by_cases h4 : s = 4
  · subst h4
    go_enter Tryz.func185, Tryz.ntmps185
    go_wp2; go_ret; exact ⟨rfl, rfl⟩
  by_cases h8 : s = 8
  · subst h8
    go_enter Tryz.func185, Tryz.ntmps185
    go_wp2; go_ret; exact ⟨rfl, rfl⟩
  have e : sizeB s = false := by simp [sizeB, h1, h2, h4, h8]
  have k1 : (s == 1) = false := by simpa using h1
  have k2 : (s == 2) = false := by simpa using h2
  have k4 : (s == 4) = false := by simpa using h4
  have k8 : (s == 8) = false := by simpa using h8
  rw [e]; clear e h1 h2 h4 h8
  go_enter Tryz.func185, Tryz.ntmps185
  go_wp2; go_ret; exact ⟨rfl, rfl⟩

set_option maxHeartbeats 400000 in
theorem sized_any (s : Int) (w : World) :
    Calls Tryz.prog 186 #[.int .i64 s] w fun e w' => e = .returned (.bool (sizeB s)) ∧ w = w' := by
  by_cases h1 : s = 1
  · subst h1
    go_enter Tryz.func186, Tryz.ntmps186
    go_wp2; go_ret; exact ⟨rfl, rfl⟩
  by_cases h2 : s = 2
  · subst h2
    go_enter Tryz.func186, Tryz.ntmps186
    go_wp2; go_ret; exact ⟨rfl, rfl⟩
  by_cases h4 : s = 4
  · subst h4
    go_enter Tryz.func186, Tryz.ntmps186
    go_wp2; go_ret; exact ⟨rfl, rfl⟩
  by_cases h8 : s = 8
  · subst h8
    go_enter Tryz.func186, Tryz.ntmps186
    go_wp2; go_ret; exact ⟨rfl, rfl⟩
  have e : sizeB s = false := by simp [sizeB, h1, h2, h4, h8]
  have k1 : (s == 1) = false := by simpa using h1
  have k2 : (s == 2) = false := by simpa using h2
  have k4 : (s == 4) = false := by simpa using h4
  have k8 : (s == 8) = false := by simpa using h8
  rw [e]; clear e h1 h2 h4 h8
  go_enter Tryz.func186, Tryz.ntmps186
  go_wp2; go_ret; exact ⟨rfl, rfl⟩

theorem rightB_none {n s : Int} (h : sizeB s = false) : rightB n s = false := by
  simp only [sizeB, decide_eq_false_iff_not, not_or] at h
  obtain ⟨a, b, c, d⟩ := h
  simp [rightB, a, b, c, d]

/-- 256 to the power of a size. -/
def powN : Nat → Int | 0 => 1 | k + 1 => powN k * 256

set_option maxHeartbeats 400000 in
theorem pow_any (k : Nat) (hk : k ≤ 7) (w : World) :
    Calls Tryz.prog 187 #[.int .i64 (k : Int)] w fun e w' => e = .returned (.int .i64 (powN k)) ∧ w = w' := by
  have hall : k = 0 ∨ k = 1 ∨ k = 2 ∨ k = 3 ∨ k = 4 ∨ k = 5 ∨ k = 6 ∨ k = 7 := by omega
  have hlt : ∀ j, j < 7 → 0 ≤ powN j ∧ powN j < 10000000000000000 := by
    intro j hj
    have : j = 0 ∨ j = 1 ∨ j = 2 ∨ j = 3 ∨ j = 4 ∨ j = 5 ∨ j = 6 := by omega
    rcases this with rfl | rfl | rfl | rfl | rfl | rfl | rfl <;> decide
  have HL := Lib.hid hlt
  clear hlt hall
  go_enter Tryz.func187, Tryz.ntmps187
  go_wp2
  go_loop [3, 4] (fun n i => ∃ j : Nat, j ≤ k ∧ i = .int .i64 j ∧ n = .int .i64 (powN j)) (fun _ i => k - (intOf i).toNat)
  case atStart => exact ⟨0, Nat.zero_le _, rfl, rfl⟩
  case round =>
    obtain ⟨j, hj, rfl, rfl⟩ := hrel
    by_cases hlt : j < k
    · obtain ⟨b0, b1⟩ := HL.out j (by omega)
      have H2 := Lib.hid (show powN (j + 1) = powN j * 256 from rfl)
      go_wp2
      go_round
      case rel => exact ⟨j + 1, by omega, by go_num, by rw [H2.out]⟩
      case measure => simp [intOf]; omega
    · go_wp2
      go_ret
      obtain rfl : j = k := by omega
      exact ⟨rfl, rfl⟩

theorem pow1 (w : World) : Calls Tryz.prog 187 #[.int .i64 1] w fun e w' => e = .returned (.int .i64 256) ∧ w = w' := pow_any 1 (by decide) w
theorem pow2 (w : World) : Calls Tryz.prog 187 #[.int .i64 2] w fun e w' => e = .returned (.int .i64 65536) ∧ w = w' := pow_any 2 (by decide) w
theorem pow4 (w : World) : Calls Tryz.prog 187 #[.int .i64 4] w fun e w' => e = .returned (.int .i64 4294967296) ∧ w = w' := pow_any 4 (by decide) w
theorem isSize_no (s : Int) (w : World) (h : sizeB s = false) :
    Calls Tryz.prog 185 #[.int .i64 s] w fun e w' => e = .returned (.bool false) ∧ w = w' := by
  have := isSize_any s w; rwa [h] at this
theorem isSize_yes (s : Int) (w : World) (h : sizeB s = true) :
    Calls Tryz.prog 185 #[.int .i64 s] w fun e w' => e = .returned (.bool true) ∧ w = w' := by
  have := isSize_any s w; rwa [h] at this
theorem sized_no (s : Int) (w : World) (h : sizeB s = false) :
    Calls Tryz.prog 186 #[.int .i64 s] w fun e w' => e = .returned (.bool false) ∧ w = w' := by
  have := sized_any s w; rwa [h] at this
theorem sized_yes (s : Int) (w : World) (h : sizeB s = true) :
    Calls Tryz.prog 186 #[.int .i64 s] w fun e w' => e = .returned (.bool true) ∧ w = w' := by
  have := sized_any s w; rwa [h] at this

set_option maxHeartbeats 1600000 in
theorem Right_any (n s : Int) (w : World) :
    Calls Tryz.prog 162 #[.int .i64 n, .int .i64 s] w fun e w' => e = .returned (.bool (rightB n s)) ∧ w = w' := by
  by_cases hs : sizeB s = true
  · rcases size_cases hs with rfl | rfl | rfl | rfl
    · clear hs
      by_cases h0 : 0 ≤ n
      · by_cases h1 : n < 256
        · have e : rightB n 1 = true := by simp [rightB, h0, h1]
          have k0 : decide (0 ≤ n) = true := by simp [h0]
          have k1 : decide (n < 256) = true := by simp [h1]
          rw [e]; clear e h0 h1
          go_enter Tryz.func162, Tryz.ntmps162; go_wp2_with (go_at_call 185; refine (isSize_any _ _).mono ?_; rintro e w' ⟨rfl, rfl⟩); go_ret; exact ⟨rfl, rfl⟩
        · have e : rightB n 1 = false := by simp [rightB, h1]
          have k0 : decide (0 ≤ n) = true := by simp [h0]
          have k1 : decide (n < 256) = false := by simp; omega
          rw [e]; clear e h0 h1
          go_enter Tryz.func162, Tryz.ntmps162; go_wp2_with (go_at_call 185; refine (isSize_any _ _).mono ?_; rintro e w' ⟨rfl, rfl⟩); go_ret; exact ⟨rfl, rfl⟩
      · have e : rightB n 1 = false := by simp [rightB, h0]
        have k0 : decide (0 ≤ n) = false := by simp; omega
        rw [e]; clear e h0
        go_enter Tryz.func162, Tryz.ntmps162; go_wp2_with (go_at_call 185; refine (isSize_any _ _).mono ?_; rintro e w' ⟨rfl, rfl⟩); go_ret; exact ⟨rfl, rfl⟩
    · clear hs
      by_cases h0 : 0 ≤ n
      · by_cases h1 : n < 65536
        · have e : rightB n 2 = true := by simp [rightB, h0, h1]
          have k0 : decide (0 ≤ n) = true := by simp [h0]
          have k1 : decide (n < 65536) = true := by simp [h1]
          rw [e]; clear e h0 h1
          go_enter Tryz.func162, Tryz.ntmps162; go_wp2_with (go_at_call 185; refine (isSize_any _ _).mono ?_; rintro e w' ⟨rfl, rfl⟩); go_ret; exact ⟨rfl, rfl⟩
        · have e : rightB n 2 = false := by simp [rightB, h1]
          have k0 : decide (0 ≤ n) = true := by simp [h0]
          have k1 : decide (n < 65536) = false := by simp; omega
          rw [e]; clear e h0 h1
          go_enter Tryz.func162, Tryz.ntmps162; go_wp2_with (go_at_call 185; refine (isSize_any _ _).mono ?_; rintro e w' ⟨rfl, rfl⟩); go_ret; exact ⟨rfl, rfl⟩
      · have e : rightB n 2 = false := by simp [rightB, h0]
        have k0 : decide (0 ≤ n) = false := by simp; omega
        rw [e]; clear e h0
        go_enter Tryz.func162, Tryz.ntmps162; go_wp2_with (go_at_call 185; refine (isSize_any _ _).mono ?_; rintro e w' ⟨rfl, rfl⟩); go_ret; exact ⟨rfl, rfl⟩
    · clear hs
      by_cases h0 : 0 ≤ n
      · by_cases h1 : n < 4294967296
        · have e : rightB n 4 = true := by simp [rightB, h0, h1]
          have k0 : decide (0 ≤ n) = true := by simp [h0]
          have k1 : decide (n < 4294967296) = true := by simp [h1]
          rw [e]; clear e h0 h1
          go_enter Tryz.func162, Tryz.ntmps162; go_wp2_with (go_at_call 185; refine (isSize_any _ _).mono ?_; rintro e w' ⟨rfl, rfl⟩); go_ret; exact ⟨rfl, rfl⟩
        · have e : rightB n 4 = false := by simp [rightB, h1]
          have k0 : decide (0 ≤ n) = true := by simp [h0]
          have k1 : decide (n < 4294967296) = false := by simp; omega
          rw [e]; clear e h0 h1
          go_enter Tryz.func162, Tryz.ntmps162; go_wp2_with (go_at_call 185; refine (isSize_any _ _).mono ?_; rintro e w' ⟨rfl, rfl⟩); go_ret; exact ⟨rfl, rfl⟩
      · have e : rightB n 4 = false := by simp [rightB, h0]
        have k0 : decide (0 ≤ n) = false := by simp; omega
        rw [e]; clear e h0
        go_enter Tryz.func162, Tryz.ntmps162; go_wp2_with (go_at_call 185; refine (isSize_any _ _).mono ?_; rintro e w' ⟨rfl, rfl⟩); go_ret; exact ⟨rfl, rfl⟩
    · clear hs
      have e : rightB n 8 = true := by simp [rightB]
      rw [e]; clear e
      go_enter Tryz.func162, Tryz.ntmps162; go_wp2_with (go_at_call 185; refine (isSize_any _ _).mono ?_; rintro e w' ⟨rfl, rfl⟩); go_ret; exact ⟨rfl, rfl⟩
  · have hs' : sizeB s = false := by simpa using hs
    rw [rightB_none hs']
    have k8 : (s == 8) = false := by
      simp only [sizeB, decide_eq_false_iff_not, not_or] at hs'
      simpa using hs'.2.2.2
    clear hs
    have HS := Lib.hid hs'
    clear hs'
    go_enter Tryz.func162, Tryz.ntmps162; go_wp2_with (go_at_call 185; refine (isSize_no _ _ HS.out).mono ?_; rintro e w' ⟨rfl, rfl⟩); go_ret; exact ⟨rfl, rfl⟩

set_option maxHeartbeats 1600000 in
theorem refRight_any (n s : Int) (w : World) :
    Calls Tryz.prog 163 #[.int .i64 n, .int .i64 s] w fun e w' => e = .returned (.bool (rightB n s)) ∧ w = w' := by
  by_cases hs : sizeB s = true
  · rcases size_cases hs with rfl | rfl | rfl | rfl
    · clear hs
      by_cases h0 : 0 ≤ n
      · by_cases h1 : n < 256
        · have e : rightB n 1 = true := by simp [rightB, h0, h1]
          have k0 : decide (0 ≤ n) = true := by simp [h0]
          have k1 : decide (n < 256) = true := by simp [h1]
          rw [e]; clear e h0 h1
          go_enter Tryz.func163, Tryz.ntmps163; go_wp2_with (first | (go_at_call 186; refine (sized_any _ _).mono ?_; rintro e w' ⟨rfl, rfl⟩) | (go_at_call 187; refine (pow1 _).mono ?_; rintro e w' ⟨rfl, rfl⟩)); go_ret; exact ⟨rfl, rfl⟩
        · have e : rightB n 1 = false := by simp [rightB, h1]
          have k0 : decide (0 ≤ n) = true := by simp [h0]
          have k1 : decide (n < 256) = false := by simp; omega
          rw [e]; clear e h0 h1
          go_enter Tryz.func163, Tryz.ntmps163; go_wp2_with (first | (go_at_call 186; refine (sized_any _ _).mono ?_; rintro e w' ⟨rfl, rfl⟩) | (go_at_call 187; refine (pow1 _).mono ?_; rintro e w' ⟨rfl, rfl⟩)); go_ret; exact ⟨rfl, rfl⟩
      · have e : rightB n 1 = false := by simp [rightB, h0]
        have k0 : decide (0 ≤ n) = false := by simp; omega
        rw [e]; clear e h0
        go_enter Tryz.func163, Tryz.ntmps163; go_wp2_with (first | (go_at_call 186; refine (sized_any _ _).mono ?_; rintro e w' ⟨rfl, rfl⟩) | (go_at_call 187; refine (pow1 _).mono ?_; rintro e w' ⟨rfl, rfl⟩)); go_ret; exact ⟨rfl, rfl⟩
    · clear hs
      by_cases h0 : 0 ≤ n
      · by_cases h1 : n < 65536
        · have e : rightB n 2 = true := by simp [rightB, h0, h1]
          have k0 : decide (0 ≤ n) = true := by simp [h0]
          have k1 : decide (n < 65536) = true := by simp [h1]
          rw [e]; clear e h0 h1
          go_enter Tryz.func163, Tryz.ntmps163; go_wp2_with (first | (go_at_call 186; refine (sized_any _ _).mono ?_; rintro e w' ⟨rfl, rfl⟩) | (go_at_call 187; refine (pow2 _).mono ?_; rintro e w' ⟨rfl, rfl⟩)); go_ret; exact ⟨rfl, rfl⟩
        · have e : rightB n 2 = false := by simp [rightB, h1]
          have k0 : decide (0 ≤ n) = true := by simp [h0]
          have k1 : decide (n < 65536) = false := by simp; omega
          rw [e]; clear e h0 h1
          go_enter Tryz.func163, Tryz.ntmps163; go_wp2_with (first | (go_at_call 186; refine (sized_any _ _).mono ?_; rintro e w' ⟨rfl, rfl⟩) | (go_at_call 187; refine (pow2 _).mono ?_; rintro e w' ⟨rfl, rfl⟩)); go_ret; exact ⟨rfl, rfl⟩
      · have e : rightB n 2 = false := by simp [rightB, h0]
        have k0 : decide (0 ≤ n) = false := by simp; omega
        rw [e]; clear e h0
        go_enter Tryz.func163, Tryz.ntmps163; go_wp2_with (first | (go_at_call 186; refine (sized_any _ _).mono ?_; rintro e w' ⟨rfl, rfl⟩) | (go_at_call 187; refine (pow2 _).mono ?_; rintro e w' ⟨rfl, rfl⟩)); go_ret; exact ⟨rfl, rfl⟩
    · clear hs
      by_cases h0 : 0 ≤ n
      · by_cases h1 : n < 4294967296
        · have e : rightB n 4 = true := by simp [rightB, h0, h1]
          have k0 : decide (0 ≤ n) = true := by simp [h0]
          have k1 : decide (n < 4294967296) = true := by simp [h1]
          rw [e]; clear e h0 h1
          go_enter Tryz.func163, Tryz.ntmps163; go_wp2_with (first | (go_at_call 186; refine (sized_any _ _).mono ?_; rintro e w' ⟨rfl, rfl⟩) | (go_at_call 187; refine (pow4 _).mono ?_; rintro e w' ⟨rfl, rfl⟩)); go_ret; exact ⟨rfl, rfl⟩
        · have e : rightB n 4 = false := by simp [rightB, h1]
          have k0 : decide (0 ≤ n) = true := by simp [h0]
          have k1 : decide (n < 4294967296) = false := by simp; omega
          rw [e]; clear e h0 h1
          go_enter Tryz.func163, Tryz.ntmps163; go_wp2_with (first | (go_at_call 186; refine (sized_any _ _).mono ?_; rintro e w' ⟨rfl, rfl⟩) | (go_at_call 187; refine (pow4 _).mono ?_; rintro e w' ⟨rfl, rfl⟩)); go_ret; exact ⟨rfl, rfl⟩
      · have e : rightB n 4 = false := by simp [rightB, h0]
        have k0 : decide (0 ≤ n) = false := by simp; omega
        rw [e]; clear e h0
        go_enter Tryz.func163, Tryz.ntmps163; go_wp2_with (first | (go_at_call 186; refine (sized_any _ _).mono ?_; rintro e w' ⟨rfl, rfl⟩) | (go_at_call 187; refine (pow4 _).mono ?_; rintro e w' ⟨rfl, rfl⟩)); go_ret; exact ⟨rfl, rfl⟩
    · clear hs
      have e : rightB n 8 = true := by simp [rightB]
      rw [e]; clear e
      go_enter Tryz.func163, Tryz.ntmps163; go_wp2_with (first | (go_at_call 186; refine (sized_any _ _).mono ?_; rintro e w' ⟨rfl, rfl⟩) | (go_at_call 187; refine (pow1 _).mono ?_; rintro e w' ⟨rfl, rfl⟩)); go_ret; exact ⟨rfl, rfl⟩
  · have hs' : sizeB s = false := by simpa using hs
    rw [rightB_none hs']
    have k8 : (s == 8) = false := by
      simp only [sizeB, decide_eq_false_iff_not, not_or] at hs'
      simpa using hs'.2.2.2
    clear hs
    have HS := Lib.hid hs'
    clear hs'
    go_enter Tryz.func163, Tryz.ntmps163; go_wp2_with (first | (go_at_call 186; refine (sized_no _ _ HS.out).mono ?_; rintro e w' ⟨rfl, rfl⟩) | (go_at_call 187; refine (pow1 _).mono ?_; rintro e w' ⟨rfl, rfl⟩)); go_ret; exact ⟨rfl, rfl⟩

theorem Right_yes (n s : Int) (w : World) (h : rightB n s = true) : Calls Tryz.prog 162 #[.int .i64 n, .int .i64 s] w fun e w' => e = .returned (.bool true) ∧ w = w' := by
  have := Right_any n s w; rwa [h] at this
theorem Right_no (n s : Int) (w : World) (h : rightB n s = false) : Calls Tryz.prog 162 #[.int .i64 n, .int .i64 s] w fun e w' => e = .returned (.bool false) ∧ w = w' := by
  have := Right_any n s w; rwa [h] at this
theorem refRight_yes (n s : Int) (w : World) (h : rightB n s = true) : Calls Tryz.prog 163 #[.int .i64 n, .int .i64 s] w fun e w' => e = .returned (.bool true) ∧ w = w' := by
  have := refRight_any n s w; rwa [h] at this
theorem refRight_no (n s : Int) (w : World) (h : rightB n s = false) : Calls Tryz.prog 163 #[.int .i64 n, .int .i64 s] w fun e w' => e = .returned (.bool false) ∧ w = w' := by
  have := refRight_any n s w; rwa [h] at this

end Go.Proofs.YtlcbmobdokicaaaGreat

/-
  Plain arithmetic of numbers as bytes, the highest first: what some bytes are as a number, what bytes a number has, and that the one undoes the other. No program, no condition.
-/
namespace Go.Proofs.YtlcbmobdokicaaaGreat
open Go.RowKit
set_option maxRecDepth 100000

/-- One byte more behind a number. -/
def stepN (n c : Int) : Int := bits .or .i64 (wrap64 (n * 256)) c
/-- The number of some bytes. -/
def numOf (l : List Int) : Int := l.foldl stepN 0
/-- The same, not wrapped. -/
def beOf (l : List Int) : Int := l.foldl (fun n c => n * 256 + c) 0
/-- The last k bytes of a number, the highest first. -/
def putB (n : Int) : Nat → List Int | 0 => [] | k + 1 => putB (n / 256) k ++ [n % 256]

theorem numOf_snoc (l : List Int) (x : Int) : numOf (l ++ [x]) = stepN (numOf l) x := by simp [numOf]
theorem beOf_snoc (l : List Int) (x : Int) : beOf (l ++ [x]) = beOf l * 256 + x := by simp [beOf]
theorem numOf_step (l : List Int) (a k : Nat) (h : a + k < l.length) : numOf ((l.drop a).take (k + 1)) = stepN (numOf ((l.drop a).take k)) (l[a + k]?.getD 0) := by
  have e : (l.drop a).take (k + 1) = (l.drop a).take k ++ [l[a + k]?.getD 0] := by
    rw [List.take_succ_eq_append_getElem (by simp; omega)]
    simp [List.getElem?_eq_getElem h]
  rw [e, numOf_snoc]

theorem bits_or_nat64 (x y : Int) : bits .or .i64 x y = wrap64 (((x % 18446744073709551616).toNat ||| (y % 18446744073709551616).toNat : Nat) : Int) := by
  have e : ∀ z : Int, IntKind.i64.wrap z = wrap64 z := fun z => by rw [IntKind.wrap_i64]; first | rfl | (unfold wrap64; rfl) | unfold wrap64
  simp only [bits]
  rw [e, BitVec.toNat_or, BitVec.toNat_ofInt, BitVec.toNat_ofInt]
  rfl

theorem stepN_eq (n c : Int) (h0 : 0 ≤ c) (h1 : c < 256) : stepN n c = wrap64 (n * 256 + c) := by
  unfold stepN
  rw [bits_or_nat64]
  obtain ⟨q, hq⟩ : ∃ q : Nat, (wrap64 (n * 256) % 18446744073709551616).toNat = 256 * q := by
    refine ⟨(wrap64 (n * 256) % 18446744073709551616).toNat / 256, ?_⟩
    unfold wrap64
    omega
  obtain ⟨d, rfl⟩ := Int.eq_ofNat_of_zero_le h0
  have hd : ((d : Int) % 18446744073709551616).toNat = d := by omega
  rw [hq, hd]
  have hor : 256 * q ||| d = 256 * q + d := (Nat.two_pow_add_eq_or_of_lt (i := 8) (by omega) q).symm
  rw [hor]
  unfold wrap64 at hq ⊢
  omega

theorem numOf_eq (l : List Int) (h : ∀ x ∈ l, 0 ≤ x ∧ x < 256) : numOf l = wrap64 (beOf l) := by
  suffices H : ∀ k, k ≤ l.length → numOf (l.take k) = wrap64 (beOf (l.take k)) by
    have := H l.length (Nat.le_refl _); rwa [List.take_length] at this
  intro k
  induction k with
  | zero => intro _; simp [numOf, beOf, wrap64]
  | succ k ih =>
    intro hk
    rw [List.take_succ_eq_append_getElem (by omega), numOf_snoc, beOf_snoc, ih (by omega)]
    obtain ⟨a, b⟩ := h _ (List.getElem_mem (by omega : k < l.length))
    rw [stepN_eq _ _ a b]
    generalize beOf (List.take k l) = z
    unfold wrap64
    omega

theorem putB_length (n : Int) (k : Nat) : (putB n k).length = k := by
  induction k generalizing n with
  | zero => rfl
  | succ k ih => simp [putB, ih]
theorem putB_bytes (n : Int) (k : Nat) : ∀ x ∈ putB n k, 0 ≤ x ∧ x < 256 := by
  induction k generalizing n with
  | zero => intro x hx; cases hx
  | succ k ih =>
    intro x hx
    simp only [putB, List.mem_append, List.mem_singleton] at hx
    rcases hx with h | h
    · exact ih _ x h
    · subst h; omega
theorem beOf_putB (n : Int) (k : Nat) : beOf (putB n k) = n % 256 ^ k := by
  induction k generalizing n with
  | zero => simp [putB, beOf]
  | succ k ih =>
    rw [putB, beOf_snoc, ih, Int.pow_succ]
    have h1 := Int.emod_add_mul_ediv n 256
    have h2 := Int.emod_add_mul_ediv (n / 256) (256 ^ k)
    have hp : (0 : Int) < 256 ^ k := Int.pow_pos (by decide)
    have h3 : 0 ≤ n / 256 % 256 ^ k := Int.emod_nonneg _ (by omega)
    have h4 : n / 256 % 256 ^ k < 256 ^ k := Int.emod_lt_of_pos _ hp
    have h5 : n = (n / 256 % 256 ^ k * 256 + n % 256) + (256 ^ k * 256) * (n / 256 / 256 ^ k) := by
      have : 256 ^ k * 256 * (n / 256 / 256 ^ k) = 256 * (256 ^ k * (n / 256 / 256 ^ k)) := by
        rw [Int.mul_comm (256 ^ k) 256, Int.mul_assoc]
      rw [this]; omega
    have h6 : (n / 256 % 256 ^ k * 256 + n % 256) % (256 ^ k * 256) = n / 256 % 256 ^ k * 256 + n % 256 :=
      Int.emod_eq_of_lt (by omega) (by omega)
    rw [← h6]
    conv => rhs; rw [h5]
    rw [Int.add_mul_emod_self_left]

/-- n shifted j bytes down. -/
def shN (n : Int) : Nat → Int | 0 => n | j + 1 => shN n j / 256
theorem shN_front (n : Int) (j : Nat) : shN n (j + 1) = shN (n / 256) j := by
  induction j with
  | zero => rfl
  | succ j ih => rw [shN, ih]; rfl
theorem putB_front (n : Int) (j : Nat) : putB n (j + 1) = (shN n j % 256) :: putB n j := by
  induction j generalizing n with
  | zero => simp [putB, shN]
  | succ j ih =>
    rw [putB, ih, shN_front]
    conv => rhs; rw [putB]
    simp
theorem shN_bounds (n : Int) (h0 : -9223372036854775808 ≤ n) (h1 : n ≤ 9223372036854775807) (j : Nat) : -9223372036854775808 ≤ shN n j ∧ shN n j ≤ 9223372036854775807 := by
  induction j with
  | zero => exact ⟨h0, h1⟩
  | succ j ih => rw [shN]; omega

end Go.Proofs.YtlcbmobdokicaaaGreat

/-
  Contracts of num.Get and of the plain Get: for any slice of bytes, any place and any size they answer the number of these bytes, or which refusal; nothing is written. Conditions: what every call has (lengths of slices are ints).
-/
namespace Go.Proofs.YtlcbmobdokicaaaGreat
open Go.RowKit
set_option maxRecDepth 100000
set_option linter.unusedVariables false

/-- What Get answers: the number, and which refusal. -/
def getR (l : List Int) (a s : Int) : Int × Int :=
  if sizeB s = true ∧ 0 ≤ a then (if a > (l.length : Int) - s then (0, 3) else (numOf ((l.drop a.toNat).take s.toNat), 0)) else (0, 1)


set_option maxHeartbeats 400000 in
theorem Get_ok (A : Option Addr) (n c B : Nat) (l : List Int) (at_ : Nat) (size : Nat) (w : World) (hr : RB w B A n l) (hc : n ≤ c) (hm : n ≤ maxLen) (hs : sizeB (size : Int) = true) (hat : at_ + size ≤ n) :
    Calls Tryz.prog 165 #[.slice A n c, .int .i64 (at_ : Int), .int .i64 (size : Int)] w fun e w' => e = .returned (.tuple #[.int .i64 (numOf ((l.drop at_).take size)), .int .i64 0]) ∧ w = w' := by
  unfold maxLen at hm
  have hsz : 1 ≤ size ∧ size ≤ 8 := by rcases size_cases hs with h | h | h | h <;> omega
  obtain ⟨hsz1, hsz8⟩ := hsz
  obtain ⟨b, off, rfl, hb, hcell⟩ := hr.at_ (by omega)
  have HC := Lib.hid hcell
  have HS := Lib.hid hs
  clear hcell hs
  have k1 : decide ((at_ : Int) < 0) = false := by simp
  have k2 : decide ((at_ : Int) > (n : Int) - size) = false := by simp; omega
  go_enter Tryz.func165, Tryz.ntmps165
  go_wp2_with (go_at_call 185; refine (isSize_yes _ _ HS.out).mono ?_; rintro e w' ⟨rfl, rfl⟩)
  go_loop [8, 31] (fun x i => ∃ k : Nat, k ≤ size ∧ i = .int .i64 k ∧ x = .int .i64 (numOf ((l.drop at_).take k))) (fun _ i => size - (intOf i).toNat)
  case atStart => exact ⟨0, Nat.zero_le _, rfl, rfl⟩
  case round =>
    obtain ⟨k, hk, rfl, rfl⟩ := hrel
    by_cases hlt : k < size
    · have hcell : w.cell? ⟨b, off + at_ + k, none⟩ = some (.int .u8 (l[at_ + k]?.getD 0)) := by rw [Nat.add_assoc]; exact HC.out (at_ + k) (by omega)
      have hbd := hr.bytes.getD (at_ + k)
      obtain ⟨hb0, hb1⟩ := hbd
      have hst := Lib.hid (numOf_step l at_ k (by have := hr.len; omega))
      have hbig : k < at_ + size - at_ := by omega
      go_wp2
      go_round
      case rel => exact ⟨k + 1, by omega, by go_num, by rw [hst.out]; rfl⟩
      case measure => simp [intOf]; omega
    · have hnlt : ¬ (k < size) := hlt
      go_wp2
      go_ret2
      obtain rfl : k = size := by omega
      exact ⟨rfl, rfl⟩

set_option maxHeartbeats 400000 in
theorem Get_short (A : Option Addr) (n c : Nat) (at_ s : Int) (w : World) (hm : n ≤ maxLen) (hs : sizeB s = true) (ha : 0 ≤ at_) (hat : at_ > (n : Int) - s) :
    Calls Tryz.prog 165 #[.slice A n c, .int .i64 at_, .int .i64 s] w fun e w' => e = .returned (.tuple #[.int .i64 0, .int .i64 3]) ∧ w = w' := by
  unfold maxLen at hm
  have hsz : 1 ≤ s ∧ s ≤ 8 := by rcases size_cases hs with h | h | h | h <;> omega
  obtain ⟨hsz1, hsz8⟩ := hsz
  have HS := Lib.hid hs
  have k1 : decide (at_ < 0) = false := by simp; omega
  have k2 : decide (at_ > (n : Int) - s) = true := by simp; omega
  clear hs hat
  go_enter Tryz.func165, Tryz.ntmps165
  go_wp2_with (go_at_call 185; refine (isSize_yes _ _ HS.out).mono ?_; rintro e w' ⟨rfl, rfl⟩)
  go_ret2
  exact ⟨rfl, rfl⟩

set_option maxHeartbeats 400000 in
theorem Get_arg (A : Option Addr) (n c : Nat) (at_ s : Int) (w : World) (h : sizeB s = false ∨ at_ < 0) :
    Calls Tryz.prog 165 #[.slice A n c, .int .i64 at_, .int .i64 s] w fun e w' => e = .returned (.tuple #[.int .i64 0, .int .i64 1]) ∧ w = w' := by
  by_cases hs : sizeB s = true
  · have ha : at_ < 0 := by
      rcases h with h | h
      · rw [hs] at h; cases h
      · exact h
    have k1 : decide (at_ < 0) = true := by simp [ha]
    have HS := Lib.hid hs
    clear hs h ha
    go_enter Tryz.func165, Tryz.ntmps165
    go_wp2_with (go_at_call 185; refine (isSize_yes _ _ HS.out).mono ?_; rintro e w' ⟨rfl, rfl⟩)
    go_ret2
    exact ⟨rfl, rfl⟩
  · have hs' : sizeB s = false := by simpa using hs
    have HS := Lib.hid hs'
    clear hs hs' h
    go_enter Tryz.func165, Tryz.ntmps165
    go_wp2_with (go_at_call 185; refine (isSize_no _ _ HS.out).mono ?_; rintro e w' ⟨rfl, rfl⟩)
    go_ret2
    exact ⟨rfl, rfl⟩

theorem Get_any (A : Option Addr) (n c B : Nat) (l : List Int) (at_ s : Int) (w : World) (hr : RB w B A n l) (hc : n ≤ c) (hm : n ≤ maxLen) :
    Calls Tryz.prog 165 #[.slice A n c, .int .i64 at_, .int .i64 s] w fun e w' => e = .returned (.tuple #[.int .i64 (getR l at_ s).1, .int .i64 (getR l at_ s).2]) ∧ w = w' := by
  unfold getR
  by_cases hs : sizeB s = true ∧ 0 ≤ at_
  · rw [if_pos hs]
    obtain ⟨h1, h2⟩ := hs
    rw [hr.len]
    by_cases hat : at_ > (n : Int) - s
    · rw [if_pos hat]
      exact Get_short A n c at_ s w hm h1 h2 hat
    · rw [if_neg hat]
      obtain ⟨a, rfl⟩ := Int.eq_ofNat_of_zero_le h2
      obtain ⟨z, rfl⟩ := Int.eq_ofNat_of_zero_le (show 0 ≤ s by rcases size_cases h1 with h | h | h | h <;> omega)
      exact Get_ok A n c B l a z w hr hc hm h1 (by omega)
  · rw [if_neg hs]
    refine Get_arg A n c at_ s w ?_
    by_cases h1 : sizeB s = true
    · right
      by_cases h2 : 0 ≤ at_
      · exact absurd ⟨h1, h2⟩ hs
      · omega
    · left; simpa using h1

set_option maxHeartbeats 400000 in
theorem refGet_ok (A : Option Addr) (n c B : Nat) (l : List Int) (at_ : Nat) (size : Nat) (w : World) (hr : RB w B A n l) (hc : n ≤ c) (hm : n ≤ maxLen) (hs : sizeB (size : Int) = true) (hat : at_ + size ≤ n) :
    Calls Tryz.prog 166 #[.slice A n c, .int .i64 (at_ : Int), .int .i64 (size : Int)] w fun e w' => e = .returned (.tuple #[.int .i64 (numOf ((l.drop at_).take size)), .int .i64 0]) ∧ w = w' := by
  unfold maxLen at hm
  have hsz : 1 ≤ size ∧ size ≤ 8 := by rcases size_cases hs with h | h | h | h <;> omega
  obtain ⟨hsz1, hsz8⟩ := hsz
  obtain ⟨b, off, rfl, hb, hcell⟩ := hr.at_ (by omega)
  have HC := Lib.hid hcell
  have HS := Lib.hid hs
  clear hcell hs
  have k1 : decide ((at_ : Int) < 0) = false := by simp
  have k2 : decide ((at_ : Int) > (n : Int) - size) = false := by simp; omega
  go_enter Tryz.func166, Tryz.ntmps166
  go_wp2_with (go_at_call 186; refine (sized_yes _ _ HS.out).mono ?_; rintro e w' ⟨rfl, rfl⟩)
  go_loop [8, 9] (fun x i => ∃ k : Nat, k ≤ size ∧ i = .int .i64 k ∧ x = .int .i64 (numOf ((l.drop at_).take k))) (fun _ i => size - (intOf i).toNat)
  case atStart => exact ⟨0, Nat.zero_le _, rfl, rfl⟩
  case round =>
    obtain ⟨k, hk, rfl, rfl⟩ := hrel
    by_cases hlt : k < size
    · have hcell : w.cell? ⟨b, off + (at_ + k), none⟩ = some (.int .u8 (l[at_ + k]?.getD 0)) := by exact HC.out (at_ + k) (by omega)
      have hbd := hr.bytes.getD (at_ + k)
      obtain ⟨hb0, hb1⟩ := hbd
      have hst := Lib.hid (numOf_step l at_ k (by have := hr.len; omega))
      have hbig : at_ + k < n := by omega
      go_wp2
      go_round
      case rel => exact ⟨k + 1, by omega, by go_num, by rw [hst.out]; rfl⟩
      case measure => simp [intOf]; omega
    · have hnlt : ¬ (k < size) := hlt
      go_wp2
      go_ret2
      obtain rfl : k = size := by omega
      exact ⟨rfl, rfl⟩

set_option maxHeartbeats 400000 in
theorem refGet_short (A : Option Addr) (n c : Nat) (at_ s : Int) (w : World) (hm : n ≤ maxLen) (hs : sizeB s = true) (ha : 0 ≤ at_) (hat : at_ > (n : Int) - s) :
    Calls Tryz.prog 166 #[.slice A n c, .int .i64 at_, .int .i64 s] w fun e w' => e = .returned (.tuple #[.int .i64 0, .int .i64 3]) ∧ w = w' := by
  unfold maxLen at hm
  have hsz : 1 ≤ s ∧ s ≤ 8 := by rcases size_cases hs with h | h | h | h <;> omega
  obtain ⟨hsz1, hsz8⟩ := hsz
  have HS := Lib.hid hs
  have k1 : decide (at_ < 0) = false := by simp; omega
  have k2 : decide (at_ > (n : Int) - s) = true := by simp; omega
  clear hs hat
  go_enter Tryz.func166, Tryz.ntmps166
  go_wp2_with (go_at_call 186; refine (sized_yes _ _ HS.out).mono ?_; rintro e w' ⟨rfl, rfl⟩)
  go_ret2
  exact ⟨rfl, rfl⟩

set_option maxHeartbeats 400000 in
theorem refGet_arg (A : Option Addr) (n c : Nat) (at_ s : Int) (w : World) (h : sizeB s = false ∨ at_ < 0) :
    Calls Tryz.prog 166 #[.slice A n c, .int .i64 at_, .int .i64 s] w fun e w' => e = .returned (.tuple #[.int .i64 0, .int .i64 1]) ∧ w = w' := by
  by_cases hs : sizeB s = true
  · have ha : at_ < 0 := by
      rcases h with h | h
      · rw [hs] at h; cases h
      · exact h
    have k1 : decide (at_ < 0) = true := by simp [ha]
    have HS := Lib.hid hs
    clear hs h ha
    go_enter Tryz.func166, Tryz.ntmps166
    go_wp2_with (go_at_call 186; refine (sized_yes _ _ HS.out).mono ?_; rintro e w' ⟨rfl, rfl⟩)
    go_ret2
    exact ⟨rfl, rfl⟩
  · have hs' : sizeB s = false := by simpa using hs
    have HS := Lib.hid hs'
    clear hs hs' h
    go_enter Tryz.func166, Tryz.ntmps166
    go_wp2_with (go_at_call 186; refine (sized_no _ _ HS.out).mono ?_; rintro e w' ⟨rfl, rfl⟩)
    go_ret2
    exact ⟨rfl, rfl⟩

theorem refGet_any (A : Option Addr) (n c B : Nat) (l : List Int) (at_ s : Int) (w : World) (hr : RB w B A n l) (hc : n ≤ c) (hm : n ≤ maxLen) :
    Calls Tryz.prog 166 #[.slice A n c, .int .i64 at_, .int .i64 s] w fun e w' => e = .returned (.tuple #[.int .i64 (getR l at_ s).1, .int .i64 (getR l at_ s).2]) ∧ w = w' := by
  unfold getR
  by_cases hs : sizeB s = true ∧ 0 ≤ at_
  · rw [if_pos hs]
    obtain ⟨h1, h2⟩ := hs
    rw [hr.len]
    by_cases hat : at_ > (n : Int) - s
    · rw [if_pos hat]
      exact refGet_short A n c at_ s w hm h1 h2 hat
    · rw [if_neg hat]
      obtain ⟨a, rfl⟩ := Int.eq_ofNat_of_zero_le h2
      obtain ⟨z, rfl⟩ := Int.eq_ofNat_of_zero_le (show 0 ≤ s by rcases size_cases h1 with h | h | h | h <;> omega)
      exact refGet_ok A n c B l a z w hr hc hm h1 (by omega)
  · rw [if_neg hs]
    refine refGet_arg A n c at_ s w ?_
    by_cases h1 : sizeB s = true
    · right
      by_cases h2 : 0 ≤ at_
      · exact absurd ⟨h1, h2⟩ hs
      · omega
    · left; simpa using h1

end Go.Proofs.YtlcbmobdokicaaaGreat
