/-
  The texts DirA, DirB joined. Conditions: those that each part says at its head.
-/
import Derived.Test.YtinhdimalhfgkaaGreatDoorG1
import Derived.Test.YtinhdimalhfgkaaGreatDoorG2
import Derived.Test.YtinhdimalhfgkaaGreatDoorG11
import Derived.Deep.QuietTactic
import Derived.BigQuiet

/-
  Contracts of dir.Per, dir.Need, dir.has and of the plain Need, right: for every depth, length and slot. No condition beyond that numbers are ints.
-/
namespace Go.Proofs.YtinhdimalhfgkaaGreatDoor
open Go.RowKit
set_option maxRecDepth 100000
set_option linter.unusedVariables false

set_option maxHeartbeats 400000 in
theorem Per_any (w : World) : Calls Tryz.prog 201 #[] w fun e w' => e = .returned (.int .i64 60) ∧ w = w' := by
  go_enter Tryz.func201, Tryz.ntmps201
  go_wp2
  go_ret
  exact ⟨rfl, rfl⟩
/-- A depth, held. -/
def depD (d : Int) : Nat := (min (max d 0) 10).toNat
/-- How many pages a directory takes. -/
def needD (d : Int) : Nat := (2 ^ depD d + 59) / 60
/-- A directory of this depth, with so many pages, has this slot. -/
def okD (d : Int) (k : Nat) (slot : Int) : Bool := decide ((0 ≤ d ∧ d ≤ 10) ∧ (0 ≤ slot ∧ slot < ((2 ^ depD d : Nat) : Int)) ∧ k = needD d)

theorem depD_elim (P : Int → Nat → Prop) (hn : ∀ d, d < 0 → P d 0) (hb : ∀ d, 10 < d → P d 10) (hm : P 0 0 ∧ P 1 1 ∧ P 2 2 ∧ P 3 3 ∧ P 4 4 ∧ P 5 5 ∧ P 6 6 ∧ P 7 7 ∧ P 8 8 ∧ P 9 9 ∧ P 10 10) (d : Int) : P d (depD d) := by
  rcases Int.lt_or_le d 0 with h | h
  · rw [show depD d = 0 by unfold depD; omega]; exact hn d h
  rcases Int.lt_or_le 10 d with h2 | h2
  · rw [show depD d = 10 by unfold depD; omega]; exact hb d h2
  obtain ⟨k, rfl⟩ := Int.eq_ofNat_of_zero_le h
  rw [show depD (k : Int) = k by unfold depD; omega]
  obtain ⟨h0, h1, h2', h3, h4, h5, h6, h7, h8, h9, h10⟩ := hm
  have hk : k ≤ 10 := by omega
  clear h h2
  match k, hk with
  | 0, _ => exact h0
  | 1, _ => exact h1
  | 2, _ => exact h2'
  | 3, _ => exact h3
  | 4, _ => exact h4
  | 5, _ => exact h5
  | 6, _ => exact h6
  | 7, _ => exact h7
  | 8, _ => exact h8
  | 9, _ => exact h9
  | 10, _ => exact h10
theorem shlD {d : Int} (h : 0 ≤ d ∧ d ≤ 10) : wrap64 (2 ^ d.toNat) = ((2 ^ depD d : Nat) : Int) := by
  revert h
  refine depD_elim (fun d q => 0 ≤ d ∧ d ≤ 10 → wrap64 (2 ^ d.toNat) = ((2 ^ q : Nat) : Int)) (fun d h h2 => by omega) (fun d h h2 => by omega) ?_ d
  refine ⟨?_, ?_, ?_, ?_, ?_, ?_, ?_, ?_, ?_, ?_, ?_⟩ <;> (intro _; decide +kernel)
theorem depD_le (d : Int) : depD d ≤ 10 := by unfold depD; omega
theorem powD_le (d : Int) : 1 ≤ 2 ^ depD d ∧ 2 ^ depD d ≤ 1024 :=
  ⟨Nat.two_pow_pos _, Nat.le_trans (Nat.pow_le_pow_right (n := 2) (by decide) (depD_le d)) (by decide)⟩

set_option maxHeartbeats 3200000 in
theorem Need_any (d : Int) (w : World) : Calls Tryz.prog 143 #[.int .i64 d] w fun e w' => e = .returned (.int .i64 ((needD d : Nat) : Int)) ∧ w = w' := by
  unfold needD
  refine depD_elim (fun d q => Calls Tryz.prog 143 #[.int .i64 d] w fun e w' => e = .returned (.int .i64 (((2 ^ q + 59) / 60 : Nat) : Int)) ∧ w = w') (fun d h => ?_) (fun d h => ?_) ⟨?_, ?_, ?_, ?_, ?_, ?_, ?_, ?_, ?_, ?_, ?_⟩ d
  all_goals
    go_enter Tryz.func143, Tryz.ntmps143
    go_wp2_with fail
    all_goals try omega
    all_goals (refine (Per_any _).mono ?_; rintro e w' ⟨rfl, rfl⟩)
    all_goals go_wp2_with fail
    all_goals (refine (Per_any _).mono ?_; rintro e w' ⟨rfl, rfl⟩)
    all_goals go_wp2
    all_goals go_ret
    all_goals exact ⟨rfl, rfl⟩

set_option maxHeartbeats 1600000 in
theorem refNeed_any (d : Int) (w : World) : Calls Tryz.prog 54 #[.int .i64 d] w fun e w' => e = .returned (.int .i64 ((needD d : Nat) : Int)) ∧ w = w' := by
  have hdq : depD d = (min (max d 0) 10).toNat := rfl
  have HR := Lib.hid (show needD d = (2 ^ depD d + 59) / 60 from rfl)
  have hq10 : depD d ≤ 10 := by omega
  generalize needD d = r at HR ⊢
  generalize depD d = q at hdq HR hq10
  go_enter Tryz.func54, Tryz.ntmps54
  go_wp2
  go_loop [3, 4] (fun v i => ∃ k : Nat, k ≤ q ∧ i = .int .i64 k ∧ v = .int .i64 ((2 ^ k : Nat) : Int)) (fun _ i => 10 - (intOf i).toNat)
  case atStart => exact ⟨0, Nat.zero_le _, rfl, rfl⟩
  case round =>
    obtain ⟨k, hk, rfl, rfl⟩ := hrel
    have p1 : 2 ^ k ≤ 1024 := by
      have := Nat.pow_le_pow_right (n := 2) (by decide) (show k ≤ 10 by omega)
      omega
    have hs := Lib.hid (show 2 ^ (k + 1) = 2 ^ k * 2 from Nat.pow_succ ..)
    by_cases hlt : k < q
    · have h1 : (k : Int) < d := by omega
      have h2 : (k : Int) < 10 := by omega
      clear hdq
      generalize 2 ^ k = m at p1 hs ⊢
      go_wp2
      go_round
      case rel => exact ⟨k + 1, by omega, by go_num, by rw [hs.out]; first | rfl | simp⟩
      case measure => simp [intOf]; omega
    · obtain rfl : k = q := by omega
      clear hs
      generalize 2 ^ k = m at p1 HR ⊢
      have hr : r = (m + 59) / 60 := HR.out
      rcases Int.lt_or_le k d with hd3 | hd2
      · have hd2 : ¬ (k : Int) < 10 := by omega
        clear hdq hr
        go_wp2
        go_ret
        rw [HR.out]
        exact ⟨rfl, rfl⟩
      · clear hdq hr
        go_wp2
        go_ret
        rw [HR.out]
        exact ⟨rfl, rfl⟩
end Go.Proofs.YtinhdimalhfgkaaGreatDoor

/-
  Contracts of dir.has and of the plain right: for every Meta and slot they answer the same; one new block. No condition beyond that lengths are ints.
-/
namespace Go.Proofs.YtinhdimalhfgkaaGreatDoor
open Go.RowKit
set_option maxRecDepth 100000
set_option linter.unusedVariables false

/-- A Meta in a block of its own. -/
def DBox (w : World) (b : Nat) (d f n c : Int) (v : Value) : Prop := w.heap[b]? = some (.cells #[.int .i64 d, .int .i64 f, .int .i64 n, .int .i64 c, v] 41 (0, 0))
theorem DBox.new (w : World) (d f n c : Int) (v : Value) : DBox (w.alloc (.cells #[.int .i64 d, .int .i64 f, .int .i64 n, .int .i64 c, v] 41)) w.heap.size d f n c v := heap_alloc_new _ _
theorem DBox.cells {w : World} {b : Nat} {d f n c : Int} {v : Value} (h : DBox w b d f n c v) : w.cell? ⟨b, 0, none⟩ = some (.int .i64 d) ∧ w.cell? ⟨b, 1, none⟩ = some (.int .i64 f) ∧ w.cell? ⟨b, 2, none⟩ = some (.int .i64 n) ∧ w.cell? ⟨b, 3, none⟩ = some (.int .i64 c) ∧ w.cell? ⟨b, 4, none⟩ = some v ∧ b < w.heap.size := by
  refine ⟨?_, ?_, ?_, ?_, ?_, (Array.getElem?_eq_some_iff.1 h).1⟩ <;> (rw [cell_of_row w b _ _ _ (0, 0) h]; rfl)
theorem DBox.below {w w' : World} {b : Nat} {d f n c : Int} {v : Value} (h : DBox w b d f n c v) (hb : Below w.heap.size w w') : DBox w' b d f n c v := (hb.block b h.cells.2.2.2.2.2).trans h

set_option maxHeartbeats 6400000 in
theorem dirHas_any (d f n c : Int) (A : Option Addr) (k cap : Nat) (slot : Int) (w : World) (hk : k ≤ maxLen) :
    Calls Tryz.prog 155 #[.agg #[.int .i64 d, .int .i64 f, .int .i64 n, .int .i64 c, .slice A k cap], .int .i64 slot] w fun e w' => e = .returned (.bool (okD d k slot)) ∧ Below w.heap.size w w' := by
  unfold maxLen at hk
  have HX := Lib.hid (show Below w.heap.size w (w.alloc (.cells #[.int .i64 d, .int .i64 f, .int .i64 n, .int .i64 c, .slice A k cap] 41)) from (Below.refl _ _).alloc (Nat.le_refl _) _)
  have HND := Lib.hid (fun w => Need_any d w)
  obtain ⟨z0, z1, z2, z3, z4, _⟩ := (DBox.new w d f n c (.slice A k cap)).cells
  have hp := powD_le d
  by_cases h1 : 0 ≤ d
  case neg =>
    have hr : okD d k slot = false := decide_eq_false (fun h => h1 h.1.1)
    rw [hr]
    clear hr
    have k1 : decide (0 ≤ d) = false := by simpa using h1
    clear h1
    go_enter Tryz.func155, Tryz.ntmps155
    go_wp2_with fail
    go_quiet (fail)
    go_wp2
    go_ret
    exact ⟨rfl, belowN HX.out _⟩
  have k1 : decide (0 ≤ d) = true := by simpa using h1
  by_cases h2 : d ≤ 10
  case neg =>
    have hr : okD d k slot = false := decide_eq_false (fun h => h2 h.1.2)
    rw [hr]
    clear hr
    have k2 : decide (d ≤ 10) = false := by simpa using h2
    clear h1 h2
    go_enter Tryz.func155, Tryz.ntmps155
    go_wp2_with fail
    go_quiet (fail)
    go_wp2
    go_ret
    exact ⟨rfl, belowN HX.out _⟩
  have k2 : decide (d ≤ 10) = true := by simpa using h2
  have hsh := shlD ⟨h1, h2⟩
  by_cases h3 : 0 ≤ slot
  case neg =>
    have hr : okD d k slot = false := decide_eq_false (fun h => h3 h.2.1.1)
    rw [hr]
    clear hr hsh
    have k3 : decide (0 ≤ slot) = false := by simpa using h3
    clear h3
    go_enter Tryz.func155, Tryz.ntmps155
    go_wp2_with fail
    go_quiet (fail)
    go_wp2
    go_ret
    exact ⟨rfl, belowN HX.out _⟩
  have k3 : decide (0 ≤ slot) = true := by simpa using h3
  by_cases h4 : slot < ((2 ^ depD d : Nat) : Int)
  case neg =>
    have hr : okD d k slot = false := decide_eq_false (fun h => h4 h.2.1.2)
    rw [hr]
    clear hr
    have k4 : decide (slot < ((2 ^ depD d : Nat) : Int)) = false := by simpa using h4
    clear h4
    generalize 2 ^ depD d = m at hsh hp k4
    go_enter Tryz.func155, Tryz.ntmps155
    go_wp2_with fail
    go_quiet (fail)
    go_wp2
    go_ret
    exact ⟨rfl, belowN HX.out _⟩
  have k4 : decide (slot < ((2 ^ depD d : Nat) : Int)) = true := by simpa using h4
  have hr : okD d k slot = ((k : Int) == ((needD d : Nat) : Int)) := by
    unfold okD
    by_cases e : k = needD d
    · rw [decide_eq_true ⟨⟨h1, h2⟩, ⟨h3, h4⟩, e⟩, e]; simp
    · rw [decide_eq_false (fun h => e h.2.2)]; simp; omega
  rw [hr]
  clear hr h4
  generalize needD d = nd at *
  generalize 2 ^ depD d = m at *
  go_enter Tryz.func155, Tryz.ntmps155
  go_wp2_with fail
  go_quiet ((go_at_call 143; exact Calls.quiet_of_same ((HND.out _).mono (fun e w' h => ⟨h.1, h.2.symm⟩))))
  go_wp2
  go_ret
  exact ⟨rfl, belowN HX.out _⟩

end Go.Proofs.YtinhdimalhfgkaaGreatDoor
