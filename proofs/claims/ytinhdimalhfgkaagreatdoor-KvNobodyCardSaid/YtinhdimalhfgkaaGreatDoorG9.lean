/-
  The texts LayApi, LayDev, SConcat, SEqual, SClone joined. Conditions: those that each part says at its head.
-/
import Derived.Test.YtinhdimalhfgkaaGreatDoorG5
import Derived.Test.YtinhdimalhfgkaaGreatDoorG3
import Derived.Test.YtinhdimalhfgkaaGreatDoorG1
import Derived.IntWalk
import Derived.Lib.AppendZerosOnto
import Derived.BigQuiet

/-
  What the program's own layout is to answer, as statements: proved in a text of its own, used by the laws' walks. No condition.
-/
namespace Go.Proofs.YtinhdimalhfgkaaGreatDoor
open Go.RowKit
set_option maxRecDepth 100000
set_option linter.unusedVariables false

def LayPagesSaid : Prop := ∀ (n : Int) (w : World), -9223372036854775808 ≤ n ∧ n ≤ 9223372036854775807 → Calls Tryz.prog 141 #[.int .i64 n] w fun e w' => e = .returned (.int .i64 (pagesOf n)) ∧ w = w'
def LaySlotSaid : Prop := ∀ (n i : Int) (w : World), -9223372036854775808 ≤ n ∧ n ≤ 9223372036854775807 → -9223372036854775808 ≤ i ∧ i ≤ 9223372036854775807 → Calls Tryz.prog 200 #[.int .i64 n, .int .i64 i] w fun e w' => e = .returned (.tuple #[.int .i64 (slotOf n i).1, .bool (slotOf n i).2]) ∧ w = w'
def LayHomeSaid : Prop := ∀ (n i : Int) (w : World), -9223372036854775808 ≤ n ∧ n ≤ 9223372036854775807 → -9223372036854775808 ≤ i ∧ i ≤ 9223372036854775807 → Calls Tryz.prog 166 #[.int .i64 n, .int .i64 i] w fun e w' => e = .returned (.tuple #[.int .i64 (homeOf n i).1, .bool (homeOf n i).2]) ∧ w = w'
def LayMarkSaid : Prop := ∀ w : World, Calls Tryz.prog 80 #[] w fun e w' => e = .returned (.int .i64 0) ∧ w = w'
/-- All four. -/
structure LayApi : Prop where
  pages : LayPagesSaid
  slot : LaySlotSaid
  home : LayHomeSaid
  mark : LayMarkSaid

end Go.Proofs.YtinhdimalhfgkaaGreatDoor

/-
  The program's own layout by contract: for any numbers it answers how many pages there are and where they stand; nothing is written. No condition.
-/
namespace Go.Proofs.YtinhdimalhfgkaaGreatDoor
open Go.RowKit
set_option maxRecDepth 100000
set_option linter.unusedVariables false

theorem layMark_any : LayMarkSaid := by
  intro w
  go_enter Tryz.func80, Tryz.ntmps80
  go_wp2; go_ret; exact ⟨rfl, rfl⟩

set_option maxHeartbeats 800000 in
theorem layPages_any : LayPagesSaid := by
  intro n w hn
  unfold pagesOf
  by_cases h1 : n < 3
  · rw [if_pos (.inl h1)]
    have k1 : decide (n < 3) = true := by simpa using h1
    clear h1
    go_enter Tryz.func141, Tryz.ntmps141
    go_wp2; go_ret; exact ⟨rfl, rfl⟩
  by_cases h2 : 65536 < n
  · rw [if_pos (.inr h2)]
    have k1 : decide (n < 3) = false := by simpa using h1
    have k2 : decide (65536 < n) = true := by simpa using h2
    clear h1 h2
    go_enter Tryz.func141, Tryz.ntmps141
    go_wp2; go_ret; exact ⟨rfl, rfl⟩
  · rw [if_neg (by omega)]
    have k1 : decide (n < 3) = false := by simpa using h1
    have k2 : decide (65536 < n) = false := by simpa using h2
    go_enter Tryz.func141, Tryz.ntmps141
    go_wp2; go_ret
    exact ⟨rfl, rfl⟩

set_option maxHeartbeats 800000 in
theorem layHas_any (n i : Int) (w : World) (hn : -9223372036854775808 ≤ n ∧ n ≤ 9223372036854775807) (hi : -9223372036854775808 ≤ i ∧ i ≤ 9223372036854775807) : Calls Tryz.prog 211 #[.int .i64 n, .int .i64 i] w fun e w' => e = .returned (.bool (decide (0 ≤ i ∧ i < pagesOf n))) ∧ w = w' := by
  have hp := pagesOf_bounds n
  have HP := Lib.hid (layPages_any n w hn)
  by_cases h1 : i < 0
  · rw [show decide (0 ≤ i ∧ i < pagesOf n) = false from by simpa using fun h => by omega]
    have k1 : decide (0 ≤ i) = false := by simpa using h1
    clear h1
    go_enter Tryz.func211, Tryz.ntmps211
    go_wp2_with (go_at_call 141; refine HP.out.mono ?_; rintro e w1 ⟨rfl, rfl⟩)
    go_ret; exact ⟨rfl, rfl⟩
  have k1 : decide (0 ≤ i) = true := by simpa using h1
  by_cases h2 : i < pagesOf n
  · rw [show decide (0 ≤ i ∧ i < pagesOf n) = true from by simpa using ⟨by omega, h2⟩]
    have k2 : decide (i < pagesOf n) = true := by simpa using h2
    clear h1 h2
    go_enter Tryz.func211, Tryz.ntmps211
    go_wp2_with (go_at_call 141; refine HP.out.mono ?_; rintro e w1 ⟨rfl, rfl⟩)
    go_ret; exact ⟨rfl, rfl⟩
  · rw [show decide (0 ≤ i ∧ i < pagesOf n) = false from by simpa using fun h => by omega]
    have k2 : decide (i < pagesOf n) = false := by simpa using h2
    clear h1 h2
    go_enter Tryz.func211, Tryz.ntmps211
    go_wp2_with (go_at_call 141; refine HP.out.mono ?_; rintro e w1 ⟨rfl, rfl⟩)
    go_ret; exact ⟨rfl, rfl⟩

set_option maxHeartbeats 800000 in
theorem laySlot_any : LaySlotSaid := by
  intro n i w hn hi
  have hp := pagesOf_bounds n
  have HH := Lib.hid (layHas_any n i w hn hi)
  have HM := Lib.hid (layMark_any w)
  unfold slotOf
  by_cases h : 0 ≤ i ∧ i < pagesOf n
  · rw [if_neg (by omega)]
    rw [show decide (0 ≤ i ∧ i < pagesOf n) = true from by simpa using h] at HH
    go_enter Tryz.func200, Tryz.ntmps200
    go_wp2_with (first
      | (go_at_call 211; refine HH.out.mono ?_; rintro e w1 ⟨rfl, rfl⟩)
      | (go_at_call 80; refine HM.out.mono ?_; rintro e w1 ⟨rfl, rfl⟩))
    go_ret2; exact ⟨by simp; omega, rfl⟩
  · rw [if_pos (by omega)]
    rw [show decide (0 ≤ i ∧ i < pagesOf n) = false from by simpa using h] at HH
    go_enter Tryz.func200, Tryz.ntmps200
    go_wp2_with (first
      | (go_at_call 211; refine HH.out.mono ?_; rintro e w1 ⟨rfl, rfl⟩)
      | (go_at_call 80; refine HM.out.mono ?_; rintro e w1 ⟨rfl, rfl⟩))
    go_ret2; exact ⟨rfl, rfl⟩

set_option maxHeartbeats 800000 in
theorem layHome_any : LayHomeSaid := by
  intro n i w hn hi
  have hp := pagesOf_bounds n
  have HH := Lib.hid (layHas_any n i w hn hi)
  have HM := Lib.hid (layMark_any w)
  have HP := Lib.hid (layPages_any n w hn)
  unfold homeOf
  by_cases h : 0 ≤ i ∧ i < pagesOf n
  · rw [if_neg (by omega)]
    rw [show decide (0 ≤ i ∧ i < pagesOf n) = true from by simpa using h] at HH
    generalize pagesOf n = P at *
    go_enter Tryz.func166, Tryz.ntmps166
    go_wp2_with (first
      | (go_at_call 211; refine HH.out.mono ?_; rintro e w1 ⟨rfl, rfl⟩)
      | (go_at_call 80; refine HM.out.mono ?_; rintro e w1 ⟨rfl, rfl⟩)
      | (go_at_call 141; refine HP.out.mono ?_; rintro e w1 ⟨rfl, rfl⟩))
    go_ret2; exact ⟨by simp; omega, rfl⟩
  · rw [if_pos (by omega)]
    rw [show decide (0 ≤ i ∧ i < pagesOf n) = false from by simpa using h] at HH
    go_enter Tryz.func166, Tryz.ntmps166
    go_wp2_with (first
      | (go_at_call 211; refine HH.out.mono ?_; rintro e w1 ⟨rfl, rfl⟩)
      | (go_at_call 80; refine HM.out.mono ?_; rintro e w1 ⟨rfl, rfl⟩)
      | (go_at_call 141; refine HP.out.mono ?_; rintro e w1 ⟨rfl, rfl⟩))
    go_ret2; exact ⟨rfl, rfl⟩

theorem lay_said : LayApi := ⟨layPages_any, laySlot_any, layHome_any, layMark_any⟩

end Go.Proofs.YtinhdimalhfgkaaGreatDoor

/-
  slices.Grow of nil and slices.Concat of slices of bytes by their contracts: a row of their own that reads as the slices one behind the other; nothing that was there is written. Condition: fewer than 2^47 bytes in all, and at least one.
-/
namespace Go.Proofs.YtinhdimalhfgkaaGreatDoor
open Go.RowKit
set_option maxRecDepth 100000
set_option linter.unusedVariables false

set_option maxHeartbeats 800000 in
theorem GrowNil_any (n : Nat) (w : World) (h0 : 0 < n) (hn : n ≤ 140737488355328) : Calls Tryz.prog 223 #[.slice none 0 0, .int .i64 n] w fun e w' => ∃ v, e = .returned v ∧ w'.ownsRow w.heap.size 5 1 v 0 [] ∧ Below w.heap.size w w' := by
  obtain ⟨i0, hi, hz0, hz1, hz2⟩ := info_parts info_u8
  have hrz : ∀ ty, (Builtin.append_ #[46, 3] ty #[.slice none 0 0, .int .i64 (n : Int)]).run Tryz.prog w =
      .ok (.slice (some ⟨w.heap.size, 0, none⟩) n (grownCap w n 0 5)) (w.drew.alloc (.cells (#[] ++ Builtin.zeroCells (Value.int .u8 0).cells n ++ Builtin.zeroCells (Value.int .u8 0).cells (grownCap w n 0 5 - n)) 5)) := fun ty => by
    have h := Lib.run_append_grow_zeros w 46 3 ty 5 i0 (.int .u8 0) .i64 .i64 Tryz.underlying46 Tryz.underlying3 hi hz0 none 0 0 [] (run_firstCells_none w.drew i0.size 0 0 0) n h0 (by rw [hz1]; decide) (by omega) (by omega) (by rw [hz2]; omega) (by rw [hz2]; exact growslice_fits (by omega) (by omega))
    simp only [Nat.zero_add] at h
    exact h
  have hGn : n ≤ grownCap w n 0 5 := grownCap_ge w _ _ _
  have hGm := grownCap_le_maxLen w n 0 5 (by unfold maxLen; omega)
  obtain ⟨G, hG⟩ : ∃ G, G = grownCap w n 0 5 := ⟨_, rfl⟩
  rw [← hG] at hrz hGn hGm
  have hG63 : G ≤ 9223372036854775807 := by unfold maxLen at hGm; omega
  clear hG hi hz0 hz1 hz2
  have hn0 : (0 : Int) < (n : Int) := by omega
  go_enter Tryz.func223, Tryz.ntmps223
  go_wp2_with (at_builtin; refine Lib.wpList_append_run _ rfl _ _ _ _ rfl _ _ rfl rfl _ _ (hrz _) ?_)
  all_goals go_ret
  all_goals refine ⟨_, rfl, ⟨rfl, .inr ⟨w.heap.size, G, _, rfl, Nat.le_refl _, heap_alloc_new _ _, Nat.zero_le _, hGm, ?_, rfl⟩⟩, (Below.refl w.heap.size w).drew.alloc (Nat.le_refl _) _⟩
  all_goals simp [size_zeroCells]
  all_goals omega

/-- How many bytes the first slices have. -/
def totN (ns : Nat → Nat) : Nat → Nat | 0 => 0 | k + 1 => totN ns k + ns k
/-- The first slices, one behind the other. -/
def catL (ls : Nat → List Int) : Nat → List Int | 0 => [] | k + 1 => catL ls k ++ ls k
theorem totN_le (ns : Nat → Nat) {j k : Nat} (h : j ≤ k) : totN ns j ≤ totN ns k := by
  induction h with
  | refl => exact Nat.le_refl _
  | step _ ih => exact Nat.le_trans ih (Nat.le_add_right _ _)
theorem catL_bytes {ls : Nat → List Int} : ∀ k : Nat, (∀ j, j < k → AllBytes (ls j)) → AllBytes (catL ls k)
  | 0, _ => AllBytes.nil
  | k + 1, h => AllBytes.append (catL_bytes k fun j hj => h j (by omega)) (h k (by omega))

set_option maxHeartbeats 1600000 in
theorem Concat_any (g k B : Nat) (As : Nat → Option Addr) (ns cs : Nat → Nat) (ls : Nat → List Int) (w : World) (hg : g < w.heap.size) (hB : B ≤ w.heap.size) (hk : k ≤ 1000)
    (hcell : ∀ j, j < k → w.cell? ⟨g, j, none⟩ = some (.slice (As j) (ns j) (cs j))) (hr : ∀ j, j < k → RB w B (As j) (ns j) (ls j)) (h0 : 0 < totN ns k) (hn : totN ns k ≤ 140737488355328) :
    Calls Tryz.prog 191 #[.slice (some ⟨g, 0, none⟩) k k] w fun e w' => ∃ v, e = .returned v ∧ w'.ownsRow w.heap.size 5 1 v (totN ns k) ((catL ls k).map (Value.int .u8)) ∧ Below w.heap.size w w' := by
  have HC := Lib.hid hcell
  have HR := Lib.hid hr
  have HT := Lib.hid (fun j (hj : j < k) => show totN ns j + ns j ≤ totN ns k from totN_le ns (Nat.succ_le_of_lt hj))
  clear hcell hr
  go_enter Tryz.func191, Tryz.ntmps191
  go_wp2
  go_loop [3, 11] (fun s i => ∃ j : Nat, j ≤ k ∧ i = .int .i64 j ∧ s = .int .i64 (totN ns j : Int)) (fun _ i => k - (intOf i).toNat)
  case atStart => exact ⟨0, Nat.zero_le _, rfl, rfl⟩
  case round =>
    obtain ⟨j, hj, rfl, rfl⟩ := hrel
    by_cases hlt : j < k
    · have hc := HC.out j hlt
      have ht := HT.out j hlt
      have hlt' : (j : Int) < (k : Int) := by omega
      obtain ⟨x, hx⟩ : ∃ x, x = totN ns j := ⟨_, rfl⟩
      obtain ⟨y, hy⟩ : ∃ y, y = ns j := ⟨_, rfl⟩
      have hxy := Lib.hid (show totN ns (j + 1) = x + y by rw [hx, hy]; rfl)
      rw [← hy] at hc
      rw [← hx, ← hy] at ht
      rw [← hx]
      clear hx hy
      have hns : ¬ ((x : Int) + (y : Int) < 0) := by omega
      go_wp2
      go_roundw
      case rel => exact ⟨j + 1, by omega, by go_num, by rw [hxy.out]; go_num⟩
      case measure => simp [intOf]; omega
    · obtain rfl : j = k := by omega
      go_wp2_with fail
      refine (GrowNil_any _ _ h0 hn).mono ?_
      rintro e w1 ⟨v1, rfl, hown1, hb1⟩
      go_wp2
      go_loopw [6, 27] (fun v i wr => ∃ m : Nat, m ≤ j ∧ i = .int .i64 m ∧ wr.ownsRow w.heap.size 5 1 v (totN ns m) ((catL ls m).map (Value.int .u8)) ∧ Below w.heap.size w wr) (fun _ i _ => j - (intOf i).toNat)
      case atStart => exact ⟨0, Nat.zero_le _, rfl, hown1, hb1⟩
      case round =>
        obtain ⟨m, hm, rfl, hown, hbw⟩ := hrel
        by_cases hlt2 : m < j
        · have hc := (hbw.cell (p := ⟨g, m, none⟩) hg).trans (HC.out m hlt2)
          have ht := HT.out m hlt2
          have hrm := (HR.out m hlt2).below (hbw.mono hB)
          have hlt' : (m : Int) < (j : Int) := by omega
          go_wp2_with (at_builtin; refine wpList_append_bytes rfl _ _ rfl w.heap.size _ (totN ns m) (catL ls m) rfl hown B (As m) (ns m) (cs m) (ls m) rfl hrm (by omega) hbw.size ?_; intro v2 w2 hown2 _ hb2; have HO2 := Lib.hid hown2; have HB2 := Lib.hid (hbw.trans hb2); clear hown2 hb2)
          go_roundw
          case rel => exact ⟨m + 1, by omega, by go_num, HO2.out, HB2.out⟩
          case measure => simp [intOf]; omega
        · obtain rfl : m = j := by omega
          go_wp2
          go_ret
          exact ⟨_, rfl, hown, hbw⟩

end Go.Proofs.YtinhdimalhfgkaaGreatDoor

/-
  slices.Equal on bytes by its contract: whether they are the same. Nothing is written. No condition.
-/
namespace Go.Proofs.YtinhdimalhfgkaaGreatDoor
open Go.RowKit
set_option maxRecDepth 100000
set_option linter.unusedVariables false

theorem same_bytes {l m : List Int} (h : l.length = m.length) (he : ∀ j, j < l.length → l[j]?.getD 0 = m[j]?.getD 0) : l = m := by
  apply List.ext_getElem h
  intro j h1 h2
  have := he j h1
  rw [List.getElem?_eq_getElem h1, List.getElem?_eq_getElem h2] at this
  exact this

theorem below_drewN {B : Nat} {w w' : World} (h : Below B w w') : ∀ n, Below B w (w'.drewN n) := fun n => ⟨h.os, h.tape, h.output, h.size, h.block⟩

set_option maxHeartbeats 800000 in
theorem SEqual_any {w : World} {B B' n m : Nat} {A A' : Option Addr} {l l' : List Int} (c d : Nat) (hr : RB w B A n l) (hr' : RB w B' A' m l') (hm : n ≤ maxLen) (hm' : m ≤ maxLen) (hB : B ≤ w.heap.size) (hB' : B' ≤ w.heap.size) :
    Calls Tryz.prog 135 #[.slice A n c, .slice A' m d] w fun e w' => e = .returned (.bool (decide (l = l'))) ∧ Below w.heap.size w w' := by
  unfold maxLen at hm hm'
  have hlen := hr.len
  have hlen' := hr'.len
  by_cases hnm : n = m
  · subst hnm
    have hne : ((n : Int) != (n : Int)) = false := by simp
    go_enter Tryz.func135, Tryz.ntmps135
    go_wp2
    go_loopw [13] (fun i wr => ∃ k : Nat, k ≤ n ∧ i = .int .i64 k ∧ Hid (∀ j, j < k → l[j]?.getD 0 = l'[j]?.getD 0) ∧ Below w.heap.size w wr) (fun i _ => n - (intOf i).toNat)
    case atStart => exact ⟨0, Nat.zero_le _, rfl, Lib.hid (fun j hj => absurd hj (by omega)), Below.refl _ _⟩
    case round =>
      obtain ⟨k, hk, rfl, hbef, hbw⟩ := hrel
      by_cases hlt : k < n
      · obtain ⟨b, off, rfl, hb, hcell⟩ := hr.2.2 (by omega)
        obtain ⟨b', off', rfl, hb', hcell'⟩ := hr'.2.2 (by omega)
        have hck := (hbw.cell (p := ⟨b, off + k, none⟩) (Nat.lt_of_lt_of_le hb hB)).trans (hcell k hlt)
        have hck' := (hbw.cell (p := ⟨b', off' + k, none⟩) (Nat.lt_of_lt_of_le hb' hB')).trans (hcell' k hlt)
        clear hcell hcell'
        have hlt' : (k : Int) < (n : Int) := by omega
        by_cases hv : l[k]?.getD 0 = l'[k]?.getD 0
        · have hn := Lib.hid (fun j (hj : j < k + 1) => show l[j]?.getD 0 = l'[j]?.getD 0 by
            rcases Nat.lt_or_ge j k with h | h
            · exact hbef.out j h
            · obtain rfl : j = k := by omega
              exact hv)
          have kv : (l[k]?.getD 0 != l'[k]?.getD 0) = false := by simp [hv]
          clear hv
          generalize l[k]?.getD 0 = u at hck kv
          generalize l'[k]?.getD 0 = u' at hck' kv
          go_wp2_with fail
          go_quiet (fail)
          go_wp2
          go_roundw
          case rel => exact ⟨k + 1, by omega, by go_num, hn, below_drewN hbw _⟩
          case measure => simp [intOf]; omega
        · have hd := Lib.hid (show decide (l = l') = false by
            have : ¬ l = l' := fun e => hv (by rw [e])
            simpa using this)
          have kv : (l[k]?.getD 0 != l'[k]?.getD 0) = true := by simpa using hv
          clear hv
          generalize l[k]?.getD 0 = u at hck kv
          generalize l'[k]?.getD 0 = u' at hck' kv
          go_wp2_with fail
          go_quiet (fail)
          go_wp2
          go_ret
          rw [hd.out]
          exact ⟨rfl, below_drewN hbw _⟩
      · obtain rfl : k = n := by omega
        have hd := Lib.hid (show decide (l = l') = true by
          have : l = l' := same_bytes (by omega) (fun j hj => hbef.out j (by omega))
          simpa using this)
        go_wp2
        go_ret
        rw [hd.out]
        exact ⟨rfl, hbw⟩
  · have hne : ((n : Int) != (m : Int)) = true := by simp; omega
    have hd : decide (l = l') = false := by
      have : ¬ l = l' := fun e => hnm (by rw [← hlen, ← hlen', e])
      simpa using this
    rw [hd]
    clear hd hnm
    go_enter Tryz.func135, Tryz.ntmps135
    go_wp2
    go_ret
    exact ⟨rfl, Below.refl _ _⟩

end Go.Proofs.YtinhdimalhfgkaaGreatDoor

/-
  slices.Clone on bytes by its contract: a new slice of the same bytes, or nil; nothing that was there is written. Condition: at most 2^47 bytes.
-/
namespace Go.Proofs.YtinhdimalhfgkaaGreatDoor
open Go.RowKit
set_option maxRecDepth 100000
set_option linter.unusedVariables false

set_option maxHeartbeats 400000 in
theorem SClone_any {w : World} {B n : Nat} {A : Option Addr} {l : List Int} (c : Nat) (h : RB w B A n l) (hB : B ≤ w.heap.size) (hn : n ≤ 140737488355328) :
    Calls Tryz.prog 99 #[.slice A n c] w fun e w' => ∃ A' c', e = .returned (.slice A' n c') ∧ n ≤ c' ∧ RB w' w'.heap.size A' n l ∧ Below w.heap.size w w' := by
  have q22 : ∀ (w : World) (a : Option Addr) (n c n' c' : Nat), (binOp .eql 46 (.slice a n c) (.slice none n' c')).run Tryz.prog w = .ok (.bool a.isNone) w := fun w a n c n' c' => Lib.run_eql_slice_nil w _ _ a n c n' c' Tryz.underlying46
  rcases A with _ | ad
  · have hm : n = 0 := by
      rcases Nat.eq_zero_or_pos n with h0 | h0
      · exact h0
      · obtain ⟨b, off, e, _⟩ := h.at_ h0; cases e
    subst hm
    obtain rfl : l = [] := List.eq_nil_of_length_eq_zero h.len
    go_enter Tryz.func99, Tryz.ntmps99
    go_wp2
    go_ret
    exact ⟨none, 0, rfl, Nat.le_refl _, RB.nil_, Below.refl _ _⟩
  · go_enter Tryz.func99, Tryz.ntmps99
    go_wp2_with (at_builtin; refine wpList_append_bytes rfl _ _ rfl w.heap.size _ 0 [] rfl (World.ownsRow_made w #[] 0 (Nat.le_refl _) (Nat.zero_le _) rfl) B (some ad) n c l rfl (h.alloc hB _) (by omega) (by simp) ?_; intro v1 w1 hown1 _ hb1)
    simp only [Nat.zero_add, List.nil_append] at hown1
    obtain ⟨A', c', rfl, hc'⟩ := own_shape hown1
    go_ret
    exact ⟨A', c', rfl, hc', RB.of_own hown1 h.bytes, ((Below.refl w.heap.size w).alloc (Nat.le_refl _) _).trans hb1⟩

end Go.Proofs.YtinhdimalhfgkaaGreatDoor
