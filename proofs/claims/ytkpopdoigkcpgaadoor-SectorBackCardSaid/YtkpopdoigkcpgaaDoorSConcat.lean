/-
  slices.Grow of nil and slices.Concat of slices of bytes by their contracts: a row of their own that reads as the slices one behind the other; nothing that was there is written. Condition: fewer than 2^47 bytes in all, and at least one.
-/
import Derived.Test.YtkpopdoigkcpgaaDoorApp
import Derived.Lib.AppendZerosOnto
namespace Go.Proofs.YtkpopdoigkcpgaaDoor
open Go.RowKit
set_option linter.unusedVariables false

set_option maxHeartbeats 800000 in
theorem GrowNil_any (n : Nat) (w : World) (h0 : 0 < n) (hn : n ≤ 140737488355328) : Calls Tryd.prog 24 #[.slice none 0 0, .int .i64 n] w fun e w' => ∃ v, e = .returned v ∧ w'.ownsRow w.heap.size 5 1 v 0 [] ∧ Below w.heap.size w w' := by
  obtain ⟨i0, hi, hz0, hz1, hz2⟩ := info_parts info_u8
  have hrz : ∀ ty, (Builtin.append_ #[22, 3] ty #[.slice none 0 0, .int .i64 (n : Int)]).run Tryd.prog w =
      .ok (.slice (some ⟨w.heap.size, 0, none⟩) n (grownCap w n 0 5)) (w.drew.alloc (.cells (#[] ++ Builtin.zeroCells (Value.int .u8 0).cells n ++ Builtin.zeroCells (Value.int .u8 0).cells (grownCap w n 0 5 - n)) 5)) := fun ty => by
    have h := Lib.run_append_grow_zeros w 22 3 ty 5 i0 (.int .u8 0) .i64 .i64 Tryd.underlying22 Tryd.underlying3 hi hz0 none 0 0 [] (run_firstCells_none w.drew i0.size 0 0 0) n h0 (by rw [hz1]; decide) (by omega) (by omega) (by rw [hz2]; omega) (by rw [hz2]; exact growslice_fits (by omega) (by omega))
    simp only [Nat.zero_add] at h
    exact h
  have hGn : n ≤ grownCap w n 0 5 := grownCap_ge w _ _ _
  have hGm := grownCap_le_maxLen w n 0 5 (by unfold maxLen; omega)
  obtain ⟨G, hG⟩ : ∃ G, G = grownCap w n 0 5 := ⟨_, rfl⟩
  rw [← hG] at hrz hGn hGm
  have hG63 : G ≤ 9223372036854775807 := by unfold maxLen at hGm; omega
  clear hG hi hz0 hz1 hz2
  have hn0 : (0 : Int) < (n : Int) := by omega
  go_enter Tryd.func24, Tryd.ntmps24
  go_wp2_with (at_builtin; refine Lib.wpList_append_run _ rfl _ _ _ _ rfl _ _ rfl rfl _ _ (hrz _) ?_)
  all_goals go_ret
  all_goals refine ⟨_, rfl, ⟨rfl, .inr ⟨w.heap.size, G, _, rfl, Nat.le_refl _, heap_alloc_new _ _, Nat.zero_le _, hGm, ?_, rfl⟩⟩, (Below.refl w.heap.size w).drew.alloc (Nat.le_refl _) _⟩
  all_goals simp [size_zeroCells]
  all_goals omega

/-- How many bytes the first slices have. -/
def totN (ns : Nat → Nat) : Nat → Nat | 0 => 0 | k + 1 => totN ns k + ns k
/-- The first slices, one behind the other. -/
def catL (ls : Nat → List Int) : Nat → List Int | 0 => [] | k + 1 => catL ls k ++ ls k
theorem totN_le (ns : Nat → Nat) {j k : Nat} (h : j ≤ k) : totN ns j ≤ totN ns k := by
  induction h with
  | refl => exact Nat.le_refl _
  | step _ ih => exact Nat.le_trans ih (Nat.le_add_right _ _)
theorem catL_bytes {ls : Nat → List Int} : ∀ k : Nat, (∀ j, j < k → AllBytes (ls j)) → AllBytes (catL ls k)
  | 0, _ => AllBytes.nil
  | k + 1, h => AllBytes.append (catL_bytes k fun j hj => h j (by omega)) (h k (by omega))

set_option maxHeartbeats 1600000 in
theorem Concat_any (g k B : Nat) (As : Nat → Option Addr) (ns cs : Nat → Nat) (ls : Nat → List Int) (w : World) (hg : g < w.heap.size) (hB : B ≤ w.heap.size) (hk : k ≤ 1000)
    (hcell : ∀ j, j < k → w.cell? ⟨g, j, none⟩ = some (.slice (As j) (ns j) (cs j))) (hr : ∀ j, j < k → RB w B (As j) (ns j) (ls j)) (h0 : 0 < totN ns k) (hn : totN ns k ≤ 140737488355328) :
    Calls Tryd.prog 14 #[.slice (some ⟨g, 0, none⟩) k k] w fun e w' => ∃ v, e = .returned v ∧ w'.ownsRow w.heap.size 5 1 v (totN ns k) ((catL ls k).map (Value.int .u8)) ∧ Below w.heap.size w w' := by
  have HC := Lib.hid hcell
  have HR := Lib.hid hr
  have HT := Lib.hid (fun j (hj : j < k) => show totN ns j + ns j ≤ totN ns k from totN_le ns (Nat.succ_le_of_lt hj))
  clear hcell hr
  go_enter Tryd.func14, Tryd.ntmps14
  go_wp2
  go_loop [3, 11] (fun s i => ∃ j : Nat, j ≤ k ∧ i = .int .i64 j ∧ s = .int .i64 (totN ns j : Int)) (fun _ i => k - (intOf i).toNat)
  case atStart => exact ⟨0, Nat.zero_le _, rfl, rfl⟩
  case round =>
    obtain ⟨j, hj, rfl, rfl⟩ := hrel
    by_cases hlt : j < k
    · have hc := HC.out j hlt
      have ht := HT.out j hlt
      have hlt' : (j : Int) < (k : Int) := by omega
      obtain ⟨x, hx⟩ : ∃ x, x = totN ns j := ⟨_, rfl⟩
      obtain ⟨y, hy⟩ : ∃ y, y = ns j := ⟨_, rfl⟩
      have hxy := Lib.hid (show totN ns (j + 1) = x + y by rw [hx, hy]; rfl)
      rw [← hy] at hc
      rw [← hx, ← hy] at ht
      rw [← hx]
      clear hx hy
      have hns : ¬ ((x : Int) + (y : Int) < 0) := by omega
      go_wp2
      go_roundw
      case rel => exact ⟨j + 1, by omega, by go_num, by rw [hxy.out]; go_num⟩
      case measure => simp [intOf]; omega
    · obtain rfl : j = k := by omega
      go_wp2_with fail
      refine (GrowNil_any _ _ h0 hn).mono ?_
      rintro e w1 ⟨v1, rfl, hown1, hb1⟩
      go_wp2
      go_loopw [6, 27] (fun v i wr => ∃ m : Nat, m ≤ j ∧ i = .int .i64 m ∧ wr.ownsRow w.heap.size 5 1 v (totN ns m) ((catL ls m).map (Value.int .u8)) ∧ Below w.heap.size w wr) (fun _ i _ => j - (intOf i).toNat)
      case atStart => exact ⟨0, Nat.zero_le _, rfl, hown1, hb1⟩
      case round =>
        obtain ⟨m, hm, rfl, hown, hbw⟩ := hrel
        by_cases hlt2 : m < j
        · have hc := (hbw.cell (p := ⟨g, m, none⟩) hg).trans (HC.out m hlt2)
          have ht := HT.out m hlt2
          have hrm := (HR.out m hlt2).below (hbw.mono hB)
          have hlt' : (m : Int) < (j : Int) := by omega
          go_wp2_with (at_builtin; refine wpList_append_bytes rfl _ _ rfl w.heap.size _ (totN ns m) (catL ls m) rfl hown B (As m) (ns m) (cs m) (ls m) rfl hrm (by omega) hbw.size ?_; intro v2 w2 hown2 _ hb2; have HO2 := Lib.hid hown2; have HB2 := Lib.hid (hbw.trans hb2); clear hown2 hb2)
          go_roundw
          case rel => exact ⟨m + 1, by omega, by go_num, HO2.out, HB2.out⟩
          case measure => simp [intOf]; omega
        · obtain rfl : m = j := by omega
          go_wp2
          go_ret
          exact ⟨_, rfl, hown, hbw⟩

end Go.Proofs.YtkpopdoigkcpgaaDoor
