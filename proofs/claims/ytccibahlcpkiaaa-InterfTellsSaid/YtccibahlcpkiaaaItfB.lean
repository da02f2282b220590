/-
  slices.Grow of nil and slices.Concat of slices of lines by their contracts, and interf.All. Condition: fewer than 2^30 lines.
-/
import Derived.Test.YtccibahlcpkiaaaItfA
import Derived.Lib.AppendZerosOnto
namespace Go.Proofs.Ytccibahlcpkiaaa
open Go.RowKit
set_option maxRecDepth 100000
set_option linter.unusedVariables false

set_option maxHeartbeats 800000 in
theorem growL_any (n : Nat) (w : World) (hn : n ≤ 2147483647) : Calls Try.prog 22 #[.slice none 0 0, .int .i64 n] w fun e w' => ∃ v, e = .returned v ∧ LOwn w' w.heap.size v [] ∧ Below w.heap.size w w' := by
  rcases Nat.eq_zero_or_pos n with h0 | h0
  · subst h0
    go_enter Try.func22, Try.ntmps22
    go_wp2
    go_ret
    exact ⟨_, rfl, LOwn.start _ _, Below.refl _ _⟩
  obtain ⟨i0, hi, hz0, hz1, hz2⟩ := info_parts info_line
  have hrz : ∀ ty, (Builtin.append_ #[22, 3] ty #[.slice none 0 0, .int .i64 (n : Int)]).run Try.prog w =
      .ok (.slice (some ⟨w.heap.size, 0, none⟩) n (grownCap w n 0 27)) (w.drew.alloc (.cells (#[] ++ Builtin.zeroCells (Value.agg #[.int .i64 0, .int .i64 0, .int .i64 0, .int .i64 0]).cells n ++ Builtin.zeroCells (Value.agg #[.int .i64 0, .int .i64 0, .int .i64 0, .int .i64 0]).cells (grownCap w n 0 27 - n)) 27)) := fun ty => by
    have h := Lib.run_append_grow_zeros w 22 3 ty 27 i0 (.agg #[.int .i64 0, .int .i64 0, .int .i64 0, .int .i64 0]) .i64 .i64 Try.underlying22 Try.underlying3 hi hz0 none 0 0 [] (run_firstCells_none w.drew i0.size 0 0 0) n h0 (by rw [hz1]; decide) (by omega) (by omega) (by rw [hz2]; omega) (by rw [hz2]; exact growslice_fits (by omega) (by omega))
    simp only [Nat.zero_add] at h
    exact h
  have hGn : n ≤ grownCap w n 0 27 := grownCap_ge w _ _ _
  have hGm := grownCap_le_maxLen w n 0 27 (by unfold maxLen; omega)
  obtain ⟨G, hG⟩ : ∃ G, G = grownCap w n 0 27 := ⟨_, rfl⟩
  rw [← hG] at hrz hGn hGm
  have hG63 : G ≤ 9223372036854775807 := by unfold maxLen at hGm; omega
  clear hG hi hz0 hz1 hz2
  have hn0 : (0 : Int) < (n : Int) := by omega
  go_enter Try.func22, Try.ntmps22
  go_wp2_with (at_builtin; refine Lib.wpList_append_run _ rfl _ _ _ _ rfl _ _ rfl rfl _ _ (hrz _) ?_)
  all_goals go_ret
  all_goals refine ⟨_, rfl, ⟨rfl, .inr ⟨w.heap.size, G, _, rfl, Nat.le_refl _, heap_alloc_new _ _, Nat.zero_le _, hGm, ?_, rfl⟩⟩, (Below.refl w.heap.size w).drew.alloc (Nat.le_refl _) _⟩
  all_goals simp [size_zeroCells]
  all_goals first | omega | (show _ = G * 4; rw [show (Value.agg #[.int .i64 0, .int .i64 0, .int .i64 0, .int .i64 0]).cells.size = 4 from rfl]; omega)

/-- How many lines the first slices have. -/
def totNL (ns : Nat → Nat) : Nat → Nat | 0 => 0 | k + 1 => totNL ns k + ns k
/-- The first slices, one behind the other. -/
def catLn (ls : Nat → List Ln) : Nat → List Ln | 0 => [] | k + 1 => catLn ls k ++ ls k
theorem totNL_le (ns : Nat → Nat) {j k : Nat} (h : j ≤ k) : totNL ns j ≤ totNL ns k := by
  induction h with
  | refl => exact Nat.le_refl _
  | step _ ih => exact Nat.le_trans ih (Nat.le_add_right _ _)
theorem catLn_len {ns : Nat → Nat} {ls : Nat → List Ln} {K : Nat} (h : ∀ j, j < K → (ls j).length = ns j) : ∀ k, k ≤ K → (catLn ls k).length = totNL ns k
  | 0, _ => rfl
  | k + 1, hk => by
    show (catLn ls k ++ ls k).length = totNL ns k + ns k
    rw [List.length_append, catLn_len h k (by omega), h k (by omega)]

set_option maxHeartbeats 1600000 in
theorem concatL_any (g k B : Nat) (As : Nat → Option Addr) (ns cs : Nat → Nat) (ls : Nat → List Ln) (w : World) (hg : g < w.heap.size) (hB : B ≤ w.heap.size) (hk : k ≤ 1000)
    (hcell : ∀ j, j < k → w.cell? ⟨g, j, none⟩ = some (.slice (As j) (ns j) (cs j))) (hr : ∀ j, j < k → RL w B (As j) (ns j) (ls j)) (hn : totNL ns k ≤ 2147483647) :
    Calls Try.prog 17 #[.slice (some ⟨g, 0, none⟩) k k] w fun e w' => ∃ v, e = .returned v ∧ LOwn w' w.heap.size v (catLn ls k) ∧ Below w.heap.size w w' := by
  have HC := Lib.hid hcell
  have HR := Lib.hid hr
  have HT := Lib.hid (fun j (hj : j < k) => show totNL ns j + ns j ≤ totNL ns k from totNL_le ns (Nat.succ_le_of_lt hj))
  have HL := Lib.hid (catLn_len (K := k) (ls := ls) (fun j hj => (hr j hj).len))
  clear hcell hr
  go_enter Try.func17, Try.ntmps17
  go_wp2
  go_loop [3, 11] (fun s i => ∃ j : Nat, j ≤ k ∧ i = .int .i64 j ∧ s = .int .i64 (totNL ns j : Int)) (fun _ i => k - (intOf i).toNat)
  case atStart => exact ⟨0, Nat.zero_le _, rfl, rfl⟩
  case round =>
    obtain ⟨j, hj, rfl, rfl⟩ := hrel
    by_cases hlt : j < k
    · have hc := HC.out j hlt
      have ht := HT.out j hlt
      have hlt' : (j : Int) < (k : Int) := by omega
      obtain ⟨x, hx⟩ : ∃ x, x = totNL ns j := ⟨_, rfl⟩
      obtain ⟨y, hy⟩ : ∃ y, y = ns j := ⟨_, rfl⟩
      have hxy := Lib.hid (show totNL ns (j + 1) = x + y by rw [hx, hy]; rfl)
      rw [← hy] at hc
      rw [← hx, ← hy] at ht
      rw [← hx]
      clear hx hy
      have hns : ¬ ((x : Int) + (y : Int) < 0) := by omega
      go_wp2
      go_roundw
      case rel => exact ⟨j + 1, by omega, by go_num, by rw [hxy.out]; go_num⟩
      case measure => simp [intOf]; omega
    · obtain rfl : j = k := by omega
      go_wp2_with fail
      refine (growL_any _ _ hn).mono ?_
      rintro e w1 ⟨v1, rfl, hown1, hb1⟩
      have HO1 := Lib.hid (And.intro hown1 hb1)
      clear hown1 hb1
      go_wp2
      go_loopw [6, 27] (fun v i wr => ∃ m : Nat, m ≤ j ∧ i = .int .i64 m ∧ Hid (LOwn wr w.heap.size v (catLn ls m) ∧ Below w.heap.size w wr)) (fun _ i _ => j - (intOf i).toNat)
      case atStart => exact ⟨0, Nat.zero_le _, rfl, HO1⟩
      case round =>
        obtain ⟨m, hm, rfl, HI⟩ := hrel
        by_cases hlt2 : m < j
        · obtain ⟨hown, hbw⟩ := HI.out
          have hc := (hbw.cell (p := ⟨g, m, none⟩) hg).trans (HC.out m hlt2)
          have ht := HT.out m hlt2
          have hrm := (HR.out m hlt2).below (hbw.mono hB)
          have hlt' : (m : Int) < (j : Int) := by omega
          have hln := HL.out m (by omega)
          obtain ⟨v2, w2, hrun, hown2, hb2, _⟩ := hown.appendL (c := cs m) hrm (by omega) (by omega) hbw.size 22
          have HE := Lib.hid (show LOwn w2 w.heap.size v2 (catLn ls (m + 1)) ∧ Below w.heap.size w w2 from ⟨hown2, hbw.trans hb2⟩)
          have HRUN := Lib.hid hrun
          clear hown hbw hrm hown2 hb2 hrun HI hln
          go_wp2_with (at_builtin; refine Lib.wpList_append_run _ rfl _ _ _ _ rfl _ _ rfl rfl _ _ HRUN.out ?_)
          go_roundw
          case rel => exact ⟨m + 1, by omega, by go_num, HE⟩
          case measure => simp [intOf]; omega
        · obtain rfl : m = j := by omega
          go_wp2
          go_ret
          exact ⟨_, rfl, HI.out⟩

section
variable {w w' : World} {A A' : Option Addr} {n m k B B' : Nat} {l l' : List Ln}
set_option maxHeartbeats 800000 in
theorem itfAll_any (hr : RL w B A n l) (hB : B ≤ w.heap.size) (hn : n ≤ 1073741823) :
    Calls Try.prog 10 #[.slice A n k] w fun e w' => ∃ u, e = .returned u ∧ LOwn w' w.heap.size u (l ++ balL (fundsOf l)) ∧ Below w.heap.size w w' := by
  have HBAL := Lib.hid (balance_any (k := k) hr hB hn)
  have HL := Lib.hid (And.intro hr.len (And.intro (balL_ok (fundsOf_in l hr.ok)) (show (balL (fundsOf l)).length ≤ n from Nat.le_trans (balL_len _) (by rw [← hr.len]; exact fundsOf_len l))))
  have HR := Lib.hid (And.intro hr hB)
  generalize balL (fundsOf l) = M at HBAL HL ⊢
  clear hr hB
  go_enter Try.func10, Try.ntmps10
  go_wp2_with fail
  refine HBAL.out.mono ?_
  rintro e w2 ⟨u2, rfl, ho2, hb2⟩
  obtain ⟨A2, c2, rfl, hc2⟩ := ho2.shape
  obtain ⟨_, _, hr2⟩ := ho2.read HL.out.2.1
  have hNn : M.length ≤ n := HL.out.2.2
  have hX : Below w2.heap.size w2 (w2.alloc (.cells #[.slice A n k, .slice A2 M.length c2] 22 (0, 0))) := (Below.refl _ _).alloc (Nat.le_refl _) _
  have hb2' := hb2.trans (hX.mono hb2.size)
  have hblk := heap_alloc_new w2 (.cells #[.slice A n k, .slice A2 M.length c2] 22 (0, 0))
  have HCO := Lib.hid (concatL_any w2.heap.size 2 (w2.alloc (.cells #[.slice A n k, .slice A2 M.length c2] 22 (0, 0))).heap.size (fun j => if j = 0 then A else A2) (fun j => if j = 0 then n else M.length) (fun j => if j = 0 then k else c2) (fun j => if j = 0 then l else M) (w2.alloc (.cells #[.slice A n k, .slice A2 M.length c2] 22 (0, 0))) (Array.getElem?_eq_some_iff.1 hblk).1 (Nat.le_refl _) (by decide)
    (fun j hj => by
      have : j = 0 ∨ j = 1 := by omega
      rcases this with rfl | rfl
      · exact cell_of_row _ _ 0 _ _ (0, 0) hblk
      · exact cell_of_row _ _ 1 _ _ (0, 0) hblk)
    (fun j hj => by
      have : j = 0 ∨ j = 1 := by omega
      rcases this with rfl | rfl
      · exact ((HR.out.1.below (hb2'.mono HR.out.2)).more (Nat.le_trans HR.out.2 hb2'.size))
      · exact (hr2.below hX).more hX.size) (by show 0 + n + M.length ≤ _; omega))
  have HE := Lib.hid hb2'
  clear ho2 hb2 hr2 hX hb2' hblk HBAL
  go_wp2_with fail
  refine HCO.out.mono ?_
  rintro e w3 ⟨u3, rfl, ho3, hb3⟩
  have HF := Lib.hid (show LOwn w3 w.heap.size u3 (l ++ M) ∧ Below w.heap.size w w3 from ⟨ho3.base_le HE.out.size, HE.out.trans (hb3.mono HE.out.size)⟩)
  clear ho3 hb3
  go_wp2
  go_ret
  exact ⟨_, rfl, HF.out⟩
end
end Go.Proofs.Ytccibahlcpkiaaa
