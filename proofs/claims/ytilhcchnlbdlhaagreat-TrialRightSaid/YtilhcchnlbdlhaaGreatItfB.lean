/-
  The texts ItfA, ItfB joined. Conditions: those that each part says at its head.
-/
import Derived.Test.YtilhcchnlbdlhaaGreatLinD
import Derived.Lib.AppendZerosOnto
import Derived.Deep.RegionHeld3

/-
  Contracts of interf.Balance and All. Condition: fewer than 2^30 lines.
-/
namespace Go.Proofs.YtilhcchnlbdlhaaGreat
open Go.RowKit Go.Maps
set_option maxRecDepth 100000
set_option linter.unusedVariables false

theorem step_append_runL {P : Program} {ops : Array Oper} {o : Oper} {a : Act} {w : World} {K : Act → World → Prop} {Q : Exit → Act → World → Prop} {E : Prop} (hgd : o.guard = none) (s x : Operand) (t tn : TypeId)
    (ho : o.op = .call { callee := .builtin .append, args := #[s, x], argTypes := #[t, tn] }) (v u : Value) (hs : a.eval s = v) (hx : a.eval x = u) {v' : Value} {w' : World}
    (hrun : (Builtin.append_ #[t, tn] o.type #[v, u]).run P w = .ok v' w') (h : K (a.put o.dst v') w') :
    if Region.wanted o (yielded ops a.tmps) = true then Oper.wp P o a w K Q else E := by
  have hw : Region.wanted o (yielded ops a.tmps) = true := by simp [Region.wanted, hgd]
  rw [if_pos hw]
  exact Lib.wp_append_run w s x t tn ho v u hs hx _ _ hrun h
theorem balL_step {L : FL} {j : Nat} {p : Int × Int} (h : L[j]? = some p) : balL (L.take (j + 1)) = balL (L.take j) ++ (balF p).toList := by
  obtain ⟨hj, rfl⟩ := List.getElem?_eq_some_iff.1 h
  unfold balL
  rw [List.take_succ_eq_append_getElem hj, List.filterMap_append]
  congr 1
theorem fundLn_at {L : FL} {j : Nat} {x : Ln} (h : (L.map fundLn)[j]? = some x) : ∃ p, L[j]? = some p ∧ x = fundLn p := by
  rw [List.getElem?_map] at h
  obtain ⟨p, h1, h2⟩ := Option.map_eq_some_iff.1 h
  exact ⟨p, h1, h2.symm⟩

section
variable {w w' : World} {A A' : Option Addr} {n m k B B' : Nat} {l l' : List Ln}
set_option maxHeartbeats 400000 in
theorem due_any (s : Int) (w : World) : Calls Tryz.prog 109 #[.int .i64 s] w fun e w' => e = .returned (.int .i64 (dueOf s)) ∧ w = w' := by
  unfold dueOf
  by_cases h : 0 < s
  · rw [if_pos h]
    go_enter Tryz.func109, Tryz.ntmps109
    go_wp2
    go_ret
    exact ⟨rfl, rfl⟩
  · rw [if_neg h]
    go_enter Tryz.func109, Tryz.ntmps109
    go_wp2
    go_ret
    exact ⟨rfl, rfl⟩
set_option maxHeartbeats 1600000 in
theorem balance_any (hr : RL w B A n l) (hB : B ≤ w.heap.size) (hn : n ≤ 1073741823) :
    Calls Tryz.prog 77 #[.slice A n k] w fun e w' => ∃ u, e = .returned u ∧ LOwn w' w.heap.size u (balL (fundsOf l)) ∧ Below w.heap.size w w' := by
  have HF := Lib.hid (funds_any (k := k) hr hB (by omega))
  have HL := Lib.hid (And.intro (fundsOf_in l hr.ok) (show (fundsOf l).length ≤ n by rw [← hr.len]; exact fundsOf_len l))
  generalize fundsOf l = L at HF HL ⊢
  clear hr hB
  go_enter Tryz.func77, Tryz.ntmps77
  go_wp2_with fail
  refine HF.out.mono ?_
  rintro e w1 ⟨u1, rfl, ho1, hb1⟩
  obtain ⟨A1, c1, rfl, hc1⟩ := ho1.shape
  rw [List.length_map] at ho1 hc1 ⊢
  obtain ⟨_, _, hr1⟩ := ho1.read (fundLn_ok HL.out.1)
  obtain ⟨N, hN⟩ : ∃ N, N = L.length := ⟨_, rfl⟩
  have HNN := Lib.hid hN
  rw [← hN] at hr1 hc1 ⊢
  have HR1 := Lib.hid hr1
  have HB1 := Lib.hid hb1
  have hNn : N ≤ n := by rw [hN]; exact HL.out.2
  clear ho1 hr1 hb1 hN HF
  go_wp2_with fail
  go_loopw [3, 9] (fun u i wr => ∃ j : Nat, j ≤ N ∧ i = .int .i64 j ∧ Hid (LOwn wr w1.heap.size u (balL (L.take j)) ∧ Below w1.heap.size w1 wr)) (fun _ i _ => N - (intOf i).toNat)
  case atStart => exact ⟨0, Nat.zero_le _, rfl, Lib.hid ⟨by rw [List.take_zero]; exact LOwn.start _ _, Below.refl _ _⟩⟩
  case round =>
    obtain ⟨j, hj, rfl, HI⟩ := hrel
    by_cases hlt : j < N
    · have hlt' : (j : Int) < (N : Int) := by omega
      obtain ⟨hown, hb⟩ := HI.out
      obtain ⟨x, hx⟩ : ∃ x, (L.map fundLn)[j]? = some x := ⟨_, List.getElem?_eq_getElem (by rw [List.length_map, ← HNN.out]; exact hlt)⟩
      obtain ⟨b, off, rfl, hbB, hat⟩ := HR1.out.2.2 (by omega)
      obtain ⟨c0, c1', c2, c3⟩ := (hat j x hx).keep hbB (fun b o hbb => hb.cell (p := ⟨b, o, none⟩) hbb)
      obtain ⟨⟨f, s⟩, hp, rfl⟩ := fundLn_at hx
      simp only [fundLn] at c0 c1' c2 c3
      have hin := HL.out.1 _ (List.mem_of_getElem? hp)
      have hstep := balL_step hp
      have hll : (balL (L.take j)).length ≤ j := Nat.le_trans (balL_len _) (by rw [List.length_take]; exact Nat.min_le_left _ _)
      by_cases hz : s = 0
      · subst hz
        have HE := Lib.hid (show ∀ W, Below wr.heap.size wr W → LOwn W w1.heap.size _ (balL (L.take (j + 1))) ∧ Below w1.heap.size w1 W from fun W hW => ⟨by rw [hstep]; unfold balF; rw [if_pos rfl]; show LOwn W _ _ (_ ++ []); rw [List.append_nil]; exact hown.below hW, hb.trans (hW.mono hb.size)⟩)
        have hX : Below wr.heap.size wr (wr.alloc (.cells #[.int .i64 f, .int .i64 0, .int .i64 0, .int .i64 0] 30 (0, 0))) := (Below.refl _ _).alloc (Nat.le_refl _) _
        have HX := Lib.hid hX
        clear hown hb hx hat hp hin hstep hll hX HI
        go_wp2_with fail
        go_roundw
        case rel => exact ⟨j + 1, by omega, by go_num, Lib.hid (HE.out _ HX.out)⟩
        case measure => simp [intOf]; omega
      · have hne : (s != 0) = true := by simpa using hz
        have hX : Below wr.heap.size wr (wr.alloc (.cells #[.int .i64 f, .int .i64 0, .int .i64 0, .int .i64 s] 30 (0, 0))) := (Below.refl _ _).alloc (Nat.le_refl _) _
        have hXd := hX.drew
        obtain ⟨z, hz'⟩ : ∃ z, IntKind.i64.wrap (-s) = z := ⟨_, rfl⟩
        obtain ⟨d, hd⟩ : ∃ d, dueOf s = d := ⟨_, rfl⟩
        have hblk := heap_alloc_new wr (.cells #[.int .i64 f, .int .i64 0, .int .i64 0, .int .i64 s] 30 (0, 0))
        obtain ⟨wx, hwx⟩ : ∃ wx, wx = wr.alloc (.cells #[.int .i64 f, .int .i64 0, .int .i64 0, .int .i64 s] 30 (0, 0)) := ⟨_, rfl⟩
        have hsz : wx.heap.size = wr.heap.size + 1 := by rw [hwx]; simp
        rw [← hwx] at hblk hX hXd
        have q0 : wx.drew.cell? ⟨wr.heap.size, 0, none⟩ = some (.int .i64 f) := cell_of_row wx.drew _ 0 _ _ (0, 0) hblk
        have q3 : wx.drew.cell? ⟨wr.heap.size, 3, none⟩ = some (.int .i64 s) := cell_of_row wx.drew _ 3 _ _ (0, 0) hblk
        have hblk2 : (wx.alloc (.cells #[.int .i64 f, .int .i64 d, .int .i64 0, .int .i64 z] 30 (0, 0))).drew.heap[wr.heap.size]? = _ := (heap_alloc_old wx _ (Array.getElem?_eq_some_iff.1 hblk).1).trans hblk
        have p0 : (wx.alloc (.cells #[.int .i64 f, .int .i64 d, .int .i64 0, .int .i64 z] 30 (0, 0))).drew.cell? ⟨wr.heap.size, 0, none⟩ = some (.int .i64 f) := cell_of_row _ _ 0 _ _ (0, 0) hblk2
        have p3 : (wx.alloc (.cells #[.int .i64 f, .int .i64 d, .int .i64 0, .int .i64 z] 30 (0, 0))).drew.cell? ⟨wr.heap.size, 3, none⟩ = some (.int .i64 s) := cell_of_row _ _ 3 _ _ (0, 0) hblk2
        have hXe : Below wr.heap.size wr (wx.alloc (.cells #[.int .i64 f, .int .i64 d, .int .i64 0, .int .i64 z] 30 (0, 0))).drew := (hX.alloc hX.size _).drew
        have hok : LnOk ⟨f, d, 0, z⟩ := balL_ok (L := [(f, s)]) (fun p hp => by obtain rfl := List.mem_singleton.1 hp; exact hin) _ (by unfold balL balF; simp only [List.filterMap_cons, if_neg hz, hd, hz']; exact List.mem_singleton.2 rfl)
        obtain ⟨v', w6, hrun, hown6, hb6, hg6, _⟩ := (hown.below hXe).append1 (x := ⟨f, d, 0, z⟩) (heap_alloc_new wx _) hok (by omega) (Nat.le_trans hb.size hXe.size) 28
        have HE := Lib.hid (show LOwn w6 w1.heap.size v' (balL (L.take (j + 1))) ∧ Below w1.heap.size w1 w6 from ⟨by rw [hstep]; unfold balF; rw [if_neg hz]; simp only [hd, hz']; exact hown6, (hb.trans (hXe.mono hb.size)).trans hb6⟩)
        have hblk6 : w6.heap[wr.heap.size]? = _ := (hg6.block _ (Array.getElem?_eq_some_iff.1 hblk2).1 (fun e => by have := (hown.at_ _ e.symm).2; omega)).trans hblk2
        have r0 : w6.cell? ⟨wr.heap.size, 0, none⟩ = some (.int .i64 f) := cell_of_row _ _ 0 _ _ (0, 0) hblk6
        have r3 : w6.cell? ⟨wr.heap.size, 3, none⟩ = some (.int .i64 s) := cell_of_row _ _ 3 _ _ (0, 0) hblk6
        have HD := Lib.hid (due_any s)
        rw [hd] at HD
        rw [hsz] at hrun
        have HRUN := Lib.hid hrun
        obtain ⟨PA, PK, rfl, _⟩ := hown.shape
        clear hown hb hx hat hp hin hstep hX HI hd hXd hXe hok hown6 hb6 hrun hblk hblk2 hblk6 hg6 hsz
        go_wp2_with fail
        subst hwx
        go_region_held3 (fun W => W.cell? ⟨wr.heap.size, 0, none⟩ = some (.int .i64 f) ∧ W.cell? ⟨wr.heap.size, 3, none⟩ = some (.int .i64 s))
          (first | with_reducible exact ⟨r0, r3⟩ | with_reducible exact ⟨q0, q3⟩ | with_reducible exact ⟨p0, p3⟩ | exact ⟨q0, q3⟩ | exact ⟨p0, p3⟩)
          (first
            | (go_at_call 109; refine (HD.out _).mono ?_; rintro e w4 ⟨rfl, rfl⟩)
            | (refine step_append_runL rfl (.tmp 16) (.tmp 26) _ _ rfl _ _ (by rfl) (by rfl) HRUN.out ?_))
        go_wp2
        go_roundw
        case rel => exact ⟨j + 1, by omega, by go_num, HE⟩
        case measure => simp [intOf]; omega
    · obtain rfl : j = N := by omega
      have HE := Lib.hid (show LOwn wr w.heap.size _ (balL L) ∧ Below w.heap.size w wr from ⟨by have h1 := HI.out.1; rw [List.take_of_length_le (by rw [← HNN.out]; exact Nat.le_refl _)] at h1; exact h1.base_le HB1.out.size, HB1.out.trans (HI.out.2.mono HB1.out.size)⟩)
      clear HI
      go_wp2
      go_ret
      exact ⟨_, rfl, HE.out⟩
end
end Go.Proofs.YtilhcchnlbdlhaaGreat

/-
  slices.Grow of nil and slices.Concat of slices of lines by their contracts, and interf.All. Condition: fewer than 2^30 lines.
-/
namespace Go.Proofs.YtilhcchnlbdlhaaGreat
open Go.RowKit
set_option maxRecDepth 100000
set_option linter.unusedVariables false

set_option maxHeartbeats 800000 in
theorem growL_any (n : Nat) (w : World) (hn : n ≤ 2147483647) : Calls Tryz.prog 107 #[.slice none 0 0, .int .i64 n] w fun e w' => ∃ v, e = .returned v ∧ LOwn w' w.heap.size v [] ∧ Below w.heap.size w w' := by
  rcases Nat.eq_zero_or_pos n with h0 | h0
  · subst h0
    go_enter Tryz.func107, Tryz.ntmps107
    go_wp2
    go_ret
    exact ⟨_, rfl, LOwn.start _ _, Below.refl _ _⟩
  obtain ⟨i0, hi, hz0, hz1, hz2⟩ := info_parts info_line
  have hrz : ∀ ty, (Builtin.append_ #[28, 3] ty #[.slice none 0 0, .int .i64 (n : Int)]).run Tryz.prog w =
      .ok (.slice (some ⟨w.heap.size, 0, none⟩) n (grownCap w n 0 30)) (w.drew.alloc (.cells (#[] ++ Builtin.zeroCells (Value.agg #[.int .i64 0, .int .i64 0, .int .i64 0, .int .i64 0]).cells n ++ Builtin.zeroCells (Value.agg #[.int .i64 0, .int .i64 0, .int .i64 0, .int .i64 0]).cells (grownCap w n 0 30 - n)) 30)) := fun ty => by
    have h := Lib.run_append_grow_zeros w 28 3 ty 30 i0 (.agg #[.int .i64 0, .int .i64 0, .int .i64 0, .int .i64 0]) .i64 .i64 Tryz.underlying28 Tryz.underlying3 hi hz0 none 0 0 [] (run_firstCells_none w.drew i0.size 0 0 0) n h0 (by rw [hz1]; decide) (by omega) (by omega) (by rw [hz2]; omega) (by rw [hz2]; exact growslice_fits (by omega) (by omega))
    simp only [Nat.zero_add] at h
    exact h
  have hGn : n ≤ grownCap w n 0 30 := grownCap_ge w _ _ _
  have hGm := grownCap_le_maxLen w n 0 30 (by unfold maxLen; omega)
  obtain ⟨G, hG⟩ : ∃ G, G = grownCap w n 0 30 := ⟨_, rfl⟩
  rw [← hG] at hrz hGn hGm
  have hG63 : G ≤ 9223372036854775807 := by unfold maxLen at hGm; omega
  clear hG hi hz0 hz1 hz2
  have hn0 : (0 : Int) < (n : Int) := by omega
  go_enter Tryz.func107, Tryz.ntmps107
  go_wp2_with (at_builtin; refine Lib.wpList_append_run _ rfl _ _ _ _ rfl _ _ rfl rfl _ _ (hrz _) ?_)
  all_goals go_ret
  all_goals refine ⟨_, rfl, ⟨rfl, .inr ⟨w.heap.size, G, _, rfl, Nat.le_refl _, heap_alloc_new _ _, Nat.zero_le _, hGm, ?_, rfl⟩⟩, (Below.refl w.heap.size w).drew.alloc (Nat.le_refl _) _⟩
  all_goals simp [size_zeroCells]
  all_goals first | omega | (show _ = G * 4; rw [show (Value.agg #[.int .i64 0, .int .i64 0, .int .i64 0, .int .i64 0]).cells.size = 4 from rfl]; omega)

/-- How many lines the first slices have. -/
def totNL (ns : Nat → Nat) : Nat → Nat | 0 => 0 | k + 1 => totNL ns k + ns k
/-- The first slices, one behind the other. -/
def catLn (ls : Nat → List Ln) : Nat → List Ln | 0 => [] | k + 1 => catLn ls k ++ ls k
theorem totNL_le (ns : Nat → Nat) {j k : Nat} (h : j ≤ k) : totNL ns j ≤ totNL ns k := by
  induction h with
  | refl => exact Nat.le_refl _
  | step _ ih => exact Nat.le_trans ih (Nat.le_add_right _ _)
theorem catLn_len {ns : Nat → Nat} {ls : Nat → List Ln} {K : Nat} (h : ∀ j, j < K → (ls j).length = ns j) : ∀ k, k ≤ K → (catLn ls k).length = totNL ns k
  | 0, _ => rfl
  | k + 1, hk => by
    show (catLn ls k ++ ls k).length = totNL ns k + ns k
    rw [List.length_append, catLn_len h k (by omega), h k (by omega)]

set_option maxHeartbeats 1600000 in
theorem concatL_any (g k B : Nat) (As : Nat → Option Addr) (ns cs : Nat → Nat) (ls : Nat → List Ln) (w : World) (hg : g < w.heap.size) (hB : B ≤ w.heap.size) (hk : k ≤ 1000)
    (hcell : ∀ j, j < k → w.cell? ⟨g, j, none⟩ = some (.slice (As j) (ns j) (cs j))) (hr : ∀ j, j < k → RL w B (As j) (ns j) (ls j)) (hn : totNL ns k ≤ 2147483647) :
    Calls Tryz.prog 76 #[.slice (some ⟨g, 0, none⟩) k k] w fun e w' => ∃ v, e = .returned v ∧ LOwn w' w.heap.size v (catLn ls k) ∧ Below w.heap.size w w' := by
  have HC := Lib.hid hcell
  have HR := Lib.hid hr
  have HT := Lib.hid (fun j (hj : j < k) => show totNL ns j + ns j ≤ totNL ns k from totNL_le ns (Nat.succ_le_of_lt hj))
  have HL := Lib.hid (catLn_len (K := k) (ls := ls) (fun j hj => (hr j hj).len))
  clear hcell hr
  go_enter Tryz.func76, Tryz.ntmps76
  go_wp2
  go_loop [3, 11] (fun s i => ∃ j : Nat, j ≤ k ∧ i = .int .i64 j ∧ s = .int .i64 (totNL ns j : Int)) (fun _ i => k - (intOf i).toNat)
  case atStart => exact ⟨0, Nat.zero_le _, rfl, rfl⟩
  case round =>
    obtain ⟨j, hj, rfl, rfl⟩ := hrel
    by_cases hlt : j < k
    · have hc := HC.out j hlt
      have ht := HT.out j hlt
      have hlt' : (j : Int) < (k : Int) := by omega
      obtain ⟨x, hx⟩ : ∃ x, x = totNL ns j := ⟨_, rfl⟩
      obtain ⟨y, hy⟩ : ∃ y, y = ns j := ⟨_, rfl⟩
      have hxy := Lib.hid (show totNL ns (j + 1) = x + y by rw [hx, hy]; rfl)
      rw [← hy] at hc
      rw [← hx, ← hy] at ht
      rw [← hx]
      clear hx hy
      have hns : ¬ ((x : Int) + (y : Int) < 0) := by omega
      go_wp2
      go_roundw
      case rel => exact ⟨j + 1, by omega, by go_num, by rw [hxy.out]; go_num⟩
      case measure => simp [intOf]; omega
    · obtain rfl : j = k := by omega
      go_wp2_with fail
      refine (growL_any _ _ hn).mono ?_
      rintro e w1 ⟨v1, rfl, hown1, hb1⟩
      have HO1 := Lib.hid (And.intro hown1 hb1)
      clear hown1 hb1
      go_wp2
      go_loopw [6, 27] (fun v i wr => ∃ m : Nat, m ≤ j ∧ i = .int .i64 m ∧ Hid (LOwn wr w.heap.size v (catLn ls m) ∧ Below w.heap.size w wr)) (fun _ i _ => j - (intOf i).toNat)
      case atStart => exact ⟨0, Nat.zero_le _, rfl, HO1⟩
      case round =>
        obtain ⟨m, hm, rfl, HI⟩ := hrel
        by_cases hlt2 : m < j
        · obtain ⟨hown, hbw⟩ := HI.out
          have hc := (hbw.cell (p := ⟨g, m, none⟩) hg).trans (HC.out m hlt2)
          have ht := HT.out m hlt2
          have hrm := (HR.out m hlt2).below (hbw.mono hB)
          have hlt' : (m : Int) < (j : Int) := by omega
          have hln := HL.out m (by omega)
          obtain ⟨v2, w2, hrun, hown2, hb2, _⟩ := hown.appendL (c := cs m) hrm (by omega) (by omega) hbw.size 28
          have HE := Lib.hid (show LOwn w2 w.heap.size v2 (catLn ls (m + 1)) ∧ Below w.heap.size w w2 from ⟨hown2, hbw.trans hb2⟩)
          have HRUN := Lib.hid hrun
          clear hown hbw hrm hown2 hb2 hrun HI hln
          go_wp2_with (at_builtin; refine Lib.wpList_append_run _ rfl _ _ _ _ rfl _ _ rfl rfl _ _ HRUN.out ?_)
          go_roundw
          case rel => exact ⟨m + 1, by omega, by go_num, HE⟩
          case measure => simp [intOf]; omega
        · obtain rfl : m = j := by omega
          go_wp2
          go_ret
          exact ⟨_, rfl, HI.out⟩

section
variable {w w' : World} {A A' : Option Addr} {n m k B B' : Nat} {l l' : List Ln}
set_option maxHeartbeats 800000 in
theorem itfAll_any (hr : RL w B A n l) (hB : B ≤ w.heap.size) (hn : n ≤ 1073741823) :
    Calls Tryz.prog 44 #[.slice A n k] w fun e w' => ∃ u, e = .returned u ∧ LOwn w' w.heap.size u (l ++ balL (fundsOf l)) ∧ Below w.heap.size w w' := by
  have HBAL := Lib.hid (balance_any (k := k) hr hB hn)
  have HL := Lib.hid (And.intro hr.len (And.intro (balL_ok (fundsOf_in l hr.ok)) (show (balL (fundsOf l)).length ≤ n from Nat.le_trans (balL_len _) (by rw [← hr.len]; exact fundsOf_len l))))
  have HR := Lib.hid (And.intro hr hB)
  generalize balL (fundsOf l) = M at HBAL HL ⊢
  clear hr hB
  go_enter Tryz.func44, Tryz.ntmps44
  go_wp2_with fail
  refine HBAL.out.mono ?_
  rintro e w2 ⟨u2, rfl, ho2, hb2⟩
  obtain ⟨A2, c2, rfl, hc2⟩ := ho2.shape
  obtain ⟨_, _, hr2⟩ := ho2.read HL.out.2.1
  have hNn : M.length ≤ n := HL.out.2.2
  have hX : Below w2.heap.size w2 (w2.alloc (.cells #[.slice A n k, .slice A2 M.length c2] 28 (0, 0))) := (Below.refl _ _).alloc (Nat.le_refl _) _
  have hb2' := hb2.trans (hX.mono hb2.size)
  have hblk := heap_alloc_new w2 (.cells #[.slice A n k, .slice A2 M.length c2] 28 (0, 0))
  have HCO := Lib.hid (concatL_any w2.heap.size 2 (w2.alloc (.cells #[.slice A n k, .slice A2 M.length c2] 28 (0, 0))).heap.size (fun j => if j = 0 then A else A2) (fun j => if j = 0 then n else M.length) (fun j => if j = 0 then k else c2) (fun j => if j = 0 then l else M) (w2.alloc (.cells #[.slice A n k, .slice A2 M.length c2] 28 (0, 0))) (Array.getElem?_eq_some_iff.1 hblk).1 (Nat.le_refl _) (by decide)
    (fun j hj => by
      have : j = 0 ∨ j = 1 := by omega
      rcases this with rfl | rfl
      · exact cell_of_row _ _ 0 _ _ (0, 0) hblk
      · exact cell_of_row _ _ 1 _ _ (0, 0) hblk)
    (fun j hj => by
      have : j = 0 ∨ j = 1 := by omega
      rcases this with rfl | rfl
      · exact ((HR.out.1.below (hb2'.mono HR.out.2)).more (Nat.le_trans HR.out.2 hb2'.size))
      · exact (hr2.below hX).more hX.size) (by show 0 + n + M.length ≤ _; omega))
  have HE := Lib.hid hb2'
  clear ho2 hb2 hr2 hX hb2' hblk HBAL
  go_wp2_with fail
  refine HCO.out.mono ?_
  rintro e w3 ⟨u3, rfl, ho3, hb3⟩
  have HF := Lib.hid (show LOwn w3 w.heap.size u3 (l ++ M) ∧ Below w.heap.size w w3 from ⟨ho3.base_le HE.out.size, HE.out.trans (hb3.mono HE.out.size)⟩)
  clear ho3 hb3
  go_wp2
  go_ret
  exact ⟨_, rfl, HF.out⟩
end
end Go.Proofs.YtilhcchnlbdlhaaGreat
