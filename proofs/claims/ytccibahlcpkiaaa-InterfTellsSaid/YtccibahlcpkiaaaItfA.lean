/-
  Contracts of interf.Balance and All. Condition: fewer than 2^30 lines.
-/
import Derived.Test.YtccibahlcpkiaaaLinD
import Derived.Lib.AppendZerosOnto
import Derived.Deep.RegionHeld3
namespace Go.Proofs.Ytccibahlcpkiaaa
open Go.RowKit Go.Maps
set_option maxRecDepth 100000
set_option linter.unusedVariables false

theorem step_append_runL {P : Program} {ops : Array Oper} {o : Oper} {a : Act} {w : World} {K : Act → World → Prop} {Q : Exit → Act → World → Prop} {E : Prop} (hgd : o.guard = none) (s x : Operand) (t tn : TypeId)
    (ho : o.op = .call { callee := .builtin .append, args := #[s, x], argTypes := #[t, tn] }) (v u : Value) (hs : a.eval s = v) (hx : a.eval x = u) {v' : Value} {w' : World}
    (hrun : (Builtin.append_ #[t, tn] o.type #[v, u]).run P w = .ok v' w') (h : K (a.put o.dst v') w') :
    if Region.wanted o (yielded ops a.tmps) = true then Oper.wp P o a w K Q else E := by
  have hw : Region.wanted o (yielded ops a.tmps) = true := by simp [Region.wanted, hgd]
  rw [if_pos hw]
  exact Lib.wp_append_run w s x t tn ho v u hs hx _ _ hrun h
theorem balL_step {L : FL} {j : Nat} {p : Int × Int} (h : L[j]? = some p) : balL (L.take (j + 1)) = balL (L.take j) ++ (balF p).toList := by
  obtain ⟨hj, rfl⟩ := List.getElem?_eq_some_iff.1 h
  unfold balL
  rw [List.take_succ_eq_append_getElem hj, List.filterMap_append]
  congr 1
theorem fundLn_at {L : FL} {j : Nat} {x : Ln} (h : (L.map fundLn)[j]? = some x) : ∃ p, L[j]? = some p ∧ x = fundLn p := by
  rw [List.getElem?_map] at h
  obtain ⟨p, h1, h2⟩ := Option.map_eq_some_iff.1 h
  exact ⟨p, h1, h2.symm⟩

section
variable {w w' : World} {A A' : Option Addr} {n m k B B' : Nat} {l l' : List Ln}
set_option maxHeartbeats 400000 in
theorem due_any (s : Int) (w : World) : Calls Try.prog 15 #[.int .i64 s] w fun e w' => e = .returned (.int .i64 (dueOf s)) ∧ w = w' := by
  unfold dueOf
  by_cases h : 0 < s
  · rw [if_pos h]
    go_enter Try.func15, Try.ntmps15
    go_wp2
    go_ret
    exact ⟨rfl, rfl⟩
  · rw [if_neg h]
    go_enter Try.func15, Try.ntmps15
    go_wp2
    go_ret
    exact ⟨rfl, rfl⟩
set_option maxHeartbeats 1600000 in
theorem balance_any (hr : RL w B A n l) (hB : B ≤ w.heap.size) (hn : n ≤ 1073741823) :
    Calls Try.prog 8 #[.slice A n k] w fun e w' => ∃ u, e = .returned u ∧ LOwn w' w.heap.size u (balL (fundsOf l)) ∧ Below w.heap.size w w' := by
  have HF := Lib.hid (funds_any (k := k) hr hB (by omega))
  have HL := Lib.hid (And.intro (fundsOf_in l hr.ok) (show (fundsOf l).length ≤ n by rw [← hr.len]; exact fundsOf_len l))
  generalize fundsOf l = L at HF HL ⊢
  clear hr hB
  go_enter Try.func8, Try.ntmps8
  go_wp2_with fail
  refine HF.out.mono ?_
  rintro e w1 ⟨u1, rfl, ho1, hb1⟩
  obtain ⟨A1, c1, rfl, hc1⟩ := ho1.shape
  rw [List.length_map] at ho1 hc1 ⊢
  obtain ⟨_, _, hr1⟩ := ho1.read (fundLn_ok HL.out.1)
  obtain ⟨N, hN⟩ : ∃ N, N = L.length := ⟨_, rfl⟩
  have HNN := Lib.hid hN
  rw [← hN] at hr1 hc1 ⊢
  have HR1 := Lib.hid hr1
  have HB1 := Lib.hid hb1
  have hNn : N ≤ n := by rw [hN]; exact HL.out.2
  clear ho1 hr1 hb1 hN HF
  go_wp2_with fail
  go_loopw [3, 9] (fun u i wr => ∃ j : Nat, j ≤ N ∧ i = .int .i64 j ∧ Hid (LOwn wr w1.heap.size u (balL (L.take j)) ∧ Below w1.heap.size w1 wr)) (fun _ i _ => N - (intOf i).toNat)
  case atStart => exact ⟨0, Nat.zero_le _, rfl, Lib.hid ⟨by rw [List.take_zero]; exact LOwn.start _ _, Below.refl _ _⟩⟩
  case round =>
    obtain ⟨j, hj, rfl, HI⟩ := hrel
    by_cases hlt : j < N
    · have hlt' : (j : Int) < (N : Int) := by omega
      obtain ⟨hown, hb⟩ := HI.out
      obtain ⟨x, hx⟩ : ∃ x, (L.map fundLn)[j]? = some x := ⟨_, List.getElem?_eq_getElem (by rw [List.length_map, ← HNN.out]; exact hlt)⟩
      obtain ⟨b, off, rfl, hbB, hat⟩ := HR1.out.2.2 (by omega)
      obtain ⟨c0, c1', c2, c3⟩ := (hat j x hx).keep hbB (fun b o hbb => hb.cell (p := ⟨b, o, none⟩) hbb)
      obtain ⟨⟨f, s⟩, hp, rfl⟩ := fundLn_at hx
      simp only [fundLn] at c0 c1' c2 c3
      have hin := HL.out.1 _ (List.mem_of_getElem? hp)
      have hstep := balL_step hp
      have hll : (balL (L.take j)).length ≤ j := Nat.le_trans (balL_len _) (by rw [List.length_take]; exact Nat.min_le_left _ _)
      by_cases hz : s = 0
      · subst hz
        have HE := Lib.hid (show ∀ W, Below wr.heap.size wr W → LOwn W w1.heap.size _ (balL (L.take (j + 1))) ∧ Below w1.heap.size w1 W from fun W hW => ⟨by rw [hstep]; unfold balF; rw [if_pos rfl]; show LOwn W _ _ (_ ++ []); rw [List.append_nil]; exact hown.below hW, hb.trans (hW.mono hb.size)⟩)
        have hX : Below wr.heap.size wr (wr.alloc (.cells #[.int .i64 f, .int .i64 0, .int .i64 0, .int .i64 0] 27 (0, 0))) := (Below.refl _ _).alloc (Nat.le_refl _) _
        have HX := Lib.hid hX
        clear hown hb hx hat hp hin hstep hll hX HI
        go_wp2_with fail
        go_roundw
        case rel => exact ⟨j + 1, by omega, by go_num, Lib.hid (HE.out _ HX.out)⟩
        case measure => simp [intOf]; omega
      · have hne : (s != 0) = true := by simpa using hz
        have hX : Below wr.heap.size wr (wr.alloc (.cells #[.int .i64 f, .int .i64 0, .int .i64 0, .int .i64 s] 27 (0, 0))) := (Below.refl _ _).alloc (Nat.le_refl _) _
        have hXd := hX.drew
        obtain ⟨z, hz'⟩ : ∃ z, IntKind.i64.wrap (-s) = z := ⟨_, rfl⟩
        obtain ⟨d, hd⟩ : ∃ d, dueOf s = d := ⟨_, rfl⟩
        have hblk := heap_alloc_new wr (.cells #[.int .i64 f, .int .i64 0, .int .i64 0, .int .i64 s] 27 (0, 0))
        obtain ⟨wx, hwx⟩ : ∃ wx, wx = wr.alloc (.cells #[.int .i64 f, .int .i64 0, .int .i64 0, .int .i64 s] 27 (0, 0)) := ⟨_, rfl⟩
        have hsz : wx.heap.size = wr.heap.size + 1 := by rw [hwx]; simp
        rw [← hwx] at hblk hX hXd
        have q0 : wx.drew.cell? ⟨wr.heap.size, 0, none⟩ = some (.int .i64 f) := cell_of_row wx.drew _ 0 _ _ (0, 0) hblk
        have q3 : wx.drew.cell? ⟨wr.heap.size, 3, none⟩ = some (.int .i64 s) := cell_of_row wx.drew _ 3 _ _ (0, 0) hblk
        have hblk2 : (wx.alloc (.cells #[.int .i64 f, .int .i64 d, .int .i64 0, .int .i64 z] 27 (0, 0))).drew.heap[wr.heap.size]? = _ := (heap_alloc_old wx _ (Array.getElem?_eq_some_iff.1 hblk).1).trans hblk
        have p0 : (wx.alloc (.cells #[.int .i64 f, .int .i64 d, .int .i64 0, .int .i64 z] 27 (0, 0))).drew.cell? ⟨wr.heap.size, 0, none⟩ = some (.int .i64 f) := cell_of_row _ _ 0 _ _ (0, 0) hblk2
        have p3 : (wx.alloc (.cells #[.int .i64 f, .int .i64 d, .int .i64 0, .int .i64 z] 27 (0, 0))).drew.cell? ⟨wr.heap.size, 3, none⟩ = some (.int .i64 s) := cell_of_row _ _ 3 _ _ (0, 0) hblk2
        have hXe : Below wr.heap.size wr (wx.alloc (.cells #[.int .i64 f, .int .i64 d, .int .i64 0, .int .i64 z] 27 (0, 0))).drew := (hX.alloc hX.size _).drew
        have hok : LnOk ⟨f, d, 0, z⟩ := balL_ok (L := [(f, s)]) (fun p hp => by obtain rfl := List.mem_singleton.1 hp; exact hin) _ (by unfold balL balF; simp only [List.filterMap_cons, if_neg hz, hd, hz']; exact List.mem_singleton.2 rfl)
        obtain ⟨v', w6, hrun, hown6, hb6, hg6, _⟩ := (hown.below hXe).append1 (x := ⟨f, d, 0, z⟩) (heap_alloc_new wx _) hok (by omega) (Nat.le_trans hb.size hXe.size) 22
        have HE := Lib.hid (show LOwn w6 w1.heap.size v' (balL (L.take (j + 1))) ∧ Below w1.heap.size w1 w6 from ⟨by rw [hstep]; unfold balF; rw [if_neg hz]; simp only [hd, hz']; exact hown6, (hb.trans (hXe.mono hb.size)).trans hb6⟩)
        have hblk6 : w6.heap[wr.heap.size]? = _ := (hg6.block _ (Array.getElem?_eq_some_iff.1 hblk2).1 (fun e => by have := (hown.at_ _ e.symm).2; omega)).trans hblk2
        have r0 : w6.cell? ⟨wr.heap.size, 0, none⟩ = some (.int .i64 f) := cell_of_row _ _ 0 _ _ (0, 0) hblk6
        have r3 : w6.cell? ⟨wr.heap.size, 3, none⟩ = some (.int .i64 s) := cell_of_row _ _ 3 _ _ (0, 0) hblk6
        have HD := Lib.hid (due_any s)
        rw [hd] at HD
        rw [hsz] at hrun
        have HRUN := Lib.hid hrun
        obtain ⟨PA, PK, rfl, _⟩ := hown.shape
        clear hown hb hx hat hp hin hstep hX HI hd hXd hXe hok hown6 hb6 hrun hblk hblk2 hblk6 hg6 hsz
        go_wp2_with fail
        subst hwx
        go_region_held3 (fun W => W.cell? ⟨wr.heap.size, 0, none⟩ = some (.int .i64 f) ∧ W.cell? ⟨wr.heap.size, 3, none⟩ = some (.int .i64 s))
          (first | with_reducible exact ⟨r0, r3⟩ | with_reducible exact ⟨q0, q3⟩ | with_reducible exact ⟨p0, p3⟩ | exact ⟨q0, q3⟩ | exact ⟨p0, p3⟩)
          (first
            | (go_at_call 15; refine (HD.out _).mono ?_; rintro e w4 ⟨rfl, rfl⟩)
            | (refine step_append_runL rfl (.tmp 16) (.tmp 26) _ _ rfl _ _ (by rfl) (by rfl) HRUN.out ?_))
        go_wp2
        go_roundw
        case rel => exact ⟨j + 1, by omega, by go_num, HE⟩
        case measure => simp [intOf]; omega
    · obtain rfl : j = N := by omega
      have HE := Lib.hid (show LOwn wr w.heap.size _ (balL L) ∧ Below w.heap.size w wr from ⟨by have h1 := HI.out.1; rw [List.take_of_length_le (by rw [← HNN.out]; exact Nat.le_refl _)] at h1; exact h1.base_le HB1.out.size, HB1.out.trans (HI.out.2.mono HB1.out.size)⟩)
      clear HI
      go_wp2
      go_ret
      exact ⟨_, rfl, HE.out⟩
end
end Go.Proofs.Ytccibahlcpkiaaa
