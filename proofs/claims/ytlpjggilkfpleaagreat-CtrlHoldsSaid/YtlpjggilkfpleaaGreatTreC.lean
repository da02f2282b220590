/-
  Contracts of tree over a view in memory: the path above a node, the nodes below one. Conditions: which numbers are ints; what a scan comes to.
-/
import Derived.Test.YtlpjggilkfpleaaGreatTreB
import Derived.Test.YtlpjggilkfpleaaGreatNodD
import Derived.WalkMore
namespace Go.Proofs.YtlpjggilkfpleaaGreat
open Go.RowKit Go.Maps
set_option maxRecDepth 100000
set_option linter.unusedVariables false

def sliceLen : Value → Nat
  | .slice _ n _ => n
  | _ => 0
theorem pathN_none {S : VS} {y i : Int} {k : Nat} (h : nodeAt S y i = none) : pathN S y (k + 1) i = [] := by unfold pathN; rw [h]
theorem pathN_zero {S : VS} {y i : Int} {k : Nat} {n : Nd} (h : nodeAt S y i = some n) (h0 : n.p = 0) : pathN S y (k + 1) i = [n] := by unfold pathN; rw [h]; simp only [h0, if_true]
theorem pathN_more {S : VS} {y i : Int} {k : Nat} {n : Nd} (h : nodeAt S y i = some n) (h0 : n.p ≠ 0) : pathN S y (k + 1) i = n :: pathN S y k n.p := by
  conv => lhs; unfold pathN
  rw [h]
  simp only [h0, if_false]
section
variable {w w' : World} {X : Nat → Prop} {v m c : Nat} {S : VS}
set_option maxHeartbeats 6400000 in
theorem budgetPath_any (h : ViewAt w X v m c S) (y i : Int) (hy : Nd64 y) (hi : Nd64 i) :
    Calls Tryz.prog 85 #[.agg #[.pointer (some ⟨v, 0, none⟩), .int .i64 y], .int .i64 i] w fun e w' => ∃ u, e = .returned u ∧ NodesR w w' u (pathN S y 8 i) := by
  obtain ⟨w1, hw1⟩ : ∃ w1, w1 = w.alloc (.cells #[.pointer (some ⟨v, 0, none⟩), .int .i64 y] 91) := ⟨_, rfl⟩
  have hb1 : Below w.heap.size w w1 := by rw [hw1]; exact (Below.refl _ _).alloc (Nat.le_refl _) _
  have hs1 : w1.heap.size = w.heap.size + 1 := by rw [hw1]; simp
  have c0 : w1.cell? ⟨w.heap.size, 0, none⟩ = some (.pointer (some ⟨v, 0, none⟩)) := by rw [hw1]; exact cell_of_row _ _ 0 _ _ (0, 0) (heap_alloc_new w _)
  have c1 : w1.cell? ⟨w.heap.size, 1, none⟩ = some (.int .i64 y) := by rw [hw1]; exact cell_of_row _ _ 1 _ _ (0, 0) (heap_alloc_new w _)
  have HB := Lib.hid hb1
  have HC := Lib.hid (show ∀ W, Below w1.heap.size w1 W → W.cell? ⟨w.heap.size, 0, none⟩ = some (.pointer (some ⟨v, 0, none⟩)) ∧ W.cell? ⟨w.heap.size, 1, none⟩ = some (.int .i64 y) from fun W hW =>
    ⟨(hW.cell (p := ⟨w.heap.size, 0, none⟩) (by show w.heap.size < w1.heap.size; omega)).trans c0, (hW.cell (p := ⟨w.heap.size, 1, none⟩) (by show w.heap.size < w1.heap.size; omega)).trans c1⟩)
  have HV := Lib.hid (show ∀ W, Below w1.heap.size w1 W → ViewAt W X v m c S from fun W hW => h.below (hb1.trans (hW.mono hb1.size)))
  have HY := Lib.hid hy
  have HS1 := Lib.hid hs1
  have HI := Lib.hid hi
  clear hb1 h hs1 c0 c1 hy hi
  go_enter Tryz.func85, Tryz.ntmps85
  go_wp2_with fail
  rw [← hw1]
  clear hw1
  go_step3
  go_wp2_with fail
  go_step3
  go_wp2_with fail
  go_loopw [1, 5] (fun iv u wr => ∃ (j : Int) (l : List Nd) (A : Option Addr) (k : Nat), iv = .int .i64 j ∧ u = .slice A l.length k ∧ l.length ≤ 8 ∧ Hid (NdE.Own 23 wr w1.heap.size (.slice A l.length k) l ∧ (∀ x ∈ l, NdOk x) ∧ Nd64 j ∧ pathN S y 8 i = l ++ pathN S y (8 - l.length) j) ∧ Hid (Below w1.heap.size w1 wr)) (fun _ u _ => 8 - sliceLen u)
  case atStart => exact ⟨i, [], none, 0, rfl, rfl, by simp, Lib.hid ⟨Enc.Own.start _ _ _, (fun x hx => by cases hx), HI.out, rfl⟩, Lib.hid (Below.refl _ _)⟩
  case round =>
    obtain ⟨j, l, A, k, rfl, rfl, hl8, hown, hbw⟩ := hrel
    obtain ⟨ho, hlok, hj, hp⟩ := hown.out
    by_cases hlt : l.length < 8
    · have hlt' : (l.length : Int) < 8 := by omega
      obtain ⟨d0, d1⟩ := HC.out wr hbw.out
      obtain ⟨k8, hk8⟩ : ∃ k8, 8 - l.length = k8 + 1 := ⟨7 - l.length, by omega⟩
      have HG := Lib.hid (treeNode_any (HV.out wr hbw.out) y j HY.out hj)
      rw [hk8] at hp
      have HPN := Lib.hid (fun (q : nodeAt S y j = none) => show pathN S y 8 i = l from by rw [hp, pathN_none q, List.append_nil])
      have HPZ := Lib.hid (fun (n : Nd) (q : nodeAt S y j = some n) (q0 : n.p = 0) => show pathN S y 8 i = l ++ [n] from by rw [hp, pathN_zero q q0])
      have HPM := Lib.hid (fun (n : Nd) (q : nodeAt S y j = some n) (q0 : n.p ≠ 0) => show pathN S y 8 i = (l ++ [n]) ++ pathN S y (8 - (l ++ [n]).length) n.p from by
        rw [hp, pathN_more q q0, List.append_assoc, List.length_append, List.length_singleton, show 8 - (l.length + 1) = k8 by omega]; rfl)
      have HOW := Lib.hid (And.intro ho hlok)
      have hBW := hbw.out
      generalize nodeAt S y j = o at HG HPN HPZ HPM
      clear ho hlok hp hown hk8
      go_wp2_with fail
      refine HG.out.mono ?_
      rintro e w5 ⟨rfl, hno, hb5⟩
      have ha5 := hBW.trans (hb5.mono hBW.size)
      have ho5 := HOW.out.1.below hb5
      cases o with
      | none =>
        have hX : Below w5.heap.size w5 (w5.alloc (.cells #[.int .i64 0, .int .i64 0, .int .i64 0, .int .i64 0, .int .i64 0, .bool false, .int .i64 0, .int .i64 0, .int .i64 0, .int .i64 0, .int .i64 0, .int .i64 0] 23 (0, 0))) := (Below.refl _ _).alloc (Nat.le_refl _) _
        have HE := Lib.hid (show NodesR w (w5.alloc (.cells #[.int .i64 0, .int .i64 0, .int .i64 0, .int .i64 0, .int .i64 0, .bool false, .int .i64 0, .int .i64 0, .int .i64 0, .int .i64 0, .int .i64 0, .int .i64 0] 23 (0, 0))) (.slice A l.length k) (pathN S y 8 i) from by
          rw [HPN.out rfl]
          exact ⟨(ho5.below hX).base_le (by have := HS1.out; omega), HOW.out.2, HB.out.trans ((ha5.trans (hX.mono ha5.size)).mono HB.out.size)⟩)
        clear hX ha5 ho5 HPN HPZ HPM HG hno hb5 hbw hBW
        simp only [ndW, ndO, Option.getD_none, ndNil]
        go_wp2_with fail
        rw [Exit.noGoto_ret]
        go_ret
        exact ⟨_, rfl, HE.out⟩
      | some n =>
        have hok := hno n rfl
        have hcl : NdOk n := hok
        obtain ⟨a0, a1, a2, a3, a4, a5, a6, a7, a8, a9, a10, a11⟩ := n
        have hX : Below w5.heap.size w5 (w5.alloc (.cells #[.int .i64 a0, .int .i64 a1, .int .i64 a2, .int .i64 a3, .int .i64 a4, .bool a5, .int .i64 a6, .int .i64 a7, .int .i64 a8, .int .i64 a9, .int .i64 a10, .int .i64 a11] 23 (0, 0))) := (Below.refl _ _).alloc (Nat.le_refl _) _
        obtain ⟨wx, hwx⟩ : ∃ wx, wx = w5.alloc (.cells #[.int .i64 a0, .int .i64 a1, .int .i64 a2, .int .i64 a3, .int .i64 a4, .bool a5, .int .i64 a6, .int .i64 a7, .int .i64 a8, .int .i64 a9, .int .i64 a10, .int .i64 a11] 23 (0, 0)) := ⟨_, rfl⟩
        have hblk : wx.heap[w5.heap.size]? = some (.cells #[.int .i64 a0, .int .i64 a1, .int .i64 a2, .int .i64 a3, .int .i64 a4, .bool a5, .int .i64 a6, .int .i64 a7, .int .i64 a8, .int .i64 a9, .int .i64 a10, .int .i64 a11] 23 (0, 0)) := by rw [hwx]; exact heap_alloc_new w5 _
        have hsz : wx.heap.size = w5.heap.size + 1 := by rw [hwx]; simp
        rw [← hwx] at hX
        obtain ⟨r0, r1, r2, r3, r4, r5, r6, r7, r8, r9, r10, r11⟩ := node_cells hblk
        have hY : Below wx.heap.size wx (wx.alloc (.cells #[.int .i64 a0, .int .i64 a1, .int .i64 a2, .int .i64 a3, .int .i64 a4, .bool a5, .int .i64 a6, .int .i64 a7, .int .i64 a8, .int .i64 a9, .int .i64 a10, .int .i64 a11] 23 (0, 0))) := (Below.refl _ _).alloc (Nat.le_refl _) _
        have hXY := hX.trans (hY.mono hX.size)
        obtain ⟨v', w6, hrun, hown6, hb6, hg, hgr⟩ := (ho5.below hXY).append1 NdT (x := ⟨a0, a1, a2, a3, a4, a5, a6, a7, a8, a9, a10, a11⟩) (heap_alloc_new wx _) rfl hok (by omega) (Nat.le_trans ha5.size hXY.size) 29
        rw [hsz] at hrun
        obtain ⟨A6, k6, rfl, hk6⟩ := hown6.shape
        have hlen6 : (l ++ [(⟨a0, a1, a2, a3, a4, a5, a6, a7, a8, a9, a10, a11⟩ : Nd)]).length = l.length + 1 := by rw [List.length_append]; rfl
        rw [hlen6] at hrun hown6
        have HBX := Lib.hid ((ha5.trans (hXY.mono ha5.size)).trans hb6)
        have hcell2 : w6.cell? ⟨w5.heap.size, 2, none⟩ = some (.int .i64 a2) := by
          have hno : (Value.slice A l.length k).ownBlock ≠ some w5.heap.size := fun q => Nat.lt_irrefl _ ((ho5.at_ _ q).2)
          have hb := (hg.block w5.heap.size (by show w5.heap.size < (wx.alloc _).heap.size; have := hY.size; omega) (fun q => hno q.symm)).trans (hY.block _ (by omega))
          exact (World.cell?_of_block (a := ⟨w5.heap.size, 2, none⟩) hb).trans r2
        have hl' : ∀ x ∈ l ++ [(⟨a0, a1, a2, a3, a4, a5, a6, a7, a8, a9, a10, a11⟩ : Nd)], NdOk x := fun x hx => by
          rcases List.mem_append.1 hx with hx | hx
          · exact HOW.out.2 x hx
          · obtain rfl := List.mem_singleton.1 hx
            exact hok
        have HL' := Lib.hid hl'
        have HO6 := Lib.hid hown6
        have HA2 := Lib.hid (show Nd64 a2 from hcl _ (by simp))
        by_cases h0 : a2 = 0
        · have h0' : (a2 == 0) = true := by simp [h0]
          have HE := Lib.hid (show NodesR w w6 (.slice A6 (l.length + 1) k6) (pathN S y 8 i) from by
            rw [HPZ.out _ rfl h0]
            have q := HO6.out
            exact ⟨q.base_le (by have := HS1.out; omega), HL'.out, HB.out.trans (HBX.out.mono HB.out.size)⟩)
          have HRUN := Lib.hid hrun
          subst hwx
          clear hX hY hXY ha5 ho5 HPN HPZ HPM HG hno hb5 hbw hBW hrun hown6 hb6 hblk hok hcl hsz hl' hcell2 hgr hk6 hlen6 h0
          simp only [ndW, ndO, Option.getD_some]
          go_wp2_with (at_builtin; refine Lib.wpList_append_run _ rfl _ _ _ _ rfl _ _ rfl rfl _ _ HRUN.out ?_)
          rw [Exit.noGoto_ret]
          go_ret
          exact ⟨_, rfl, HE.out⟩
        · have h0' : (a2 == 0) = false := by simp [h0]
          have HE := Lib.hid (show NdE.Own 23 w6 w1.heap.size (.slice A6 (l ++ [(⟨a0, a1, a2, a3, a4, a5, a6, a7, a8, a9, a10, a11⟩ : Nd)]).length k6) (l ++ [⟨a0, a1, a2, a3, a4, a5, a6, a7, a8, a9, a10, a11⟩]) ∧ (∀ x ∈ l ++ [(⟨a0, a1, a2, a3, a4, a5, a6, a7, a8, a9, a10, a11⟩ : Nd)], NdOk x) ∧ Nd64 a2 ∧ pathN S y 8 i = (l ++ [⟨a0, a1, a2, a3, a4, a5, a6, a7, a8, a9, a10, a11⟩]) ++ pathN S y (8 - (l ++ [(⟨a0, a1, a2, a3, a4, a5, a6, a7, a8, a9, a10, a11⟩ : Nd)]).length) a2 from
            ⟨by rw [hlen6]; exact HO6.out, HL'.out, HA2.out, HPM.out _ rfl h0⟩)
          have HLEN := Lib.hid hlen6
          have HRUN := Lib.hid hrun
          subst hwx
          clear hX hY hXY ha5 ho5 HPN HPZ HPM HG hno hb5 hbw hBW hrun hown6 hb6 hblk hok hcl hsz hl' hgr hk6 hlen6 h0
          simp only [ndW, ndO, Option.getD_some]
          go_wp2_with (at_builtin; refine Lib.wpList_append_run _ rfl _ _ _ _ rfl _ _ rfl rfl _ _ HRUN.out ?_)
          go_roundw
          case rel => exact ⟨a2, _, A6, k6, rfl, by rw [HLEN.out], by rw [HLEN.out]; omega, HE, HBX⟩
          case measure => simp [sliceLen]; omega
    · have hl : l.length = 8 := by omega
      have HE := Lib.hid (show NodesR w wr (.slice A l.length k) (pathN S y 8 i) from by
        rw [hp, hl]
        show NodesR _ _ _ (l ++ pathN S y 0 j)
        unfold pathN
        rw [List.append_nil, ← hl]
        exact ⟨ho.base_le (by have := HS1.out; omega), hlok, HB.out.trans (hbw.out.mono HB.out.size)⟩)
      clear ho hlok hp hown
      go_wp2
      rw [Exit.noGoto_ret]
      go_ret
      exact ⟨_, rfl, HE.out⟩
set_option maxHeartbeats 800000 in
theorem treePath_any (h : ViewAt w X v m c S) (y i : Int) (hy : Nd64 y) (hi : Nd64 i) :
    Calls Tryz.prog 44 #[.pointer (some ⟨v, 0, none⟩), .int .i64 y, .int .i64 i] w fun e w' => ∃ u, e = .returned u ∧ NodesR w w' u (pathN S y 8 i) := by
  have HL := Lib.hid (budgetPath_any h y i hy hi)
  generalize pathN S y 8 i = o at HL ⊢
  clear h
  go_enter Tryz.func44, Tryz.ntmps44
  go_wp2_with fail
  refine HL.out.mono ?_
  rintro e w2 ⟨u, rfl, h2⟩
  have HE := Lib.hid h2
  clear h2 HL
  go_wp2_with fail
  go_ret
  exact ⟨_, rfl, HE.out⟩
theorem kids_filter (l : List Nd) (i : Int) : (l.filter fun x => !(!(x.p == i))) = l.filter fun x => x.p == i := by
  congr 1
  funext x
  simp
end
end Go.Proofs.YtlpjggilkfpleaaGreat
