/-
  Contracts of years over a view in memory: a year's state set, Open, Shut. Condition: which number is an int; fewer than 2^63 changes.
-/
import Derived.Test.YtbhjmplhmoikbaaGreatYrA
namespace Go.Proofs.YtbhjmplhmoikbaaGreat
open Go.RowKit Go.Maps
set_option maxRecDepth 100000
set_option linter.unusedVariables false

theorem putE_year (n x : Int) : putE (keyL 89 [n]) (packN 8 [x]) = 0 := by
  have h8 : (packN 8 [x]).length = 8 := by rw [packN_length]; rfl
  unfold putE
  rw [yKeyLen, h8]
  exact if_neg (by rintro (a | a | a) <;> omega)
section
variable {w w' : World} {X : Nat → Prop} {v m c : Nat} {S : VS}
set_option maxHeartbeats 3200000 in
theorem bSet_any (h : ViewAt w X v m c S) (n s : Int) (hn : -9223372036854775808 ≤ n ∧ n ≤ 9223372036854775807) (hs : -9223372036854775808 ≤ s ∧ s ≤ 9223372036854775807) (hC : S.C.length < maxLen) :
    Calls Tryz.prog 48 #[.agg #[.pointer (some ⟨v, 0, none⟩), .int .i64 n], .int .i64 s] w fun e w' => e = .returned (.int .i64 0) ∧ ViewAt w' X v m c (S.put (yKey n) (packN 8 [s])) ∧ Touch (fun k => k = c) w w' := by
  obtain ⟨w1, hw1⟩ : ∃ w1, w1 = w.alloc (.cells #[.pointer (some ⟨v, 0, none⟩), .int .i64 n] 84) := ⟨_, rfl⟩
  have hb1 : Below w.heap.size w w1 := by rw [hw1]; exact (Below.refl _ _).alloc (Nat.le_refl _) _
  have c0 : w1.cell? ⟨w.heap.size, 0, none⟩ = some (.pointer (some ⟨v, 0, none⟩)) := by rw [hw1]; exact cell_of_row _ _ 0 _ _ (0, 0) (heap_alloc_new w _)
  have c1 : w1.cell? ⟨w.heap.size, 1, none⟩ = some (.int .i64 n) := by rw [hw1]; exact cell_of_row _ _ 1 _ _ (0, 0) (heap_alloc_new w _)
  have hlt : w.heap.size < w1.heap.size := by rw [hw1]; simp
  have C5 : Hid (∀ W, Below w1.heap.size w1 W → W.cell? ⟨w.heap.size, 0, none⟩ = some (.pointer (some ⟨v, 0, none⟩)) ∧ W.cell? ⟨w.heap.size, 1, none⟩ = some (.int .i64 n)) := Lib.hid fun W hW => ⟨(hW.cell (p := ⟨w.heap.size, 0, none⟩) hlt).trans c0, (hW.cell (p := ⟨w.heap.size, 1, none⟩) hlt).trans c1⟩
  have HV := Lib.hid (h.below hb1)
  have hcw : w.heap.size ≠ c := Nat.ne_of_gt (h.lt c h.xc)
  have HR : Hid (∀ W, Below (w1.drew.alloc (.cells #[.int .i64 s] 3 (0, 0))).heap.size (w1.drew.alloc (.cells #[.int .i64 s] 3 (0, 0))) W → W.heap[w1.heap.size]? = some (.cells #[.int .i64 s] 3 (0, 0))) := Lib.hid fun W hW => (hW.block _ (by show w1.heap.size < (w1.drew.alloc _).heap.size; simp)).trans (heap_alloc_new w1.drew _)
  have hP : Below w1.heap.size w1 w1.drew := (Below.refl _ _).drew
  have c5 := C5.out _ hP
  have hv : ViewAt w1.drew X v m c S := HV.out.below hP
  have HB := Lib.hid hb1
  clear c0 c1 h hb1
  go_enter Tryz.func48, Tryz.ntmps48
  go_wp2_with fail
  rw [← hw1]
  clear hw1 HV
  go_region_held3 (fun W => W.cell? ⟨w.heap.size, 0, none⟩ = some (.pointer (some ⟨v, 0, none⟩)) ∧ W.cell? ⟨w.heap.size, 1, none⟩ = some (.int .i64 n))
    (first | with_reducible exact c5 | exact c5 | exact C5.out _ (hP.alloc hP.size _))
    (first
      | (go_at_call 70; refine Calls.mono (bKey_any _ n _ hn) ?_; rintro e wk ⟨A, j, rfl, hj, hr, hbk⟩; (first | have hv := hv.below hbk | have hv := (hv.alloc _).below hbk); (first | have hP := hP.trans (hbk.mono hP.size) | have hP := (hP.alloc hP.size _).trans (hbk.mono (hP.alloc hP.size _).size)); have c5 := C5.out _ hP; have hpB := packOne_any s (wk.alloc (.cells #[.int .i64 s] 3 (0, 0))) wk.heap.size 3 (heap_alloc_new _ _) hs; (first | have hpC := packOne_any s wk w1.heap.size 3 (HR.out _ hbk) hs | skip))
      | (go_at_call 71; (first | with_reducible refine Calls.mono hpB ?_ | with_reducible refine Calls.mono hpC ?_); rintro e wp ⟨A2, j2, rfl, hj2, hr2, hbp⟩; (first | (have hr := (hr.below hbp).more hbp.size; have hv := hv.below hbp; have hP := hP.trans (hbp.mono hP.size)) | (have hba := (Below.refl wk.heap.size wk).alloc (Nat.le_refl _) (.cells #[.int .i64 s] 3 (0, 0)); have hr := (hr.below hba).more hba.size; have hr := (hr.below hbp).more hbp.size; have hv := (hv.alloc (.cells #[.int .i64 s] 3 (0, 0))).below hbp; have hP := (hP.alloc hP.size (.cells #[.int .i64 s] 3 (0, 0))).trans (hbp.mono (hP.alloc hP.size (.cells #[.int .i64 s] 3 (0, 0))).size))); have c5 := C5.out _ hP; have hput := vPut_any (k := j) (k' := j2) hv hr (Nat.le_refl _) (by decide) hr2 (Nat.le_refl _) (by decide) hC; rw [putE_year] at hput)
      | (go_at_call 16; refine Calls.mono hput ?_; rintro e wq ⟨rfl, hvq, htq⟩; have c5 : wq.cell? ⟨w.heap.size, 0, none⟩ = some (.pointer (some ⟨v, 0, none⟩)) ∧ wq.cell? ⟨w.heap.size, 1, none⟩ = some (.int .i64 n) := ⟨(World.cell?_of_block (a := ⟨w.heap.size, 0, none⟩) (htq.block w.heap.size (Nat.lt_of_lt_of_le hlt hP.size) hcw)).trans c5.1, (World.cell?_of_block (a := ⟨w.heap.size, 1, none⟩) (htq.block w.heap.size (Nat.lt_of_lt_of_le hlt hP.size) hcw)).trans c5.2⟩))
  all_goals have eS : S.putR (keyL 89 [n]) (packN 8 [s]) = S.put (yKey n) (packN 8 [s]) := by unfold VS.putR; rw [putE_year]; rfl
  all_goals rw [eS] at hvq
  all_goals have HE := Lib.hid (And.intro hvq ((Touch.of_below (HB.out.trans (hP.mono HB.out.size))).trans htq))
  all_goals clear hvq htq hput hr hr2 hbk hbp hv hP c5 C5 HR HB hpB
  all_goals try clear hba
  all_goals try clear hpC
  all_goals go_wp2_with fail
  all_goals go_ret
  all_goals exact ⟨rfl, HE.out⟩
set_option maxHeartbeats 1600000 in
theorem yOpen_any (h : ViewAt w X v m c S) (n : Int) (hn : -9223372036854775808 ≤ n ∧ n ≤ 9223372036854775807) (hC : S.C.length < maxLen) :
    Calls Tryz.prog 18 #[.pointer (some ⟨v, 0, none⟩), .int .i64 n] w fun e w' => e = .returned (.int .i64 (openE (S.now (yKey n)) n)) ∧ ViewAt w' X v m c (S.open_ n) ∧ Touch (fun k => k = c) w w' := by
  have HR := Lib.hid (yRight_any n w)
  have HSAME := Lib.hid (show ∀ W, Below w.heap.size w W → ViewAt W X v m c S ∧ Touch (fun k => k = c) w W from fun W hb => ⟨h.below hb, Touch.of_below hb⟩)
  cases hy : yearB n with
  | false =>
    have e1 : openE (S.now (yKey n)) n = 1 := by unfold openE; rw [hy]; rfl
    have e2 : S.open_ n = S := by unfold VS.open_; rw [e1]; rfl
    rw [hy] at HR
    rw [e1, e2]
    clear h e1 e2 hy
    go_enter Tryz.func18, Tryz.ntmps18
    go_wp2_with fail
    refine HR.out.mono ?_
    rintro e w1 ⟨rfl, rfl⟩
    go_wp2_with fail
    go_ret
    exact ⟨rfl, HSAME.out _ (Below.refl _ _)⟩
  | true =>
  rw [hy] at HR
  obtain ⟨w1, hw1⟩ : ∃ w1, w1 = w.alloc (.cells #[.pointer (some ⟨v, 0, none⟩), .int .i64 n] 84) := ⟨_, rfl⟩
  have hb1 : Below w.heap.size w w1 := by rw [hw1]; exact (Below.refl _ _).alloc (Nat.le_refl _) _
  have hz : w1.heap.size = w.heap.size + 1 := by rw [hw1]; simp
  have c0 : ∀ W, Below w1.heap.size w1 W → W.cell? ⟨w.heap.size, 0, none⟩ = some (.pointer (some ⟨v, 0, none⟩)) ∧ W.cell? ⟨w.heap.size, 1, none⟩ = some (.int .i64 n) := fun W hW => ⟨(hW.cell (p := ⟨w.heap.size, 0, none⟩) (by show w.heap.size < w1.heap.size; omega)).trans (by rw [hw1]; exact cell_of_row _ _ 0 _ _ (0, 0) (heap_alloc_new w _)), (hW.cell (p := ⟨w.heap.size, 1, none⟩) (by show w.heap.size < w1.heap.size; omega)).trans (by rw [hw1]; exact cell_of_row _ _ 1 _ _ (0, 0) (heap_alloc_new w _))⟩
  have HC0 := Lib.hid c0
  obtain ⟨d0, d1⟩ := c0 w1 (Below.refl _ _)
  have HS := Lib.hid (bState_any (h.below hb1) n hn)
  have h3 := stV_three (S.now (yKey n))
  have HB1 := Lib.hid hb1
  have HSET := Lib.hid (show ∀ W, Below w.heap.size w W → Calls Tryz.prog 48 #[.agg #[.pointer (some ⟨v, 0, none⟩), .int .i64 n], .int .i64 1] W fun e w' => e = .returned (.int .i64 0) ∧ ViewAt w' X v m c (S.put (yKey n) (packN 8 [1])) ∧ Touch (fun k => k = c) W w' from fun W hb => bSet_any (h.below hb) n 1 hn (by omega) hC)
  unfold openE VS.open_ openE
  rw [hy, if_pos rfl]
  generalize stV (S.now (yKey n)) = k at HS h3 ⊢
  by_cases hk : k = 0
  · subst hk
    rw [if_pos rfl, if_pos rfl]
    clear h hb1 hz hy h3 c0
    go_enter Tryz.func18, Tryz.ntmps18
    go_wp2_with fail
    refine HR.out.mono ?_
    rintro e w2 ⟨rfl, rfl⟩
    go_wp2_with fail
    rw [← hw1]
    go_wp2_with fail
    refine HS.out.mono ?_
    rintro e w3 ⟨rfl, hb3⟩
    obtain ⟨q0, q1⟩ := HC0.out _ hb3
    have hb03 := HB1.out.trans (hb3.mono HB1.out.size)
    have HQ := Lib.hid (HSET.out _ hb03)
    have HB3 := Lib.hid hb03
    clear hb3 hb03 hw1 d0 d1 HS HSET
    go_wp2_with fail
    refine HQ.out.mono ?_
    rintro e w4 ⟨rfl, hv4, ht4⟩
    have HE := Lib.hid (And.intro hv4 ((Touch.of_below HB3.out).trans ht4))
    clear hv4 ht4 HQ q0 q1
    go_wp2_with fail
    go_ret
    exact ⟨rfl, HE.out⟩
  · rw [if_neg hk, if_neg (by decide)]
    have hk2 : (k != 0) = true := by simp [hk]
    clear h hb1 hz hy h3 c0 hk
    go_enter Tryz.func18, Tryz.ntmps18
    go_wp2_with fail
    refine HR.out.mono ?_
    rintro e w2 ⟨rfl, rfl⟩
    go_wp2_with fail
    rw [← hw1]
    go_wp2_with fail
    refine HS.out.mono ?_
    rintro e w3 ⟨rfl, hb3⟩
    have HE := Lib.hid (HB1.out.trans (hb3.mono HB1.out.size))
    clear hb3 hw1 d0 d1 HS HSET
    go_wp2_with fail
    go_ret
    exact ⟨rfl, HSAME.out _ HE.out⟩
set_option maxHeartbeats 1600000 in
theorem yShut_any (h : ViewAt w X v m c S) (n : Int) (hn : -9223372036854775808 ≤ n ∧ n ≤ 9223372036854775807) (hC : S.C.length < maxLen) :
    Calls Tryz.prog 20 #[.pointer (some ⟨v, 0, none⟩), .int .i64 n] w fun e w' => e = .returned (.int .i64 (chkE (stV (S.now (yKey n))))) ∧ ViewAt w' X v m c (S.shut n) ∧ Touch (fun k => k = c) w w' := by
  have HK := Lib.hid (yCheck_any h n hn)
  have h3 := stV_three (S.now (yKey n))
  have HSAME := Lib.hid (show ∀ W, Below w.heap.size w W → ViewAt W X v m c S ∧ Touch (fun k => k = c) w W from fun W hb => ⟨h.below hb, Touch.of_below hb⟩)
  have HSET := Lib.hid (show ∀ W, Below w.heap.size w W → Calls Tryz.prog 48 #[.agg #[.pointer (some ⟨v, 0, none⟩), .int .i64 n], .int .i64 2] W fun e w' => e = .returned (.int .i64 0) ∧ ViewAt w' X v m c (S.put (yKey n) (packN 8 [2])) ∧ Touch (fun k => k = c) W w' from fun W hb => bSet_any (h.below hb) n 2 hn (by omega) hC)
  unfold VS.shut
  generalize stV (S.now (yKey n)) = k at HK h3 ⊢
  clear h
  by_cases hk : k = 1
  · subst hk
    rw [if_pos rfl]
    clear h3
    go_enter Tryz.func20, Tryz.ntmps20
    go_wp2_with fail
    refine HK.out.mono ?_
    rintro e w3 ⟨rfl, hb3⟩
    rw [show chkE 1 = 0 from rfl]
    have HQ := Lib.hid (HSET.out _ hb3)
    have HB3 := Lib.hid hb3
    clear hb3 HSET HK
    go_wp2_with fail
    refine HQ.out.mono ?_
    rintro e w4 ⟨rfl, hv4, ht4⟩
    have HE := Lib.hid (And.intro hv4 ((Touch.of_below HB3.out).trans ht4))
    clear hv4 ht4 HQ
    go_wp2_with fail
    go_ret
    exact ⟨rfl, HE.out⟩
  · rw [if_neg hk]
    have hne : (chkE k != 0) = true := by
      rcases h3 with rfl | rfl | rfl
      · rfl
      · exact absurd rfl hk
      · rfl
    generalize chkE k = ce at HK hne ⊢
    clear h3 hk HSET
    go_enter Tryz.func20, Tryz.ntmps20
    go_wp2_with fail
    refine HK.out.mono ?_
    rintro e w3 ⟨rfl, hb3⟩
    have HE := Lib.hid hb3
    clear hb3 HK
    go_wp2_with fail
    go_ret
    exact ⟨rfl, HSAME.out _ HE.out⟩
end
end Go.Proofs.YtbhjmplhmoikbaaGreat
