/-
  Contracts of bal over a view in memory: a balance set, Add. Condition: which numbers are ints; fewer than 2^63 changes.
-/
import Derived.Test.YtilhcchnlbdlhaaGreatBalA
namespace Go.Proofs.YtilhcchnlbdlhaaGreat
open Go.RowKit Go.Maps
set_option maxRecDepth 100000
set_option linter.unusedVariables false

theorem putE_bal (y f o x : Int) : putE (keyL 66 [y, f, o]) (packN 8 [x]) = 0 := by
  have h8 : (packN 8 [x]).length = 8 := by rw [packN_length]; rfl
  unfold putE
  rw [bKyLen, h8]
  exact if_neg (by rintro (a | a | a) <;> omega)
section
variable {w w' : World} {X : Nat → Prop} {v m c : Nat} {S : VS}
set_option maxHeartbeats 3200000 in
theorem accSet_any (h : ViewAt w X v m c S) (y f o s : Int) (hy : I64 y) (hf : I64 f) (ho : I64 o) (hs : I64 s) (hC : S.C.length < maxLen) :
    Calls Tryz.prog 106 #[.agg #[.pointer (some ⟨v, 0, none⟩), .int .i64 y, .int .i64 f, .int .i64 o], .int .i64 s] w fun e w' => e = .returned (.int .i64 0) ∧ ViewAt w' X v m c (S.setB (bKy y f o) s) ∧ Touch (fun k => k = c) w w' := by
  obtain ⟨w1, hw1⟩ : ∃ w1, w1 = w.alloc (.cells #[.pointer (some ⟨v, 0, none⟩), .int .i64 y, .int .i64 f, .int .i64 o] 158) := ⟨_, rfl⟩
  have hb1 : Below w.heap.size w w1 := by rw [hw1]; exact (Below.refl _ _).alloc (Nat.le_refl _) _
  have hA : AccAt w1 w.heap.size v y f o := by rw [hw1]; exact AccAt.made w _ v y f o
  have hlt : w.heap.size < w1.heap.size := by rw [hw1]; simp
  have C5 : Hid (∀ W, Below w1.heap.size w1 W → AccAt W w.heap.size v y f o) := Lib.hid fun W hW => hA.below hW hlt
  have HV := Lib.hid (h.below hb1)
  have hcw : w.heap.size ≠ c := Nat.ne_of_gt (h.lt c h.xc)
  have hP : Below w1.heap.size w1 w1.drew := (Below.refl _ _).drew
  have c5 : w1.drew.cell? ⟨w.heap.size, 0, none⟩ = some (.pointer (some ⟨v, 0, none⟩)) ∧ w1.drew.cell? ⟨w.heap.size, 1, none⟩ = some (.int .i64 y) ∧ w1.drew.cell? ⟨w.heap.size, 2, none⟩ = some (.int .i64 f) ∧ w1.drew.cell? ⟨w.heap.size, 3, none⟩ = some (.int .i64 o) := C5.out _ hP
  have hv : ViewAt w1.drew X v m c S := HV.out.below hP
  have HB := Lib.hid hb1
  clear h hb1 hA
  by_cases h0 : s = 0
  · subst h0
    have eS : S.setB (bKy y f o) 0 = S.del (bKy y f o) := if_pos rfl
    rw [eS]
    clear eS
    go_enter Tryz.func106, Tryz.ntmps106
    go_wp2_with fail
    rw [← hw1]
    clear hw1 HV
    go_region_held3 (fun W => W.cell? ⟨w.heap.size, 0, none⟩ = some (.pointer (some ⟨v, 0, none⟩)) ∧ W.cell? ⟨w.heap.size, 1, none⟩ = some (.int .i64 y) ∧ W.cell? ⟨w.heap.size, 2, none⟩ = some (.int .i64 f) ∧ W.cell? ⟨w.heap.size, 3, none⟩ = some (.int .i64 o))
      (first | with_reducible exact c5 | exact c5)
      (first
        | (go_at_call 129; refine Calls.mono (accKey_any _ y f o _ hy hf ho) ?_; rintro e wk ⟨A, j, rfl, hj, hr, hbk⟩; have hv := hv.below hbk; have hP := hP.trans (hbk.mono hP.size); have c5 := C5.out _ hP; have hdel := vDelete_any (k := j) hv hr (Nat.le_refl _) (by decide) hC)
        | (go_at_call 130; refine Calls.mono hdel ?_; rintro e wq ⟨rfl, hvq, htq⟩; have c5 := AccAt.block c5 (htq.block w.heap.size (Nat.lt_of_lt_of_le hlt hP.size) hcw)))
    all_goals have HE := Lib.hid (And.intro hvq ((Touch.of_below (HB.out.trans (hP.mono HB.out.size))).trans htq))
    all_goals clear hvq htq hdel hr hbk hv hP c5 C5 HB
    all_goals go_wp2_with fail
    all_goals go_ret
    all_goals exact ⟨rfl, HE.out⟩
  have d0 : (s == 0) = false := by simp [h0]
  have eS : S.setB (bKy y f o) s = S.putR (keyL 66 [y, f, o]) (packN 8 [s]) := by unfold VS.setB VS.putR; rw [if_neg h0, putE_bal]; rfl
  rw [eS]
  have HR : Hid (∀ W, Below (w1.drew.alloc (.cells #[.int .i64 s] 3 (0, 0))).heap.size (w1.drew.alloc (.cells #[.int .i64 s] 3 (0, 0))) W → W.heap[w1.heap.size]? = some (.cells #[.int .i64 s] 3 (0, 0))) := Lib.hid fun W hW => (hW.block _ (by show w1.heap.size < (w1.drew.alloc _).heap.size; simp)).trans (heap_alloc_new w1.drew _)
  clear h0 eS
  go_enter Tryz.func106, Tryz.ntmps106
  go_wp2_with fail
  rw [← hw1]
  clear hw1 HV
  go_region_held3 (fun W => W.cell? ⟨w.heap.size, 0, none⟩ = some (.pointer (some ⟨v, 0, none⟩)) ∧ W.cell? ⟨w.heap.size, 1, none⟩ = some (.int .i64 y) ∧ W.cell? ⟨w.heap.size, 2, none⟩ = some (.int .i64 f) ∧ W.cell? ⟨w.heap.size, 3, none⟩ = some (.int .i64 o))
    (first | with_reducible exact c5 | exact c5 | exact C5.out _ (hP.alloc hP.size _))
    (first
      | (go_at_call 129; refine Calls.mono (accKey_any _ y f o _ hy hf ho) ?_; rintro e wk ⟨A, j, rfl, hj, hr, hbk⟩; (first | have hv := hv.below hbk | have hv := (hv.alloc _).below hbk); (first | have hP := hP.trans (hbk.mono hP.size) | have hP := (hP.alloc hP.size _).trans (hbk.mono (hP.alloc hP.size _).size)); have c5 := C5.out _ hP; have hpB := packOne_any s (wk.alloc (.cells #[.int .i64 s] 3 (0, 0))) wk.heap.size 3 (heap_alloc_new _ _) hs; (first | have hpC := packOne_any s wk w1.heap.size 3 (HR.out _ hbk) hs | skip))
      | (go_at_call 65; (first | with_reducible refine Calls.mono hpB ?_ | with_reducible refine Calls.mono hpC ?_); rintro e wp ⟨A2, j2, rfl, hj2, hr2, hbp⟩; (first | (have hr := (hr.below hbp).more hbp.size; have hv := hv.below hbp; have hP := hP.trans (hbp.mono hP.size)) | (have hba := (Below.refl wk.heap.size wk).alloc (Nat.le_refl _) (.cells #[.int .i64 s] 3 (0, 0)); have hr := (hr.below hba).more hba.size; have hr := (hr.below hbp).more hbp.size; have hv := (hv.alloc (.cells #[.int .i64 s] 3 (0, 0))).below hbp; have hP := (hP.alloc hP.size (.cells #[.int .i64 s] 3 (0, 0))).trans (hbp.mono (hP.alloc hP.size (.cells #[.int .i64 s] 3 (0, 0))).size))); have c5 := C5.out _ hP; have hput := vPut_any (k := j) (k' := j2) hv hr (Nat.le_refl _) (by decide) hr2 (Nat.le_refl _) (by decide) hC; rw [putE_bal] at hput)
      | (go_at_call 17; refine Calls.mono hput ?_; rintro e wq ⟨rfl, hvq, htq⟩; have c5 := AccAt.block c5 (htq.block w.heap.size (Nat.lt_of_lt_of_le hlt hP.size) hcw)))
  all_goals have HE := Lib.hid (And.intro hvq ((Touch.of_below (HB.out.trans (hP.mono HB.out.size))).trans htq))
  all_goals clear hvq htq hput hr hr2 hbk hbp hv hP c5 C5 HR HB hpB
  all_goals try clear hba
  all_goals try clear hpC
  all_goals go_wp2_with fail
  all_goals go_ret
  all_goals exact ⟨rfl, HE.out⟩
theorem amtAdd_in {b a : Int} (h : (amtAddR b a).2 = 0) : I64 (amtAddR b a).1 := by
  obtain ⟨_, _, h3, h4⟩ := amtAdd_yes h
  rw [h4]
  exact ⟨by have := h3.1; omega, by have := h3.2; omega⟩
set_option maxHeartbeats 3200000 in
theorem balAdd_any (h : ViewAt w X v m c S) (y f o n a : Int) (hy : I64 y) (hf : I64 f) (ho : I64 o) (hC : S.C.length < maxLen) :
    Calls Tryz.prog 74 #[.pointer (some ⟨v, 0, none⟩), .int .i64 y, .agg #[.int .i64 f, .int .i64 o, .int .i64 n, .int .i64 a]] w fun e w' => e = .returned (.int .i64 (amtAddR (seqV (S.now (bKy y f o))) a).2) ∧ ViewAt w' X v m c (S.addB (bKy y f o) a) ∧ Touch (fun k => k = c) w w' := by
  obtain ⟨wa, hwa⟩ : ∃ wa, wa = w.alloc (.cells #[.int .i64 f, .int .i64 o, .int .i64 n, .int .i64 a] 30) := ⟨_, rfl⟩
  have hza : wa.heap.size = w.heap.size + 1 := by rw [hwa]; simp
  have hba : Below w.heap.size w wa := by rw [hwa]; exact (Below.refl _ _).alloc (Nat.le_refl _) _
  have l0 : wa.cell? ⟨w.heap.size, 0, none⟩ = some (.int .i64 f) := by rw [hwa]; exact cell_of_row _ _ 0 _ _ (0, 0) (heap_alloc_new w _)
  have l1 : wa.cell? ⟨w.heap.size, 1, none⟩ = some (.int .i64 o) := by rw [hwa]; exact cell_of_row _ _ 1 _ _ (0, 0) (heap_alloc_new w _)
  have l3 : wa.cell? ⟨w.heap.size, 3, none⟩ = some (.int .i64 a) := by rw [hwa]; exact cell_of_row _ _ 3 _ _ (0, 0) (heap_alloc_new w _)
  obtain ⟨w1, hw1⟩ : ∃ w1, w1 = wa.alloc (.cells #[.pointer (some ⟨v, 0, none⟩), .int .i64 y, .int .i64 f, .int .i64 o] 158) := ⟨_, rfl⟩
  have hb01 : Below wa.heap.size wa w1 := by rw [hw1]; exact (Below.refl _ _).alloc (Nat.le_refl _) _
  have hb1 : Below w.heap.size w w1 := hba.trans (hb01.mono hba.size)
  have hz1 : w1.heap.size = wa.heap.size + 1 := by rw [hw1]; simp
  have hA : AccAt w1 wa.heap.size v y f o := by rw [hw1]; exact AccAt.made wa _ v y f o
  have l3' : w1.cell? ⟨w.heap.size, 3, none⟩ = some (.int .i64 a) := (hb01.cell (p := ⟨w.heap.size, 3, none⟩) (by show w.heap.size < wa.heap.size; omega)).trans l3
  obtain ⟨g, hg⟩ : ∃ g, g = w.heap.size + 1 := ⟨_, rfl⟩
  rw [hza, ← hg] at hA
  have C5 : Hid (∀ W, Below w1.heap.size w1 W → AccAt W g v y f o ∧ W.cell? ⟨w.heap.size, 3, none⟩ = some (.int .i64 a)) := Lib.hid fun W hW => ⟨hA.below hW (by omega), (hW.cell (p := ⟨w.heap.size, 3, none⟩) (by show w.heap.size < w1.heap.size; omega)).trans l3'⟩
  have hP : Below w1.heap.size w1 w1.drew := (Below.refl _ _).drew
  have c5 : (w1.drew.cell? ⟨g, 0, none⟩ = some (.pointer (some ⟨v, 0, none⟩)) ∧ w1.drew.cell? ⟨g, 1, none⟩ = some (.int .i64 y) ∧ w1.drew.cell? ⟨g, 2, none⟩ = some (.int .i64 f) ∧ w1.drew.cell? ⟨g, 3, none⟩ = some (.int .i64 o)) ∧ w1.drew.cell? ⟨w.heap.size, 3, none⟩ = some (.int .i64 a) := C5.out _ hP
  have HV := Lib.hid (show ∀ W, Below w1.heap.size w1 W → ViewAt W X v m c S from fun W hW => h.below (hb1.trans (hW.mono hb1.size)))
  have HB := Lib.hid hb1
  have hbal := accBal_any (HV.out _ hP) y f o hy hf ho
  have HSET := Lib.hid (show ∀ W s, Below w1.heap.size w1 W → I64 s → Calls Tryz.prog 106 #[.agg #[.pointer (some ⟨v, 0, none⟩), .int .i64 y, .int .i64 f, .int .i64 o], .int .i64 s] W fun e w' => e = .returned (.int .i64 0) ∧ ViewAt w' X v m c (S.setB (bKy y f o) s) ∧ Touch (fun k => k = c) W w' from fun W s hW hs => accSet_any (HV.out _ hW) y f o s hy hf ho hs hC)
  unfold VS.addB
  generalize seqV (S.now (bKy y f o)) = b at hbal ⊢
  have hamt := amtAdd_any b a
  have hin := @amtAdd_in b a
  generalize amtAddR b a = r at hamt hin ⊢
  obtain ⟨r1, r2⟩ := r
  have hin : r2 = 0 → I64 r1 := hin
  simp only
  generalize hSS : (if r2 = 0 then S.setB (bKy y f o) r1 else S) = SS
  have HSS := Lib.hid hSS
  clear h hb1 hba hb01 hA l3' hza hz1 hSS
  go_enter Tryz.func74, Tryz.ntmps74
  go_wp2_with fail
  rw [← hwa]
  go_wp2_with fail
  rw [← hw1, ← hg]
  clear hw1 hwa hg l0 l1 l3
  go_region_held3 (fun W => (W.cell? ⟨g, 0, none⟩ = some (.pointer (some ⟨v, 0, none⟩)) ∧ W.cell? ⟨g, 1, none⟩ = some (.int .i64 y) ∧ W.cell? ⟨g, 2, none⟩ = some (.int .i64 f) ∧ W.cell? ⟨g, 3, none⟩ = some (.int .i64 o)) ∧ W.cell? ⟨w.heap.size, 3, none⟩ = some (.int .i64 a))
    (first | with_reducible exact c5 | exact c5)
    (first
      | (go_at_call 105; refine Calls.mono hbal ?_; rintro e wk ⟨rfl, hbk⟩; have hP := hP.trans (hbk.mono hP.size); have c5 := C5.out _ hP)
      | (go_at_call 104; refine Calls.mono (hamt _) ?_; rintro e wq ⟨rfl, rfl⟩))
  obtain ⟨⟨e0, e1, e2, e3⟩, _⟩ := c5
  have HP := Lib.hid hP
  clear hbal hamt C5 hP hbk
  by_cases h2 : r2 = 0
  · subst h2
    have HQ := Lib.hid (HSET.out _ r1 HP.out (hin rfl))
    have H9 := Lib.hid (show SS = S.setB (bKy y f o) r1 from by rw [← HSS.out, if_pos rfl])
    clear HSET hin HSS
    go_wp2_with fail
    refine HQ.out.mono ?_
    rintro e w4 ⟨rfl, hv4, ht4⟩
    have HE := Lib.hid (And.intro hv4 ((Touch.of_below (HB.out.trans (HP.out.mono HB.out.size))).trans ht4))
    clear hv4 ht4 HQ e0 e1 e2 e3
    go_wp2_with fail
    go_ret
    rw [H9.out]
    exact ⟨rfl, HE.out⟩
  · have d2 : (r2 != 0) = true := by simp [h2]
    have H9 := Lib.hid (show SS = S from by rw [← HSS.out, if_neg h2])
    have HE := Lib.hid (And.intro (HV.out _ HP.out) (Touch.of_below (F := fun k => k = c) (HB.out.trans (HP.out.mono HB.out.size))))
    clear HSET hin h2 e0 e1 e2 e3
    go_wp2_with fail
    go_ret
    rw [H9.out]
    exact ⟨rfl, HE.out⟩
end
end Go.Proofs.YtilhcchnlbdlhaaGreat
