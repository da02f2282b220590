/-
  The laws' own check of layer 25: it returns true. No condition.
-/
import Derived.Test.YtihjlhegcoceoaaGreatBalB
import Derived.Test.YtihjlhegcoceoaaGreatBalE
import Derived.Test.YtihjlhegcoceoaaGreatLinEq
namespace Go.Proofs.YtihjlhegcoceoaaGreat
open Go.RowKit Go.Maps
set_option maxRecDepth 100000
set_option linter.unusedVariables false

theorem balSeven : (amtAddR (seqV ((⟨[], []⟩ : VS).now (bKy 2020 100 5010))) 7).2 = 0 ∧ seqV (((⟨[], []⟩ : VS).addB (bKy 2020 100 5010) 7).now (bKy 2020 100 5010)) = 7 ∧ linesK ((((⟨[], []⟩ : VS).addB (bKy 2020 100 5010) 7).scan (tx (keyL 66 [2020]))).map kvOf) = [⟨100, 5010, 0, 7⟩] := by
  refine ⟨by decide +kernel, by decide +kernel, by decide +kernel⟩
theorem BalS.scanOk {S : VS} {j : Nat} (h : BalS S j) (hj : j ≤ 32767) : ScanOk S := by
  obtain ⟨a, b, c, d⟩ := h.scanOk_w hj
  exact ⟨a, b, c, d⟩
theorem balEq_one (W : World) (A : Option Addr) (k g : Nat) (h : RL W W.heap.size A 1 [⟨100, 5010, 0, 7⟩]) (hg : W.heap[g]? = some (.cells #[.int .i64 100, .int .i64 5010, .int .i64 0, .int .i64 7] 27 (0, 0))) :
    Calls Tryz.prog 10 #[.slice A 1 k, .slice (some ⟨g, 0, none⟩) 1 1] W fun e w' => e = .returned (.bool true) ∧ Below W.heap.size W w' := by
  have hr : RL W W.heap.size (some ⟨g, 0, none⟩) 1 [⟨100, 5010, 0, 7⟩] := ⟨rfl, fun x hx => by
    obtain rfl := List.mem_singleton.1 hx
    exact ⟨(show B64 100 by unfold B64; omega), (show B64 5010 by unfold B64; omega), (show B64 0 by unfold B64; omega), (show B64 7 by unfold B64; omega)⟩, fun _ => ⟨g, 0, rfl, (Array.getElem?_eq_some_iff.1 hg).1, fun j x hx => by
    have hj : j = 0 := by
      have := (List.getElem?_eq_some_iff.1 hx).1
      simp at this
      omega
    subst hj
    obtain rfl : (⟨100, 5010, 0, 7⟩ : Ln) = x := by simpa using hx
    exact balLine_cells hg⟩⟩
  have := EqualLn_any k 1 h hr (by decide) (by decide) (Nat.le_refl _) (Nat.le_refl _)
  rwa [decide_eq_true rfl] at this
set_option maxHeartbeats 6400000 in
theorem balAwake_any (w : World) : Calls Tryz.prog 4 #[] w fun e w' => e = .returned (.bool true) ∧ Below w.heap.size w w' := by
  have HN := Lib.hid (vNew_any w (fun _ => False) (fun k h => h.elim))
  go_enter Tryz.func4, Tryz.ntmps4
  go_wp2_with fail
  refine HN.out.mono ?_
  rintro e w1 ⟨v, m, c, rfl, h1, hb1, hv, hm, hc⟩
  obtain ⟨X, hX⟩ : ∃ X : Nat → Prop, X = fun k => False ∨ k = v ∨ k = m ∨ k = c := ⟨_, rfl⟩
  rw [← hX] at h1
  obtain ⟨w2, hw2⟩ : ∃ w2, w2 = w1.alloc (.cells #[.int .i64 100, .int .i64 5010, .int .i64 0, .int .i64 7] 27 (0, 0)) := ⟨_, rfl⟩
  have hb2 : Below w1.heap.size w1 w2 := by rw [hw2]; exact (Below.refl _ _).alloc (Nat.le_refl _) _
  have hz2 : w2.heap.size = w1.heap.size + 1 := by rw [hw2]; simp
  have hblk : w2.heap[w1.heap.size]? = some (.cells #[.int .i64 100, .int .i64 5010, .int .i64 0, .int .i64 7] 27 (0, 0)) := by rw [hw2]; exact heap_alloc_new w1 _
  have hcl : c < w1.heap.size := h1.lt c h1.xc
  obtain ⟨g, hg⟩ : ∃ g, g = w1.heap.size := ⟨_, rfl⟩
  rw [← hg] at hblk
  have hgc : g ≠ c := by omega
  have hP : Touch (fun k => k = c) w2 w2.drew := Touch.of_below (Below.refl _ _).drew
  have C5 : Hid (∀ W, Touch (fun k => k = c) w2 W → W.heap[g]? = some (.cells #[.int .i64 100, .int .i64 5010, .int .i64 0, .int .i64 7] 27 (0, 0))) := Lib.hid fun W hW => (hW.block g (by omega) hgc).trans hblk
  have c5 : w2.drew.cell? ⟨g, 0, none⟩ = some (.int .i64 100) ∧ w2.drew.cell? ⟨g, 1, none⟩ = some (.int .i64 5010) ∧ w2.drew.cell? ⟨g, 2, none⟩ = some (.int .i64 0) ∧ w2.drew.cell? ⟨g, 3, none⟩ = some (.int .i64 7) := balLine_cells (C5.out _ hP)
  have hadd := balAdd_any ((h1.below hb2).drew) 2020 100 5010 0 7 (by omega) (by omega) (by omega) (by decide)
  obtain ⟨a1, a2, a3⟩ := balSeven
  have B1 := BalS.start.add (x := bKy 2020 100 5010) (by rw [bKy_len]; omega) 7
  rw [a1] at hadd
  obtain ⟨S1, hS1⟩ : ∃ S1, S1 = (⟨[], []⟩ : VS).addB (bKy 2020 100 5010) 7 := ⟨_, rfl⟩
  rw [← hS1] at hadd a2 a3 B1
  have HB := Lib.hid (show Below w.heap.size w w2 from hb1.trans (hb2.mono hb1.size))
  have HC := Lib.hid hc
  have HF := Lib.hid (And.intro a2 (And.intro a3 B1))
  have HV := Lib.hid ((h1.below hb2).drew)
  have HGET := Lib.hid (show ∀ W, ViewAt W X v m c S1 → Calls Tryz.prog 9 #[.pointer (some ⟨v, 0, none⟩), .int .i64 2020, .int .i64 100, .int .i64 5010] W fun e w' => e = .returned (.int .i64 7) ∧ Below W.heap.size W w' from fun W h => by
    have := balGet_any h 2020 100 5010 (by omega) (by omega) (by omega)
    rwa [HF.out.1] at this)
  have HALL := Lib.hid (show ∀ W, ViewAt W X v m c S1 → Calls Tryz.prog 11 #[.pointer (some ⟨v, 0, none⟩), .int .i64 2020] W fun e w' => ∃ A k, e = .returned (.slice A 1 k) ∧ 1 ≤ k ∧ RL w' w'.heap.size A 1 [⟨100, 5010, 0, 7⟩] ∧ Below W.heap.size W w' from fun W h => by
    have := balAll_any h (HF.out.2.2.scanOk (by omega)) (by rw [HF.out.2.2.w]; decide) (y := 2020) (by omega)
    rwa [HF.out.2.1] at this)
  have HEQ := Lib.hid balEq_one
  have HEQ1 := Lib.hid (show ∀ (W : World) (A : Option Addr) (k : Nat), RL W W.heap.size A 1 [⟨100, 5010, 0, 7⟩] → Calls Tryz.prog 10 #[.slice A 1 k, .slice (some ⟨W.heap.size, 0, none⟩) 1 1] (W.alloc (.cells #[.int .i64 100, .int .i64 5010, .int .i64 0, .int .i64 7] 27 (0, 0))) fun e w' => e = .returned (.bool true) ∧ Below (W.alloc (.cells #[.int .i64 100, .int .i64 5010, .int .i64 0, .int .i64 7] 27 (0, 0))).heap.size (W.alloc (.cells #[.int .i64 100, .int .i64 5010, .int .i64 0, .int .i64 7] 27 (0, 0))) w' from fun W A k h => by
    have hb := (Below.refl W.heap.size W).alloc (Nat.le_refl _) (.cells #[.int .i64 100, .int .i64 5010, .int .i64 0, .int .i64 7] 27 (0, 0))
    exact balEq_one _ A k W.heap.size ((h.below hb).more hb.size) (heap_alloc_new W _))
  clear h1 hb1 hX hv hm HN a1 a2 a3 hS1 B1 hb2 hz2 hblk hcl hc
  go_wp2_with fail
  rw [← hg]
  rw [← hw2]
  clear hg hw2
  have hv : ViewAt w2.drew X v m c ⟨[], []⟩ := HV.out
  have hb2 : Below w2.heap.size w2 w2 := Below.refl _ _
  first
    | (go_region_held3 (fun W => W.cell? ⟨g, 0, none⟩ = some (.int .i64 100) ∧ W.cell? ⟨g, 1, none⟩ = some (.int .i64 5010) ∧ W.cell? ⟨g, 2, none⟩ = some (.int .i64 0) ∧ W.cell? ⟨g, 3, none⟩ = some (.int .i64 7))
      (first | with_reducible exact c5 | exact c5 | exact balLine_cells (C5.out _ (hP.trans (Touch.of_below ((Below.refl _ _).alloc (Nat.le_refl _) _)))))
      (first
        | (go_at_call 6; refine Calls.mono hadd ?_; rintro e wa ⟨rfl, hva, hta⟩; have hP := hP.trans hta; have c5 := balLine_cells (C5.out _ hP); have hget := HGET.out wa hva)
        | (go_at_call 9; refine Calls.mono hget ?_; rintro e wb ⟨rfl, hbb⟩; have hP := hP.trans (Touch.of_below hbb); have c5 := balLine_cells (C5.out _ hP); have hall1 := HALL.out wb (hva.below hbb); have hall2 := HALL.out (wb.alloc (.cells #[.int .i64 100, .int .i64 5010, .int .i64 0, .int .i64 7] 27 (0, 0))) ((hva.below hbb).alloc _))
        | (go_at_call 11; (first | with_reducible refine Calls.mono hall1 ?_ | with_reducible refine Calls.mono hall2 ?_); rintro e wd ⟨A, k, rfl, hk, hr, hbd⟩; (first | have hP := hP.trans (Touch.of_below hbd) | have hP := (hP.trans (Touch.of_below ((Below.refl _ _).alloc (Nat.le_refl _) _))).trans (Touch.of_below hbd)); have c5 := balLine_cells (C5.out _ hP); have hq1 := HEQ1.out wd A k hr; (first | have hq2 := HEQ.out wd A k wb.heap.size hr ((hbd.block _ (by simp)).trans (heap_alloc_new wb _)) | skip))
        | (go_at_call 10; (first | with_reducible refine Calls.mono hq1 ?_ | with_reducible refine Calls.mono hq2 ?_); rintro e we ⟨rfl, hbe⟩; (first | have hP := hP.trans (Touch.of_below hbe) | have hP := (hP.trans (Touch.of_below ((Below.refl _ _).alloc (Nat.le_refl _) _))).trans (Touch.of_below hbe)); have c5 := balLine_cells (C5.out _ hP))))
    | fail
  all_goals have HE := Lib.hid (HB.out.trans (hP.below (fun k e => by rw [e]; exact HC.out) HB.out.size))
  all_goals clear hP c5 C5 hadd
  all_goals go_wp2_with fail
  all_goals go_ret
  all_goals exact ⟨rfl, HE.out⟩
end Go.Proofs.YtihjlhegcoceoaaGreat
