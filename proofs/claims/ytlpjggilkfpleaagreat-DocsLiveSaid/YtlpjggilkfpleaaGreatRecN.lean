/-
  Contracts of recs.bit and recs.Node: a node of either kind makes its pair. No condition but that numbers are ints.
-/
import Derived.Test.YtlpjggilkfpleaaGreatRecA
namespace Go.Proofs.YtlpjggilkfpleaaGreat
open Go.RowKit
set_option maxRecDepth 100000
set_option linter.unusedVariables false

theorem bitT_any (w : World) : Calls Tryz.prog 77 #[.bool true] w fun e w' => e = .returned (.int .i64 1) ∧ w = w' := by
  go_enter Tryz.func77, Tryz.ntmps77
  go_wp2
  go_ret
  exact ⟨rfl, rfl⟩
theorem bitF_any (w : World) : Calls Tryz.prog 77 #[.bool false] w fun e w' => e = .returned (.int .i64 0) ∧ w = w' := by
  go_enter Tryz.func77, Tryz.ntmps77
  go_wp2
  go_ret
  exact ⟨rfl, rfl⟩

set_option maxHeartbeats 3200000 in
theorem recNodeT_any  (a0 : Int) (a1 : Int) (a2 : Int) (a3 : Int) (a4 : Int) (a6 : Int) (a7 : Int) (a8 : Int) (a9 : Int) (a10 : Int) (a11 : Int) (w : World) (h : In64 [a0, a1, a2, a3, a4, a6, a7, a8, a9, a10, a11]) :
    Calls Tryz.prog 38 #[.agg #[.int .i64 a0, .int .i64 a1, .int .i64 a2, .int .i64 a3, .int .i64 a4, .bool true, .int .i64 a6, .int .i64 a7, .int .i64 a8, .int .i64 a9, .int .i64 a10, .int .i64 a11]] w fun e w' => RecPair w w' e (keyL 78 [a0, a1]) (packN 8 [a2, a3, a4, 1, a6, a7, a8, a9, a10, a11]) := by
  have HK := Lib.hid (key_at 78 [a0, a1] 2 9 (by omega) (h.sub (by simp)) rfl (by omega) rfl)
  have HP := Lib.hid (pair_at [a2, a3, a4, 1, a6, a7, a8, a9, a10, a11] 10 80 (by intro v hv; simp only [List.mem_cons, List.not_mem_nil, or_false] at hv; rcases hv with rfl | rfl | rfl | rfl | rfl | rfl | rfl | rfl | rfl | rfl <;> first | omega | exact h _ (by simp)) rfl (by omega) rfl)
  clear h
  go_enter Tryz.func38, Tryz.ntmps38
  go_wp2_with fail
  obtain ⟨w1, hw1⟩ : ∃ w1, w1 = ((w.alloc (.cells #[.int .i64 a0, .int .i64 a1, .int .i64 a2, .int .i64 a3, .int .i64 a4, .bool true, .int .i64 a6, .int .i64 a7, .int .i64 a8, .int .i64 a9, .int .i64 a10, .int .i64 a11] 23)).alloc (.cells #[.slice none 0 0, .slice none 0 0] 88)) := ⟨_, rfl⟩
  have hb1 : Below w.heap.size w w1 := by rw [hw1]; exact ((Below.refl _ _).alloc (Nat.le_refl _) _).alloc (by simp) _
  have g0 : w1.heap[w.heap.size]? = some (.cells #[.int .i64 a0, .int .i64 a1, .int .i64 a2, .int .i64 a3, .int .i64 a4, .bool true, .int .i64 a6, .int .i64 a7, .int .i64 a8, .int .i64 a9, .int .i64 a10, .int .i64 a11] 23 (0, 0)) := by rw [hw1]; exact (((Below.refl (w.alloc _).heap.size _).alloc (Nat.le_refl _) _).block _ (by simp)).trans (heap_alloc_new _ _)
  have g1 : w1.heap[w.heap.size + 1]? = some (.cells #[.slice none 0 0, .slice none 0 0] 88 (0, 0)) := by rw [hw1]; exact heap_alloc2_new _ _ _
  have hs1 : w1.heap.size = w.heap.size + 2 := by rw [hw1]; simp
  rw [← hw1]
  clear hw1
  have HC : Hid (∀ W, Below w1.heap.size w1 W → W.cell? ⟨w.heap.size, 0, none⟩ = some (.int .i64 a0) ∧ W.cell? ⟨w.heap.size, 1, none⟩ = some (.int .i64 a1) ∧ W.cell? ⟨w.heap.size, 2, none⟩ = some (.int .i64 a2) ∧ W.cell? ⟨w.heap.size, 3, none⟩ = some (.int .i64 a3) ∧ W.cell? ⟨w.heap.size, 4, none⟩ = some (.int .i64 a4) ∧ W.cell? ⟨w.heap.size, 5, none⟩ = some (.bool true) ∧ W.cell? ⟨w.heap.size, 6, none⟩ = some (.int .i64 a6) ∧ W.cell? ⟨w.heap.size, 7, none⟩ = some (.int .i64 a7) ∧ W.cell? ⟨w.heap.size, 8, none⟩ = some (.int .i64 a8) ∧ W.cell? ⟨w.heap.size, 9, none⟩ = some (.int .i64 a9) ∧ W.cell? ⟨w.heap.size, 10, none⟩ = some (.int .i64 a10) ∧ W.cell? ⟨w.heap.size, 11, none⟩ = some (.int .i64 a11)) := Lib.hid fun W hW => by
    have f0 := (hW.block _ (by omega)).trans g0
    exact ⟨cell_of_row W _ 0 _ _ (0, 0) f0, cell_of_row W _ 1 _ _ (0, 0) f0, cell_of_row W _ 2 _ _ (0, 0) f0, cell_of_row W _ 3 _ _ (0, 0) f0, cell_of_row W _ 4 _ _ (0, 0) f0, cell_of_row W _ 5 _ _ (0, 0) f0, cell_of_row W _ 6 _ _ (0, 0) f0, cell_of_row W _ 7 _ _ (0, 0) f0, cell_of_row W _ 8 _ _ (0, 0) f0, cell_of_row W _ 9 _ _ (0, 0) f0, cell_of_row W _ 10 _ _ (0, 0) f0, cell_of_row W _ 11 _ _ (0, 0) f0⟩
  have HD : Hid (∀ W0 x y W, Below w1.heap.size w1 W0 → W = (W0.setCell ⟨w.heap.size + 1, 0, none⟩ x).setCell ⟨w.heap.size + 1, 1, none⟩ y → W.cell? ⟨w.heap.size, 0, none⟩ = some (.int .i64 a0) ∧ W.cell? ⟨w.heap.size, 1, none⟩ = some (.int .i64 a1) ∧ W.cell? ⟨w.heap.size, 2, none⟩ = some (.int .i64 a2) ∧ W.cell? ⟨w.heap.size, 3, none⟩ = some (.int .i64 a3) ∧ W.cell? ⟨w.heap.size, 4, none⟩ = some (.int .i64 a4) ∧ W.cell? ⟨w.heap.size, 5, none⟩ = some (.bool true) ∧ W.cell? ⟨w.heap.size, 6, none⟩ = some (.int .i64 a6) ∧ W.cell? ⟨w.heap.size, 7, none⟩ = some (.int .i64 a7) ∧ W.cell? ⟨w.heap.size, 8, none⟩ = some (.int .i64 a8) ∧ W.cell? ⟨w.heap.size, 9, none⟩ = some (.int .i64 a9) ∧ W.cell? ⟨w.heap.size, 10, none⟩ = some (.int .i64 a10) ∧ W.cell? ⟨w.heap.size, 11, none⟩ = some (.int .i64 a11)) := Lib.hid fun W0 x y W hW e => by
    have f0 : W.heap[w.heap.size]? = some (.cells #[.int .i64 a0, .int .i64 a1, .int .i64 a2, .int .i64 a3, .int .i64 a4, .bool true, .int .i64 a6, .int .i64 a7, .int .i64 a8, .int .i64 a9, .int .i64 a10, .int .i64 a11] 23 (0, 0)) := by
      rw [e, heap_setCell_other _ _ _ _ (show w.heap.size ≠ w.heap.size + 1 by omega), heap_setCell_other _ _ _ _ (show w.heap.size ≠ w.heap.size + 1 by omega)]
      exact (hW.block _ (by omega)).trans g0
    exact ⟨cell_of_row W _ 0 _ _ (0, 0) f0, cell_of_row W _ 1 _ _ (0, 0) f0, cell_of_row W _ 2 _ _ (0, 0) f0, cell_of_row W _ 3 _ _ (0, 0) f0, cell_of_row W _ 4 _ _ (0, 0) f0, cell_of_row W _ 5 _ _ (0, 0) f0, cell_of_row W _ 6 _ _ (0, 0) f0, cell_of_row W _ 7 _ _ (0, 0) f0, cell_of_row W _ 8 _ _ (0, 0) f0, cell_of_row W _ 9 _ _ (0, 0) f0, cell_of_row W _ 10 _ _ (0, 0) f0, cell_of_row W _ 11 _ _ (0, 0) f0⟩
  have HF : Hid (∀ W, Below w1.heap.size w1 W → W.heap[w.heap.size + 1]? = some (.cells #[.slice none 0 0, .slice none 0 0] 88 (0, 0))) := Lib.hid fun W hW => (hW.block _ (by omega)).trans g1
  have HB1 := Lib.hid (And.intro hb1 hs1)
  clear hb1 g0 g1 hs1
  have tok1 : True := trivial
  go_region_held3 (fun W => W.cell? ⟨w.heap.size, 0, none⟩ = some (.int .i64 a0) ∧ W.cell? ⟨w.heap.size, 1, none⟩ = some (.int .i64 a1) ∧ W.cell? ⟨w.heap.size, 2, none⟩ = some (.int .i64 a2) ∧ W.cell? ⟨w.heap.size, 3, none⟩ = some (.int .i64 a3) ∧ W.cell? ⟨w.heap.size, 4, none⟩ = some (.int .i64 a4) ∧ W.cell? ⟨w.heap.size, 5, none⟩ = some (.bool true) ∧ W.cell? ⟨w.heap.size, 6, none⟩ = some (.int .i64 a6) ∧ W.cell? ⟨w.heap.size, 7, none⟩ = some (.int .i64 a7) ∧ W.cell? ⟨w.heap.size, 8, none⟩ = some (.int .i64 a8) ∧ W.cell? ⟨w.heap.size, 9, none⟩ = some (.int .i64 a9) ∧ W.cell? ⟨w.heap.size, 10, none⟩ = some (.int .i64 a10) ∧ W.cell? ⟨w.heap.size, 11, none⟩ = some (.int .i64 a11))
    (first | exact HC.out _ ((Below.refl _ _).drew) | exact HC.out _ (((Below.refl _ _).alloc (Nat.le_refl _) _).drew) | exact HC.out _ ((((Below.refl _ _).alloc (Nat.le_refl _) _).alloc (by simp) _).drew) | exact HC.out _ hb3 | exact HD.out _ _ _ _ hb3 rfl | exact HC.out _ b2 | exact HC.out _ (b2.alloc b2.size _) | exact HC.out _ (b2.alloc b2.size _).drew)
    (first
    | (have _t := tok1; clear tok1; go_at_call 70; refine Calls.mono (HK.out _ _ ?_) ?_; (first | exact RowN.a (l := [a0, a1]) _ _ | exact RowN.b (l := [a0, a1]) _ _ _ | exact RowN.c (l := [a0, a1]) _ _ _ | exact RowN.d (l := [a0, a1]) _ _ _); rintro e w2 ⟨kA, kc, rfl, ko⟩; have ko1 := (by first | exact ko.of_le (w0 := w1) ((Below.refl _ _).alloc (Nat.le_refl _) _).drew | exact ko.of_le (w0 := w1) (((Below.refl _ _).alloc (Nat.le_refl _) _).alloc (by simp) _).drew : OwnB w1 w2 (.slice kA 9 kc) _); have KO := Lib.hid ko1; have b2 := ko1.2; have KB := Lib.hid ko.2; clear ko ko1; have tok2 : True := trivial)
    | (have _t := tok2; clear tok2; go_at_call 77; refine (bitT_any _).mono ?_; rintro e w2x ⟨rfl, rfl⟩; have tok3 : True := trivial)
    | (have _t := tok3; clear tok3; go_at_call 76; refine Calls.mono (HP.out _ _ _ _ _ ?_) ?_; (first | exact RowN.a' (l := [a2, a3, a4, 1, a6, a7, a8, a9, a10, a11]) _ _ | exact RowN.a (l := [a2, a3, a4, 1, a6, a7, a8, a9, a10, a11]) _ _ | exact (RowN.a (l := [a2, a3, a4, 1, a6, a7, a8, a9, a10, a11]) _ _).later KB.out | exact (RowN.c (l := [a2, a3, a4, 1, a6, a7, a8, a9, a10, a11]) _ _ _).later KB.out | exact (RowN.d (l := [a2, a3, a4, 1, a6, a7, a8, a9, a10, a11]) _ _ _).later KB.out | exact (RowN.b (l := [a2, a3, a4, 1, a6, a7, a8, a9, a10, a11]) _ _ _).later KB.out); rintro e w3 ⟨vA, vc, rfl, vo⟩; have B23 : Below w2.heap.size w2 w3 := (by first | exact vo.2 | exact ((Below.refl _ _).alloc (Nat.le_refl _) _).trans (vo.2.mono (by simp)) | exact ((Below.refl _ _).alloc (Nat.le_refl _) _).drew.trans (vo.2.mono (by simp))); have hb3 := b2.trans (B23.mono b2.size); have VO := Lib.hid (by first | exact vo.of_le (w0 := w1) b2 | exact vo.of_le (w0 := w1) (b2.alloc b2.size _) | exact vo.of_le (w0 := w1) (b2.alloc b2.size _).drew : OwnB w1 w3 (.slice vA 80 vc) _); have hf0 := box_frozen (o := 0) (HF.out _ hb3); have hf1 := box_frozen (o := 1) (HF.out _ hb3); have z0 := box_cell0 (HF.out _ hb3); have z1 := box_cell1 (HF.out _ hb3); have HG := Lib.hid (box_set (x := .slice kA 9 kc) (y := .slice vA 80 vc) (HF.out _ hb3)); have HQ := Lib.hid (pairR_boxed (g := w.heap.size + 1) (x := .slice kA 9 kc) (y := .slice vA 80 vc) HB1.out.1 (Nat.le_succ _) (by have := HB1.out.2; omega) KO.out B23 VO.out); clear vo B23 VO KO))
  all_goals
    go_wp2_with fail
    refine bodyPost_ret (results_cell_row rfl _ _ (w.heap.size + 1) _ _ _ _ rfl HG.out Tryz.underlying88 rfl pairSize) rfl ?_
    exact HQ.out

set_option maxHeartbeats 3200000 in
theorem recNodeF_any  (a0 : Int) (a1 : Int) (a2 : Int) (a3 : Int) (a4 : Int) (a6 : Int) (a7 : Int) (a8 : Int) (a9 : Int) (a10 : Int) (a11 : Int) (w : World) (h : In64 [a0, a1, a2, a3, a4, a6, a7, a8, a9, a10, a11]) :
    Calls Tryz.prog 38 #[.agg #[.int .i64 a0, .int .i64 a1, .int .i64 a2, .int .i64 a3, .int .i64 a4, .bool false, .int .i64 a6, .int .i64 a7, .int .i64 a8, .int .i64 a9, .int .i64 a10, .int .i64 a11]] w fun e w' => RecPair w w' e (keyL 78 [a0, a1]) (packN 8 [a2, a3, a4, 0, a6, a7, a8, a9, a10, a11]) := by
  have HK := Lib.hid (key_at 78 [a0, a1] 2 9 (by omega) (h.sub (by simp)) rfl (by omega) rfl)
  have HP := Lib.hid (pair_at [a2, a3, a4, 0, a6, a7, a8, a9, a10, a11] 10 80 (by intro v hv; simp only [List.mem_cons, List.not_mem_nil, or_false] at hv; rcases hv with rfl | rfl | rfl | rfl | rfl | rfl | rfl | rfl | rfl | rfl <;> first | omega | exact h _ (by simp)) rfl (by omega) rfl)
  clear h
  go_enter Tryz.func38, Tryz.ntmps38
  go_wp2_with fail
  obtain ⟨w1, hw1⟩ : ∃ w1, w1 = ((w.alloc (.cells #[.int .i64 a0, .int .i64 a1, .int .i64 a2, .int .i64 a3, .int .i64 a4, .bool false, .int .i64 a6, .int .i64 a7, .int .i64 a8, .int .i64 a9, .int .i64 a10, .int .i64 a11] 23)).alloc (.cells #[.slice none 0 0, .slice none 0 0] 88)) := ⟨_, rfl⟩
  have hb1 : Below w.heap.size w w1 := by rw [hw1]; exact ((Below.refl _ _).alloc (Nat.le_refl _) _).alloc (by simp) _
  have g0 : w1.heap[w.heap.size]? = some (.cells #[.int .i64 a0, .int .i64 a1, .int .i64 a2, .int .i64 a3, .int .i64 a4, .bool false, .int .i64 a6, .int .i64 a7, .int .i64 a8, .int .i64 a9, .int .i64 a10, .int .i64 a11] 23 (0, 0)) := by rw [hw1]; exact (((Below.refl (w.alloc _).heap.size _).alloc (Nat.le_refl _) _).block _ (by simp)).trans (heap_alloc_new _ _)
  have g1 : w1.heap[w.heap.size + 1]? = some (.cells #[.slice none 0 0, .slice none 0 0] 88 (0, 0)) := by rw [hw1]; exact heap_alloc2_new _ _ _
  have hs1 : w1.heap.size = w.heap.size + 2 := by rw [hw1]; simp
  rw [← hw1]
  clear hw1
  have HC : Hid (∀ W, Below w1.heap.size w1 W → W.cell? ⟨w.heap.size, 0, none⟩ = some (.int .i64 a0) ∧ W.cell? ⟨w.heap.size, 1, none⟩ = some (.int .i64 a1) ∧ W.cell? ⟨w.heap.size, 2, none⟩ = some (.int .i64 a2) ∧ W.cell? ⟨w.heap.size, 3, none⟩ = some (.int .i64 a3) ∧ W.cell? ⟨w.heap.size, 4, none⟩ = some (.int .i64 a4) ∧ W.cell? ⟨w.heap.size, 5, none⟩ = some (.bool false) ∧ W.cell? ⟨w.heap.size, 6, none⟩ = some (.int .i64 a6) ∧ W.cell? ⟨w.heap.size, 7, none⟩ = some (.int .i64 a7) ∧ W.cell? ⟨w.heap.size, 8, none⟩ = some (.int .i64 a8) ∧ W.cell? ⟨w.heap.size, 9, none⟩ = some (.int .i64 a9) ∧ W.cell? ⟨w.heap.size, 10, none⟩ = some (.int .i64 a10) ∧ W.cell? ⟨w.heap.size, 11, none⟩ = some (.int .i64 a11)) := Lib.hid fun W hW => by
    have f0 := (hW.block _ (by omega)).trans g0
    exact ⟨cell_of_row W _ 0 _ _ (0, 0) f0, cell_of_row W _ 1 _ _ (0, 0) f0, cell_of_row W _ 2 _ _ (0, 0) f0, cell_of_row W _ 3 _ _ (0, 0) f0, cell_of_row W _ 4 _ _ (0, 0) f0, cell_of_row W _ 5 _ _ (0, 0) f0, cell_of_row W _ 6 _ _ (0, 0) f0, cell_of_row W _ 7 _ _ (0, 0) f0, cell_of_row W _ 8 _ _ (0, 0) f0, cell_of_row W _ 9 _ _ (0, 0) f0, cell_of_row W _ 10 _ _ (0, 0) f0, cell_of_row W _ 11 _ _ (0, 0) f0⟩
  have HD : Hid (∀ W0 x y W, Below w1.heap.size w1 W0 → W = (W0.setCell ⟨w.heap.size + 1, 0, none⟩ x).setCell ⟨w.heap.size + 1, 1, none⟩ y → W.cell? ⟨w.heap.size, 0, none⟩ = some (.int .i64 a0) ∧ W.cell? ⟨w.heap.size, 1, none⟩ = some (.int .i64 a1) ∧ W.cell? ⟨w.heap.size, 2, none⟩ = some (.int .i64 a2) ∧ W.cell? ⟨w.heap.size, 3, none⟩ = some (.int .i64 a3) ∧ W.cell? ⟨w.heap.size, 4, none⟩ = some (.int .i64 a4) ∧ W.cell? ⟨w.heap.size, 5, none⟩ = some (.bool false) ∧ W.cell? ⟨w.heap.size, 6, none⟩ = some (.int .i64 a6) ∧ W.cell? ⟨w.heap.size, 7, none⟩ = some (.int .i64 a7) ∧ W.cell? ⟨w.heap.size, 8, none⟩ = some (.int .i64 a8) ∧ W.cell? ⟨w.heap.size, 9, none⟩ = some (.int .i64 a9) ∧ W.cell? ⟨w.heap.size, 10, none⟩ = some (.int .i64 a10) ∧ W.cell? ⟨w.heap.size, 11, none⟩ = some (.int .i64 a11)) := Lib.hid fun W0 x y W hW e => by
    have f0 : W.heap[w.heap.size]? = some (.cells #[.int .i64 a0, .int .i64 a1, .int .i64 a2, .int .i64 a3, .int .i64 a4, .bool false, .int .i64 a6, .int .i64 a7, .int .i64 a8, .int .i64 a9, .int .i64 a10, .int .i64 a11] 23 (0, 0)) := by
      rw [e, heap_setCell_other _ _ _ _ (show w.heap.size ≠ w.heap.size + 1 by omega), heap_setCell_other _ _ _ _ (show w.heap.size ≠ w.heap.size + 1 by omega)]
      exact (hW.block _ (by omega)).trans g0
    exact ⟨cell_of_row W _ 0 _ _ (0, 0) f0, cell_of_row W _ 1 _ _ (0, 0) f0, cell_of_row W _ 2 _ _ (0, 0) f0, cell_of_row W _ 3 _ _ (0, 0) f0, cell_of_row W _ 4 _ _ (0, 0) f0, cell_of_row W _ 5 _ _ (0, 0) f0, cell_of_row W _ 6 _ _ (0, 0) f0, cell_of_row W _ 7 _ _ (0, 0) f0, cell_of_row W _ 8 _ _ (0, 0) f0, cell_of_row W _ 9 _ _ (0, 0) f0, cell_of_row W _ 10 _ _ (0, 0) f0, cell_of_row W _ 11 _ _ (0, 0) f0⟩
  have HF : Hid (∀ W, Below w1.heap.size w1 W → W.heap[w.heap.size + 1]? = some (.cells #[.slice none 0 0, .slice none 0 0] 88 (0, 0))) := Lib.hid fun W hW => (hW.block _ (by omega)).trans g1
  have HB1 := Lib.hid (And.intro hb1 hs1)
  clear hb1 g0 g1 hs1
  have tok1 : True := trivial
  go_region_held3 (fun W => W.cell? ⟨w.heap.size, 0, none⟩ = some (.int .i64 a0) ∧ W.cell? ⟨w.heap.size, 1, none⟩ = some (.int .i64 a1) ∧ W.cell? ⟨w.heap.size, 2, none⟩ = some (.int .i64 a2) ∧ W.cell? ⟨w.heap.size, 3, none⟩ = some (.int .i64 a3) ∧ W.cell? ⟨w.heap.size, 4, none⟩ = some (.int .i64 a4) ∧ W.cell? ⟨w.heap.size, 5, none⟩ = some (.bool false) ∧ W.cell? ⟨w.heap.size, 6, none⟩ = some (.int .i64 a6) ∧ W.cell? ⟨w.heap.size, 7, none⟩ = some (.int .i64 a7) ∧ W.cell? ⟨w.heap.size, 8, none⟩ = some (.int .i64 a8) ∧ W.cell? ⟨w.heap.size, 9, none⟩ = some (.int .i64 a9) ∧ W.cell? ⟨w.heap.size, 10, none⟩ = some (.int .i64 a10) ∧ W.cell? ⟨w.heap.size, 11, none⟩ = some (.int .i64 a11))
    (first | exact HC.out _ ((Below.refl _ _).drew) | exact HC.out _ (((Below.refl _ _).alloc (Nat.le_refl _) _).drew) | exact HC.out _ ((((Below.refl _ _).alloc (Nat.le_refl _) _).alloc (by simp) _).drew) | exact HC.out _ hb3 | exact HD.out _ _ _ _ hb3 rfl | exact HC.out _ b2 | exact HC.out _ (b2.alloc b2.size _) | exact HC.out _ (b2.alloc b2.size _).drew)
    (first
    | (have _t := tok1; clear tok1; go_at_call 70; refine Calls.mono (HK.out _ _ ?_) ?_; (first | exact RowN.a (l := [a0, a1]) _ _ | exact RowN.b (l := [a0, a1]) _ _ _ | exact RowN.c (l := [a0, a1]) _ _ _ | exact RowN.d (l := [a0, a1]) _ _ _); rintro e w2 ⟨kA, kc, rfl, ko⟩; have ko1 := (by first | exact ko.of_le (w0 := w1) ((Below.refl _ _).alloc (Nat.le_refl _) _).drew | exact ko.of_le (w0 := w1) (((Below.refl _ _).alloc (Nat.le_refl _) _).alloc (by simp) _).drew : OwnB w1 w2 (.slice kA 9 kc) _); have KO := Lib.hid ko1; have b2 := ko1.2; have KB := Lib.hid ko.2; clear ko ko1; have tok2 : True := trivial)
    | (have _t := tok2; clear tok2; go_at_call 77; refine (bitF_any _).mono ?_; rintro e w2x ⟨rfl, rfl⟩; have tok3 : True := trivial)
    | (have _t := tok3; clear tok3; go_at_call 76; refine Calls.mono (HP.out _ _ _ _ _ ?_) ?_; (first | exact RowN.a' (l := [a2, a3, a4, 0, a6, a7, a8, a9, a10, a11]) _ _ | exact RowN.a (l := [a2, a3, a4, 0, a6, a7, a8, a9, a10, a11]) _ _ | exact (RowN.a (l := [a2, a3, a4, 0, a6, a7, a8, a9, a10, a11]) _ _).later KB.out | exact (RowN.c (l := [a2, a3, a4, 0, a6, a7, a8, a9, a10, a11]) _ _ _).later KB.out | exact (RowN.d (l := [a2, a3, a4, 0, a6, a7, a8, a9, a10, a11]) _ _ _).later KB.out | exact (RowN.b (l := [a2, a3, a4, 0, a6, a7, a8, a9, a10, a11]) _ _ _).later KB.out); rintro e w3 ⟨vA, vc, rfl, vo⟩; have B23 : Below w2.heap.size w2 w3 := (by first | exact vo.2 | exact ((Below.refl _ _).alloc (Nat.le_refl _) _).trans (vo.2.mono (by simp)) | exact ((Below.refl _ _).alloc (Nat.le_refl _) _).drew.trans (vo.2.mono (by simp))); have hb3 := b2.trans (B23.mono b2.size); have VO := Lib.hid (by first | exact vo.of_le (w0 := w1) b2 | exact vo.of_le (w0 := w1) (b2.alloc b2.size _) | exact vo.of_le (w0 := w1) (b2.alloc b2.size _).drew : OwnB w1 w3 (.slice vA 80 vc) _); have hf0 := box_frozen (o := 0) (HF.out _ hb3); have hf1 := box_frozen (o := 1) (HF.out _ hb3); have z0 := box_cell0 (HF.out _ hb3); have z1 := box_cell1 (HF.out _ hb3); have HG := Lib.hid (box_set (x := .slice kA 9 kc) (y := .slice vA 80 vc) (HF.out _ hb3)); have HQ := Lib.hid (pairR_boxed (g := w.heap.size + 1) (x := .slice kA 9 kc) (y := .slice vA 80 vc) HB1.out.1 (Nat.le_succ _) (by have := HB1.out.2; omega) KO.out B23 VO.out); clear vo B23 VO KO))
  all_goals
    go_wp2_with fail
    refine bodyPost_ret (results_cell_row rfl _ _ (w.heap.size + 1) _ _ _ _ rfl HG.out Tryz.underlying88 rfl pairSize) rfl ?_
    exact HQ.out

end Go.Proofs.YtlpjggilkfpleaaGreat
