/-
  The texts RecN, RecG joined. Conditions: those that each part says at its head.
-/
import Derived.Test.YtlcbmobdokicaaaGreatRecA
import Derived.Test.YtlcbmobdokicaaaGreatRecF
import Derived.Test.YtlcbmobdokicaaaGreatRecD
import Derived.Test.YtlcbmobdokicaaaGreatEqual

/-
  Contracts of recs.bit and recs.Node: a node of either kind makes its pair. No condition but that numbers are ints.
-/
namespace Go.Proofs.YtlcbmobdokicaaaGreat
open Go.RowKit
set_option maxRecDepth 100000
set_option linter.unusedVariables false

theorem bitT_any (w : World) : Calls Tryz.prog 110 #[.bool true] w fun e w' => e = .returned (.int .i64 1) ∧ w = w' := by
  go_enter Tryz.func110, Tryz.ntmps110
  go_wp2
  go_ret
  exact ⟨rfl, rfl⟩
theorem bitF_any (w : World) : Calls Tryz.prog 110 #[.bool false] w fun e w' => e = .returned (.int .i64 0) ∧ w = w' := by
  go_enter Tryz.func110, Tryz.ntmps110
  go_wp2
  go_ret
  exact ⟨rfl, rfl⟩

set_option maxHeartbeats 3200000 in
theorem recNodeT_any  (a0 : Int) (a1 : Int) (a2 : Int) (a3 : Int) (a4 : Int) (a6 : Int) (a7 : Int) (a8 : Int) (a9 : Int) (a10 : Int) (a11 : Int) (w : World) (h : In64 [a0, a1, a2, a3, a4, a6, a7, a8, a9, a10, a11]) :
    Calls Tryz.prog 70 #[.agg #[.int .i64 a0, .int .i64 a1, .int .i64 a2, .int .i64 a3, .int .i64 a4, .bool true, .int .i64 a6, .int .i64 a7, .int .i64 a8, .int .i64 a9, .int .i64 a10, .int .i64 a11]] w fun e w' => RecPair w w' e (keyL 78 [a0, a1]) (packN 8 [a2, a3, a4, 1, a6, a7, a8, a9, a10, a11]) := by
  have HK := Lib.hid (key_at 78 [a0, a1] 2 9 (by omega) (h.sub (by simp)) rfl (by omega) rfl)
  have HP := Lib.hid (pair_at [a2, a3, a4, 1, a6, a7, a8, a9, a10, a11] 10 80 (by intro v hv; simp only [List.mem_cons, List.not_mem_nil, or_false] at hv; rcases hv with rfl | rfl | rfl | rfl | rfl | rfl | rfl | rfl | rfl | rfl <;> first | omega | exact h _ (by simp)) rfl (by omega) rfl)
  clear h
  go_enter Tryz.func70, Tryz.ntmps70
  go_wp2_with fail
  obtain ⟨w1, hw1⟩ : ∃ w1, w1 = ((w.alloc (.cells #[.int .i64 a0, .int .i64 a1, .int .i64 a2, .int .i64 a3, .int .i64 a4, .bool true, .int .i64 a6, .int .i64 a7, .int .i64 a8, .int .i64 a9, .int .i64 a10, .int .i64 a11] 41)).alloc (.cells #[.slice none 0 0, .slice none 0 0] 111)) := ⟨_, rfl⟩
  have hb1 : Below w.heap.size w w1 := by rw [hw1]; exact ((Below.refl _ _).alloc (Nat.le_refl _) _).alloc (by simp) _
  have g0 : w1.heap[w.heap.size]? = some (.cells #[.int .i64 a0, .int .i64 a1, .int .i64 a2, .int .i64 a3, .int .i64 a4, .bool true, .int .i64 a6, .int .i64 a7, .int .i64 a8, .int .i64 a9, .int .i64 a10, .int .i64 a11] 41 (0, 0)) := by rw [hw1]; exact (((Below.refl (w.alloc _).heap.size _).alloc (Nat.le_refl _) _).block _ (by simp)).trans (heap_alloc_new _ _)
  have g1 : w1.heap[w.heap.size + 1]? = some (.cells #[.slice none 0 0, .slice none 0 0] 111 (0, 0)) := by rw [hw1]; exact heap_alloc2_new _ _ _
  have hs1 : w1.heap.size = w.heap.size + 2 := by rw [hw1]; simp
  rw [← hw1]
  clear hw1
  have HC : Hid (∀ W, Below w1.heap.size w1 W → W.cell? ⟨w.heap.size, 0, none⟩ = some (.int .i64 a0) ∧ W.cell? ⟨w.heap.size, 1, none⟩ = some (.int .i64 a1) ∧ W.cell? ⟨w.heap.size, 2, none⟩ = some (.int .i64 a2) ∧ W.cell? ⟨w.heap.size, 3, none⟩ = some (.int .i64 a3) ∧ W.cell? ⟨w.heap.size, 4, none⟩ = some (.int .i64 a4) ∧ W.cell? ⟨w.heap.size, 5, none⟩ = some (.bool true) ∧ W.cell? ⟨w.heap.size, 6, none⟩ = some (.int .i64 a6) ∧ W.cell? ⟨w.heap.size, 7, none⟩ = some (.int .i64 a7) ∧ W.cell? ⟨w.heap.size, 8, none⟩ = some (.int .i64 a8) ∧ W.cell? ⟨w.heap.size, 9, none⟩ = some (.int .i64 a9) ∧ W.cell? ⟨w.heap.size, 10, none⟩ = some (.int .i64 a10) ∧ W.cell? ⟨w.heap.size, 11, none⟩ = some (.int .i64 a11)) := Lib.hid fun W hW => by
    have f0 := (hW.block _ (by omega)).trans g0
    exact ⟨cell_of_row W _ 0 _ _ (0, 0) f0, cell_of_row W _ 1 _ _ (0, 0) f0, cell_of_row W _ 2 _ _ (0, 0) f0, cell_of_row W _ 3 _ _ (0, 0) f0, cell_of_row W _ 4 _ _ (0, 0) f0, cell_of_row W _ 5 _ _ (0, 0) f0, cell_of_row W _ 6 _ _ (0, 0) f0, cell_of_row W _ 7 _ _ (0, 0) f0, cell_of_row W _ 8 _ _ (0, 0) f0, cell_of_row W _ 9 _ _ (0, 0) f0, cell_of_row W _ 10 _ _ (0, 0) f0, cell_of_row W _ 11 _ _ (0, 0) f0⟩
  have HD : Hid (∀ W0 x y W, Below w1.heap.size w1 W0 → W = (W0.setCell ⟨w.heap.size + 1, 0, none⟩ x).setCell ⟨w.heap.size + 1, 1, none⟩ y → W.cell? ⟨w.heap.size, 0, none⟩ = some (.int .i64 a0) ∧ W.cell? ⟨w.heap.size, 1, none⟩ = some (.int .i64 a1) ∧ W.cell? ⟨w.heap.size, 2, none⟩ = some (.int .i64 a2) ∧ W.cell? ⟨w.heap.size, 3, none⟩ = some (.int .i64 a3) ∧ W.cell? ⟨w.heap.size, 4, none⟩ = some (.int .i64 a4) ∧ W.cell? ⟨w.heap.size, 5, none⟩ = some (.bool true) ∧ W.cell? ⟨w.heap.size, 6, none⟩ = some (.int .i64 a6) ∧ W.cell? ⟨w.heap.size, 7, none⟩ = some (.int .i64 a7) ∧ W.cell? ⟨w.heap.size, 8, none⟩ = some (.int .i64 a8) ∧ W.cell? ⟨w.heap.size, 9, none⟩ = some (.int .i64 a9) ∧ W.cell? ⟨w.heap.size, 10, none⟩ = some (.int .i64 a10) ∧ W.cell? ⟨w.heap.size, 11, none⟩ = some (.int .i64 a11)) := Lib.hid fun W0 x y W hW e => by
    have f0 : W.heap[w.heap.size]? = some (.cells #[.int .i64 a0, .int .i64 a1, .int .i64 a2, .int .i64 a3, .int .i64 a4, .bool true, .int .i64 a6, .int .i64 a7, .int .i64 a8, .int .i64 a9, .int .i64 a10, .int .i64 a11] 41 (0, 0)) := by
      rw [e, heap_setCell_other _ _ _ _ (show w.heap.size ≠ w.heap.size + 1 by omega), heap_setCell_other _ _ _ _ (show w.heap.size ≠ w.heap.size + 1 by omega)]
      exact (hW.block _ (by omega)).trans g0
    exact ⟨cell_of_row W _ 0 _ _ (0, 0) f0, cell_of_row W _ 1 _ _ (0, 0) f0, cell_of_row W _ 2 _ _ (0, 0) f0, cell_of_row W _ 3 _ _ (0, 0) f0, cell_of_row W _ 4 _ _ (0, 0) f0, cell_of_row W _ 5 _ _ (0, 0) f0, cell_of_row W _ 6 _ _ (0, 0) f0, cell_of_row W _ 7 _ _ (0, 0) f0, cell_of_row W _ 8 _ _ (0, 0) f0, cell_of_row W _ 9 _ _ (0, 0) f0, cell_of_row W _ 10 _ _ (0, 0) f0, cell_of_row W _ 11 _ _ (0, 0) f0⟩
  have HF : Hid (∀ W, Below w1.heap.size w1 W → W.heap[w.heap.size + 1]? = some (.cells #[.slice none 0 0, .slice none 0 0] 111 (0, 0))) := Lib.hid fun W hW => (hW.block _ (by omega)).trans g1
  have HB1 := Lib.hid (And.intro hb1 hs1)
  clear hb1 g0 g1 hs1
  have tok1 : True := trivial
  go_region_held3 (fun W => W.cell? ⟨w.heap.size, 0, none⟩ = some (.int .i64 a0) ∧ W.cell? ⟨w.heap.size, 1, none⟩ = some (.int .i64 a1) ∧ W.cell? ⟨w.heap.size, 2, none⟩ = some (.int .i64 a2) ∧ W.cell? ⟨w.heap.size, 3, none⟩ = some (.int .i64 a3) ∧ W.cell? ⟨w.heap.size, 4, none⟩ = some (.int .i64 a4) ∧ W.cell? ⟨w.heap.size, 5, none⟩ = some (.bool true) ∧ W.cell? ⟨w.heap.size, 6, none⟩ = some (.int .i64 a6) ∧ W.cell? ⟨w.heap.size, 7, none⟩ = some (.int .i64 a7) ∧ W.cell? ⟨w.heap.size, 8, none⟩ = some (.int .i64 a8) ∧ W.cell? ⟨w.heap.size, 9, none⟩ = some (.int .i64 a9) ∧ W.cell? ⟨w.heap.size, 10, none⟩ = some (.int .i64 a10) ∧ W.cell? ⟨w.heap.size, 11, none⟩ = some (.int .i64 a11))
    (first | exact HC.out _ ((Below.refl _ _).drew) | exact HC.out _ (((Below.refl _ _).alloc (Nat.le_refl _) _).drew) | exact HC.out _ ((((Below.refl _ _).alloc (Nat.le_refl _) _).alloc (by simp) _).drew) | exact HC.out _ hb3 | exact HD.out _ _ _ _ hb3 rfl | exact HC.out _ b2 | exact HC.out _ (b2.alloc b2.size _) | exact HC.out _ (b2.alloc b2.size _).drew)
    (first
    | (have _t := tok1; clear tok1; go_at_call 92; refine Calls.mono (HK.out _ _ ?_) ?_; (first | exact RowN.a (l := [a0, a1]) _ _ | exact RowN.b (l := [a0, a1]) _ _ _ | exact RowN.c (l := [a0, a1]) _ _ _ | exact RowN.d (l := [a0, a1]) _ _ _); rintro e w2 ⟨kA, kc, rfl, ko⟩; have ko1 := (by first | exact ko.of_le (w0 := w1) ((Below.refl _ _).alloc (Nat.le_refl _) _).drew | exact ko.of_le (w0 := w1) (((Below.refl _ _).alloc (Nat.le_refl _) _).alloc (by simp) _).drew : OwnB w1 w2 (.slice kA 9 kc) _); have KO := Lib.hid ko1; have b2 := ko1.2; have KB := Lib.hid ko.2; clear ko ko1; have tok2 : True := trivial)
    | (have _t := tok2; clear tok2; go_at_call 110; refine (bitT_any _).mono ?_; rintro e w2x ⟨rfl, rfl⟩; have tok3 : True := trivial)
    | (have _t := tok3; clear tok3; go_at_call 109; refine Calls.mono (HP.out _ _ _ _ _ ?_) ?_; (first | exact RowN.a' (l := [a2, a3, a4, 1, a6, a7, a8, a9, a10, a11]) _ _ | exact RowN.a (l := [a2, a3, a4, 1, a6, a7, a8, a9, a10, a11]) _ _ | exact (RowN.a (l := [a2, a3, a4, 1, a6, a7, a8, a9, a10, a11]) _ _).later KB.out | exact (RowN.c (l := [a2, a3, a4, 1, a6, a7, a8, a9, a10, a11]) _ _ _).later KB.out | exact (RowN.d (l := [a2, a3, a4, 1, a6, a7, a8, a9, a10, a11]) _ _ _).later KB.out | exact (RowN.b (l := [a2, a3, a4, 1, a6, a7, a8, a9, a10, a11]) _ _ _).later KB.out); rintro e w3 ⟨vA, vc, rfl, vo⟩; have B23 : Below w2.heap.size w2 w3 := (by first | exact vo.2 | exact ((Below.refl _ _).alloc (Nat.le_refl _) _).trans (vo.2.mono (by simp)) | exact ((Below.refl _ _).alloc (Nat.le_refl _) _).drew.trans (vo.2.mono (by simp))); have hb3 := b2.trans (B23.mono b2.size); have VO := Lib.hid (by first | exact vo.of_le (w0 := w1) b2 | exact vo.of_le (w0 := w1) (b2.alloc b2.size _) | exact vo.of_le (w0 := w1) (b2.alloc b2.size _).drew : OwnB w1 w3 (.slice vA 80 vc) _); have hf0 := box_frozen (o := 0) (HF.out _ hb3); have hf1 := box_frozen (o := 1) (HF.out _ hb3); have z0 := box_cell0 (HF.out _ hb3); have z1 := box_cell1 (HF.out _ hb3); have HG := Lib.hid (box_set (x := .slice kA 9 kc) (y := .slice vA 80 vc) (HF.out _ hb3)); have HQ := Lib.hid (pairR_boxed (g := w.heap.size + 1) (x := .slice kA 9 kc) (y := .slice vA 80 vc) HB1.out.1 (Nat.le_succ _) (by have := HB1.out.2; omega) KO.out B23 VO.out); clear vo B23 VO KO))
  all_goals
    go_wp2_with fail
    refine bodyPost_ret (results_cell_row rfl _ _ (w.heap.size + 1) _ _ _ _ rfl HG.out Tryz.underlying111 rfl pairSize) rfl ?_
    exact HQ.out

set_option maxHeartbeats 3200000 in
theorem recNodeF_any  (a0 : Int) (a1 : Int) (a2 : Int) (a3 : Int) (a4 : Int) (a6 : Int) (a7 : Int) (a8 : Int) (a9 : Int) (a10 : Int) (a11 : Int) (w : World) (h : In64 [a0, a1, a2, a3, a4, a6, a7, a8, a9, a10, a11]) :
    Calls Tryz.prog 70 #[.agg #[.int .i64 a0, .int .i64 a1, .int .i64 a2, .int .i64 a3, .int .i64 a4, .bool false, .int .i64 a6, .int .i64 a7, .int .i64 a8, .int .i64 a9, .int .i64 a10, .int .i64 a11]] w fun e w' => RecPair w w' e (keyL 78 [a0, a1]) (packN 8 [a2, a3, a4, 0, a6, a7, a8, a9, a10, a11]) := by
  have HK := Lib.hid (key_at 78 [a0, a1] 2 9 (by omega) (h.sub (by simp)) rfl (by omega) rfl)
  have HP := Lib.hid (pair_at [a2, a3, a4, 0, a6, a7, a8, a9, a10, a11] 10 80 (by intro v hv; simp only [List.mem_cons, List.not_mem_nil, or_false] at hv; rcases hv with rfl | rfl | rfl | rfl | rfl | rfl | rfl | rfl | rfl | rfl <;> first | omega | exact h _ (by simp)) rfl (by omega) rfl)
  clear h
  go_enter Tryz.func70, Tryz.ntmps70
  go_wp2_with fail
  obtain ⟨w1, hw1⟩ : ∃ w1, w1 = ((w.alloc (.cells #[.int .i64 a0, .int .i64 a1, .int .i64 a2, .int .i64 a3, .int .i64 a4, .bool false, .int .i64 a6, .int .i64 a7, .int .i64 a8, .int .i64 a9, .int .i64 a10, .int .i64 a11] 41)).alloc (.cells #[.slice none 0 0, .slice none 0 0] 111)) := ⟨_, rfl⟩
  have hb1 : Below w.heap.size w w1 := by rw [hw1]; exact ((Below.refl _ _).alloc (Nat.le_refl _) _).alloc (by simp) _
  have g0 : w1.heap[w.heap.size]? = some (.cells #[.int .i64 a0, .int .i64 a1, .int .i64 a2, .int .i64 a3, .int .i64 a4, .bool false, .int .i64 a6, .int .i64 a7, .int .i64 a8, .int .i64 a9, .int .i64 a10, .int .i64 a11] 41 (0, 0)) := by rw [hw1]; exact (((Below.refl (w.alloc _).heap.size _).alloc (Nat.le_refl _) _).block _ (by simp)).trans (heap_alloc_new _ _)
  have g1 : w1.heap[w.heap.size + 1]? = some (.cells #[.slice none 0 0, .slice none 0 0] 111 (0, 0)) := by rw [hw1]; exact heap_alloc2_new _ _ _
  have hs1 : w1.heap.size = w.heap.size + 2 := by rw [hw1]; simp
  rw [← hw1]
  clear hw1
  have HC : Hid (∀ W, Below w1.heap.size w1 W → W.cell? ⟨w.heap.size, 0, none⟩ = some (.int .i64 a0) ∧ W.cell? ⟨w.heap.size, 1, none⟩ = some (.int .i64 a1) ∧ W.cell? ⟨w.heap.size, 2, none⟩ = some (.int .i64 a2) ∧ W.cell? ⟨w.heap.size, 3, none⟩ = some (.int .i64 a3) ∧ W.cell? ⟨w.heap.size, 4, none⟩ = some (.int .i64 a4) ∧ W.cell? ⟨w.heap.size, 5, none⟩ = some (.bool false) ∧ W.cell? ⟨w.heap.size, 6, none⟩ = some (.int .i64 a6) ∧ W.cell? ⟨w.heap.size, 7, none⟩ = some (.int .i64 a7) ∧ W.cell? ⟨w.heap.size, 8, none⟩ = some (.int .i64 a8) ∧ W.cell? ⟨w.heap.size, 9, none⟩ = some (.int .i64 a9) ∧ W.cell? ⟨w.heap.size, 10, none⟩ = some (.int .i64 a10) ∧ W.cell? ⟨w.heap.size, 11, none⟩ = some (.int .i64 a11)) := Lib.hid fun W hW => by
    have f0 := (hW.block _ (by omega)).trans g0
    exact ⟨cell_of_row W _ 0 _ _ (0, 0) f0, cell_of_row W _ 1 _ _ (0, 0) f0, cell_of_row W _ 2 _ _ (0, 0) f0, cell_of_row W _ 3 _ _ (0, 0) f0, cell_of_row W _ 4 _ _ (0, 0) f0, cell_of_row W _ 5 _ _ (0, 0) f0, cell_of_row W _ 6 _ _ (0, 0) f0, cell_of_row W _ 7 _ _ (0, 0) f0, cell_of_row W _ 8 _ _ (0, 0) f0, cell_of_row W _ 9 _ _ (0, 0) f0, cell_of_row W _ 10 _ _ (0, 0) f0, cell_of_row W _ 11 _ _ (0, 0) f0⟩
  have HD : Hid (∀ W0 x y W, Below w1.heap.size w1 W0 → W = (W0.setCell ⟨w.heap.size + 1, 0, none⟩ x).setCell ⟨w.heap.size + 1, 1, none⟩ y → W.cell? ⟨w.heap.size, 0, none⟩ = some (.int .i64 a0) ∧ W.cell? ⟨w.heap.size, 1, none⟩ = some (.int .i64 a1) ∧ W.cell? ⟨w.heap.size, 2, none⟩ = some (.int .i64 a2) ∧ W.cell? ⟨w.heap.size, 3, none⟩ = some (.int .i64 a3) ∧ W.cell? ⟨w.heap.size, 4, none⟩ = some (.int .i64 a4) ∧ W.cell? ⟨w.heap.size, 5, none⟩ = some (.bool false) ∧ W.cell? ⟨w.heap.size, 6, none⟩ = some (.int .i64 a6) ∧ W.cell? ⟨w.heap.size, 7, none⟩ = some (.int .i64 a7) ∧ W.cell? ⟨w.heap.size, 8, none⟩ = some (.int .i64 a8) ∧ W.cell? ⟨w.heap.size, 9, none⟩ = some (.int .i64 a9) ∧ W.cell? ⟨w.heap.size, 10, none⟩ = some (.int .i64 a10) ∧ W.cell? ⟨w.heap.size, 11, none⟩ = some (.int .i64 a11)) := Lib.hid fun W0 x y W hW e => by
    have f0 : W.heap[w.heap.size]? = some (.cells #[.int .i64 a0, .int .i64 a1, .int .i64 a2, .int .i64 a3, .int .i64 a4, .bool false, .int .i64 a6, .int .i64 a7, .int .i64 a8, .int .i64 a9, .int .i64 a10, .int .i64 a11] 41 (0, 0)) := by
      rw [e, heap_setCell_other _ _ _ _ (show w.heap.size ≠ w.heap.size + 1 by omega), heap_setCell_other _ _ _ _ (show w.heap.size ≠ w.heap.size + 1 by omega)]
      exact (hW.block _ (by omega)).trans g0
    exact ⟨cell_of_row W _ 0 _ _ (0, 0) f0, cell_of_row W _ 1 _ _ (0, 0) f0, cell_of_row W _ 2 _ _ (0, 0) f0, cell_of_row W _ 3 _ _ (0, 0) f0, cell_of_row W _ 4 _ _ (0, 0) f0, cell_of_row W _ 5 _ _ (0, 0) f0, cell_of_row W _ 6 _ _ (0, 0) f0, cell_of_row W _ 7 _ _ (0, 0) f0, cell_of_row W _ 8 _ _ (0, 0) f0, cell_of_row W _ 9 _ _ (0, 0) f0, cell_of_row W _ 10 _ _ (0, 0) f0, cell_of_row W _ 11 _ _ (0, 0) f0⟩
  have HF : Hid (∀ W, Below w1.heap.size w1 W → W.heap[w.heap.size + 1]? = some (.cells #[.slice none 0 0, .slice none 0 0] 111 (0, 0))) := Lib.hid fun W hW => (hW.block _ (by omega)).trans g1
  have HB1 := Lib.hid (And.intro hb1 hs1)
  clear hb1 g0 g1 hs1
  have tok1 : True := trivial
  go_region_held3 (fun W => W.cell? ⟨w.heap.size, 0, none⟩ = some (.int .i64 a0) ∧ W.cell? ⟨w.heap.size, 1, none⟩ = some (.int .i64 a1) ∧ W.cell? ⟨w.heap.size, 2, none⟩ = some (.int .i64 a2) ∧ W.cell? ⟨w.heap.size, 3, none⟩ = some (.int .i64 a3) ∧ W.cell? ⟨w.heap.size, 4, none⟩ = some (.int .i64 a4) ∧ W.cell? ⟨w.heap.size, 5, none⟩ = some (.bool false) ∧ W.cell? ⟨w.heap.size, 6, none⟩ = some (.int .i64 a6) ∧ W.cell? ⟨w.heap.size, 7, none⟩ = some (.int .i64 a7) ∧ W.cell? ⟨w.heap.size, 8, none⟩ = some (.int .i64 a8) ∧ W.cell? ⟨w.heap.size, 9, none⟩ = some (.int .i64 a9) ∧ W.cell? ⟨w.heap.size, 10, none⟩ = some (.int .i64 a10) ∧ W.cell? ⟨w.heap.size, 11, none⟩ = some (.int .i64 a11))
    (first | exact HC.out _ ((Below.refl _ _).drew) | exact HC.out _ (((Below.refl _ _).alloc (Nat.le_refl _) _).drew) | exact HC.out _ ((((Below.refl _ _).alloc (Nat.le_refl _) _).alloc (by simp) _).drew) | exact HC.out _ hb3 | exact HD.out _ _ _ _ hb3 rfl | exact HC.out _ b2 | exact HC.out _ (b2.alloc b2.size _) | exact HC.out _ (b2.alloc b2.size _).drew)
    (first
    | (have _t := tok1; clear tok1; go_at_call 92; refine Calls.mono (HK.out _ _ ?_) ?_; (first | exact RowN.a (l := [a0, a1]) _ _ | exact RowN.b (l := [a0, a1]) _ _ _ | exact RowN.c (l := [a0, a1]) _ _ _ | exact RowN.d (l := [a0, a1]) _ _ _); rintro e w2 ⟨kA, kc, rfl, ko⟩; have ko1 := (by first | exact ko.of_le (w0 := w1) ((Below.refl _ _).alloc (Nat.le_refl _) _).drew | exact ko.of_le (w0 := w1) (((Below.refl _ _).alloc (Nat.le_refl _) _).alloc (by simp) _).drew : OwnB w1 w2 (.slice kA 9 kc) _); have KO := Lib.hid ko1; have b2 := ko1.2; have KB := Lib.hid ko.2; clear ko ko1; have tok2 : True := trivial)
    | (have _t := tok2; clear tok2; go_at_call 110; refine (bitF_any _).mono ?_; rintro e w2x ⟨rfl, rfl⟩; have tok3 : True := trivial)
    | (have _t := tok3; clear tok3; go_at_call 109; refine Calls.mono (HP.out _ _ _ _ _ ?_) ?_; (first | exact RowN.a' (l := [a2, a3, a4, 0, a6, a7, a8, a9, a10, a11]) _ _ | exact RowN.a (l := [a2, a3, a4, 0, a6, a7, a8, a9, a10, a11]) _ _ | exact (RowN.a (l := [a2, a3, a4, 0, a6, a7, a8, a9, a10, a11]) _ _).later KB.out | exact (RowN.c (l := [a2, a3, a4, 0, a6, a7, a8, a9, a10, a11]) _ _ _).later KB.out | exact (RowN.d (l := [a2, a3, a4, 0, a6, a7, a8, a9, a10, a11]) _ _ _).later KB.out | exact (RowN.b (l := [a2, a3, a4, 0, a6, a7, a8, a9, a10, a11]) _ _ _).later KB.out); rintro e w3 ⟨vA, vc, rfl, vo⟩; have B23 : Below w2.heap.size w2 w3 := (by first | exact vo.2 | exact ((Below.refl _ _).alloc (Nat.le_refl _) _).trans (vo.2.mono (by simp)) | exact ((Below.refl _ _).alloc (Nat.le_refl _) _).drew.trans (vo.2.mono (by simp))); have hb3 := b2.trans (B23.mono b2.size); have VO := Lib.hid (by first | exact vo.of_le (w0 := w1) b2 | exact vo.of_le (w0 := w1) (b2.alloc b2.size _) | exact vo.of_le (w0 := w1) (b2.alloc b2.size _).drew : OwnB w1 w3 (.slice vA 80 vc) _); have hf0 := box_frozen (o := 0) (HF.out _ hb3); have hf1 := box_frozen (o := 1) (HF.out _ hb3); have z0 := box_cell0 (HF.out _ hb3); have z1 := box_cell1 (HF.out _ hb3); have HG := Lib.hid (box_set (x := .slice kA 9 kc) (y := .slice vA 80 vc) (HF.out _ hb3)); have HQ := Lib.hid (pairR_boxed (g := w.heap.size + 1) (x := .slice kA 9 kc) (y := .slice vA 80 vc) HB1.out.1 (Nat.le_succ _) (by have := HB1.out.2; omega) KO.out B23 VO.out); clear vo B23 VO KO))
  all_goals
    go_wp2_with fail
    refine bodyPost_ret (results_cell_row rfl _ _ (w.heap.size + 1) _ _ _ _ rfl HG.out Tryz.underlying111 rfl pairSize) rfl ?_
    exact HQ.out

end Go.Proofs.YtlcbmobdokicaaaGreat

/-
  Contracts of the statements' own same and awake, and recs.Node and the plain one for a node of either kind. No condition but that numbers are ints.
-/
namespace Go.Proofs.YtlcbmobdokicaaaGreat
open Go.RowKit
set_option maxRecDepth 100000
set_option linter.unusedVariables false

/-- A bool as a number. -/
def bitI (b : Bool) : Int := if b then 1 else 0
theorem recNode_any (a0 a1 a2 a3 a4 : Int) (a5 : Bool) (a6 a7 a8 a9 a10 a11 : Int) (w : World) (h : In64 [a0, a1, a2, a3, a4, a6, a7, a8, a9, a10, a11]) :
    Calls Tryz.prog 70 #[.agg #[.int .i64 a0, .int .i64 a1, .int .i64 a2, .int .i64 a3, .int .i64 a4, .bool a5, .int .i64 a6, .int .i64 a7, .int .i64 a8, .int .i64 a9, .int .i64 a10, .int .i64 a11]] w fun e w' => RecPair w w' e (keyL 78 [a0, a1]) (packN 8 [a2, a3, a4, bitI a5, a6, a7, a8, a9, a10, a11]) := by
  cases a5 with
  | true => exact recNodeT_any a0 a1 a2 a3 a4 a6 a7 a8 a9 a10 a11 w h
  | false => exact recNodeF_any a0 a1 a2 a3 a4 a6 a7 a8 a9 a10 a11 w h
theorem refNode_any (a0 a1 a2 a3 a4 : Int) (a5 : Bool) (a6 a7 a8 a9 a10 a11 : Int) (w : World) (h : In64 [a0, a1, a2, a3, a4, a6, a7, a8, a9, a10, a11]) :
    Calls Tryz.prog 72 #[.agg #[.int .i64 a0, .int .i64 a1, .int .i64 a2, .int .i64 a3, .int .i64 a4, .bool a5, .int .i64 a6, .int .i64 a7, .int .i64 a8, .int .i64 a9, .int .i64 a10, .int .i64 a11]] w fun e w' => RecPair w w' e (keyL 78 [a0, a1]) (packN 8 [a2, a3, a4, bitI a5, a6, a7, a8, a9, a10, a11]) := by
  cases a5 with
  | true => exact refNodeT_any a0 a1 a2 a3 a4 a6 a7 a8 a9 a10 a11 w h
  | false => exact refNodeF_any a0 a1 a2 a3 a4 a6 a7 a8 a9 a10 a11 w h

/-- A pair that reads as a key and a value. -/
structure Two_ (w : World) (kA : Option Addr) (kn kc : Nat) (vA : Option Addr) (vn vc : Nat) (K V : List Int) : Prop where
  k : RB w w.heap.size kA kn K
  v : RB w w.heap.size vA vn V
  kc : kn ≤ kc
  vc : vn ≤ vc
theorem Two_.later {w w' : World} {kA vA : Option Addr} {kn kc vn vc : Nat} {K V : List Int} (h : Two_ w kA kn kc vA vn vc K V) (hb : Below w.heap.size w w') : Two_ w' kA kn kc vA vn vc K V := ⟨(h.k.below hb).more hb.size, (h.v.below hb).more hb.size, h.kc, h.vc⟩
theorem RecPair.got {w w' : World} {e : Ending} {K V : List Int} (h : RecPair w w' e K V) (hK : AllBytes K) (hV : AllBytes V) : ∃ kA kc vA vc, e = .returned (.agg #[.slice kA K.length kc, .slice vA V.length vc]) ∧ Two_ w' kA K.length kc vA V.length vc K V ∧ Below w.heap.size w w' := by
  obtain ⟨kv, vv, rfl, hk, hv⟩ := h
  obtain ⟨kA, kc, rfl, h1, h2⟩ := hk.read hK
  obtain ⟨vA, vc, rfl, h3, h4⟩ := hv.read hV
  exact ⟨kA, kc, vA, vc, rfl, ⟨h2, h4, h1, h3⟩, hk.2⟩
theorem keyL_bytes {t : Int} (h : 0 ≤ t ∧ t < 256) (l : List Int) : AllBytes (keyL t l) := tagL_bytes h _
theorem keyL_len (t : Int) (l : List Int) (h : l.length ≤ 7) : (keyL t l).length = 1 + 4 * l.length := by unfold keyL; rw [tagL_length, List.length_map, List.length_take]; omega
/-- A call that made a pair, its sizes as numbers. -/
theorem RecPair.gets {w w' : World} {e : Ending} {t : Int} {K V : List Int} {nk nv : Nat} (h : RecPair w w' e (keyL t K) (packN 8 V)) (ht : 0 ≤ t ∧ t < 256) (h7 : K.length ≤ 7) (hk : 1 + 4 * K.length = nk) (hv : 8 * V.length = nv) : ∃ kA kc vA vc, e = .returned (.agg #[.slice kA nk kc, .slice vA nv vc]) ∧ Two_ w' kA nk kc vA nv vc (keyL t K) (packN 8 V) ∧ Below w.heap.size w w' := by
  subst hk hv
  have h' := h.got (keyL_bytes ht K) (packN_bytes 8 V)
  rw [keyL_len t K h7, packN_length] at h'
  exact h'

/-- What was made a pair is told of it again. -/
theorem numsR_made {t : Int} {K V : List Int} {i j : Nat} (hK : InU32 K) (hV : In64 V) (hi : K.length = i) (h7 : i ≤ 7) (hj : V.length = j) (h15 : j ≤ 15) : numsR (keyL t K, packN 8 V) t i j = some (K, V) := by
  have e1 : splitK (keyL t K) = (K, t, true) := by unfold splitK; rw [split_key hK (by omega)]
  have e2 : unpackR (packN 8 V) (j : Int) = (V, 0) := by
    subst hj
    unfold unpackR
    rw [if_pos ⟨by omega, by omega⟩, if_pos (by rw [packN_length]; omega), Int.toNat_natCast, unpack_pack 8 V (fun x hx => num8 (hV x hx))]
  unfold numsR
  simp only [e1, e2]
  rw [if_pos (by simp [hi])]
end Go.Proofs.YtlcbmobdokicaaaGreat
