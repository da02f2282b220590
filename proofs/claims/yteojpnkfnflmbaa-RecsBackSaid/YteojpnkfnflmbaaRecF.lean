/-
  Contracts of the plain Doc, DocLine, Entry, Line, Node: what pair each makes. No condition but that numbers are ints.
-/
import Derived.Test.YteojpnkfnflmbaaRecE
namespace Go.Proofs.Yteojpnkfnflmbaa
open Go.RowKit
set_option maxRecDepth 100000
set_option linter.unusedVariables false

set_option maxHeartbeats 3200000 in
theorem refDoc_any  (a0 : Int) (a1 : Int) (a2 : Int) (a3 : Int) (a4 : Int) (w : World) (h : In64 [a0, a1, a2, a3, a4]) :
    Calls Try.prog 11 #[.agg #[.int .i64 a0, .int .i64 a1, .int .i64 a2, .int .i64 a3, .int .i64 a4]] w fun e w' => PairR w w' e (keyL 68 [a0]) (packN 8 [a1, a2, a3, a4]) := by
  have HP := Lib.hid (rpair_at 68 [a0] [a1, a2, a3, a4] 1 5 4 32 (by omega) (h.sub (by simp)) (h.sub (by simp)) rfl (by omega) rfl rfl (by omega) rfl)
  clear h
  obtain ⟨w1, hw1⟩ : ∃ w1, w1 = ((w.alloc (.cells #[.int .i64 a0, .int .i64 a1, .int .i64 a2, .int .i64 a3, .int .i64 a4] 25)).alloc (.cells #[.slice none 0 0, .slice none 0 0] 36)) := ⟨_, rfl⟩
  have hb1 : Below w.heap.size w w1 := by rw [hw1]; exact ((Below.refl _ _).alloc (Nat.le_refl _) _).alloc (by simp) _
  have g0 : w1.heap[w.heap.size]? = some (.cells #[.int .i64 a0, .int .i64 a1, .int .i64 a2, .int .i64 a3, .int .i64 a4] 25 (0, 0)) := by rw [hw1]; exact (((Below.refl (w.alloc _).heap.size _).alloc (Nat.le_refl _) _).block _ (by simp)).trans (heap_alloc_new _ _)
  have g1 : w1.heap[w.heap.size + 1]? = some (.cells #[.slice none 0 0, .slice none 0 0] 36 (0, 0)) := by rw [hw1]; exact heap_alloc2_new _ _ _
  have hs1 : w1.heap.size = w.heap.size + 2 := by rw [hw1]; simp
  obtain ⟨s0, s1, s2, s3, s4⟩ : w1.cell? ⟨w.heap.size, 0, none⟩ = some (.int .i64 a0) ∧ w1.cell? ⟨w.heap.size, 1, none⟩ = some (.int .i64 a1) ∧ w1.cell? ⟨w.heap.size, 2, none⟩ = some (.int .i64 a2) ∧ w1.cell? ⟨w.heap.size, 3, none⟩ = some (.int .i64 a3) ∧ w1.cell? ⟨w.heap.size, 4, none⟩ = some (.int .i64 a4) := ⟨cell_of_row w1 _ 0 _ _ (0, 0) g0, cell_of_row w1 _ 1 _ _ (0, 0) g0, cell_of_row w1 _ 2 _ _ (0, 0) g0, cell_of_row w1 _ 3 _ _ (0, 0) g0, cell_of_row w1 _ 4 _ _ (0, 0) g0⟩
  go_enter Try.func11, Try.ntmps11
  go_wp2_with fail
  refine Calls.mono (HP.out _ _ _ ?_ ?_) ?_
  · rw [← hw1, show w.heap.size + 1 + 1 = w1.heap.size by omega]; exact RowN.b' (l := [a0]) _ _ _
  · rw [← hw1, show w.heap.size + 1 + 1 = w1.heap.size by omega]; exact RowN.c' (l := [a1, a2, a3, a4]) _ _ _
  rw [← hw1]
  have hb2 : Below w1.heap.size w1 ((w1.alloc (.cells ([a0].map (Value.int .i64)).toArray 3)).alloc (.cells ([a1, a2, a3, a4].map (Value.int .i64)).toArray 3)) := ((Below.refl _ _).alloc (Nat.le_refl _) _).alloc (by simp) _
  rintro e w2 ⟨kA, kc, vA, vc, rfl, hk, hv⟩
  have hk' := hk.of_le hb2
  have hv' := hv.of_le hb2
  have hblk := (hk'.2.block (w.heap.size + 1) (by omega)).trans g1
  have c0 := box_cell0 hblk
  have c1 := box_cell1 hblk
  have hf0 := box_frozen (o := 0) hblk
  have hf1 := box_frozen (o := 1) hblk
  have HG := Lib.hid (box_set (x := .slice kA 5 kc) (y := .slice vA 32 vc) hblk)
  have HQ := Lib.hid (pairR_boxed (g := w.heap.size + 1) (x := .slice kA 5 kc) (y := .slice vA 32 vc) hb1 (Nat.le_succ _) (by omega) hk' (Below.refl _ _) hv')
  clear hk hv hk' hv' hblk hb2 hw1 s0 s1 s2 s3 s4 g0 g1 hb1 hs1
  go_wp2_with fail
  refine bodyPost_ret (results_cell_row rfl _ _ (w.heap.size + 1) _ _ _ _ rfl HG.out Try.underlying36 rfl pairSize) rfl ?_
  exact HQ.out

set_option maxHeartbeats 3200000 in
theorem refDocLine_any (id : Int) (ln : Int) (a0 : Int) (a1 : Int) (a2 : Int) (a3 : Int) (w : World) (h : In64 [a0, a1, a2, a3, id, ln]) :
    Calls Try.prog 13 #[.int .i64 id, .int .i64 ln, .agg #[.int .i64 a0, .int .i64 a1, .int .i64 a2, .int .i64 a3]] w fun e w' => PairR w w' e (keyL 76 [id, ln]) (packN 8 [a0, a1, a2, a3]) := by
  have HP := Lib.hid (rpair_at 76 [id, ln] [a0, a1, a2, a3] 2 9 4 32 (by omega) (h.sub (by simp)) (h.sub (by simp)) rfl (by omega) rfl rfl (by omega) rfl)
  clear h
  obtain ⟨w1, hw1⟩ : ∃ w1, w1 = ((w.alloc (.cells #[.int .i64 a0, .int .i64 a1, .int .i64 a2, .int .i64 a3] 27)).alloc (.cells #[.slice none 0 0, .slice none 0 0] 36)) := ⟨_, rfl⟩
  have hb1 : Below w.heap.size w w1 := by rw [hw1]; exact ((Below.refl _ _).alloc (Nat.le_refl _) _).alloc (by simp) _
  have g0 : w1.heap[w.heap.size]? = some (.cells #[.int .i64 a0, .int .i64 a1, .int .i64 a2, .int .i64 a3] 27 (0, 0)) := by rw [hw1]; exact (((Below.refl (w.alloc _).heap.size _).alloc (Nat.le_refl _) _).block _ (by simp)).trans (heap_alloc_new _ _)
  have g1 : w1.heap[w.heap.size + 1]? = some (.cells #[.slice none 0 0, .slice none 0 0] 36 (0, 0)) := by rw [hw1]; exact heap_alloc2_new _ _ _
  have hs1 : w1.heap.size = w.heap.size + 2 := by rw [hw1]; simp
  obtain ⟨s0, s1, s2, s3⟩ : w1.cell? ⟨w.heap.size, 0, none⟩ = some (.int .i64 a0) ∧ w1.cell? ⟨w.heap.size, 1, none⟩ = some (.int .i64 a1) ∧ w1.cell? ⟨w.heap.size, 2, none⟩ = some (.int .i64 a2) ∧ w1.cell? ⟨w.heap.size, 3, none⟩ = some (.int .i64 a3) := ⟨cell_of_row w1 _ 0 _ _ (0, 0) g0, cell_of_row w1 _ 1 _ _ (0, 0) g0, cell_of_row w1 _ 2 _ _ (0, 0) g0, cell_of_row w1 _ 3 _ _ (0, 0) g0⟩
  go_enter Try.func13, Try.ntmps13
  go_wp2_with fail
  refine Calls.mono (HP.out _ _ _ ?_ ?_) ?_
  · rw [← hw1, show w.heap.size + 1 + 1 = w1.heap.size by omega]; exact RowN.b' (l := [id, ln]) _ _ _
  · rw [← hw1, show w.heap.size + 1 + 1 = w1.heap.size by omega]; exact RowN.c' (l := [a0, a1, a2, a3]) _ _ _
  rw [← hw1]
  have hb2 : Below w1.heap.size w1 ((w1.alloc (.cells ([id, ln].map (Value.int .i64)).toArray 3)).alloc (.cells ([a0, a1, a2, a3].map (Value.int .i64)).toArray 3)) := ((Below.refl _ _).alloc (Nat.le_refl _) _).alloc (by simp) _
  rintro e w2 ⟨kA, kc, vA, vc, rfl, hk, hv⟩
  have hk' := hk.of_le hb2
  have hv' := hv.of_le hb2
  have hblk := (hk'.2.block (w.heap.size + 1) (by omega)).trans g1
  have c0 := box_cell0 hblk
  have c1 := box_cell1 hblk
  have hf0 := box_frozen (o := 0) hblk
  have hf1 := box_frozen (o := 1) hblk
  have HG := Lib.hid (box_set (x := .slice kA 9 kc) (y := .slice vA 32 vc) hblk)
  have HQ := Lib.hid (pairR_boxed (g := w.heap.size + 1) (x := .slice kA 9 kc) (y := .slice vA 32 vc) hb1 (Nat.le_succ _) (by omega) hk' (Below.refl _ _) hv')
  clear hk hv hk' hv' hblk hb2 hw1 s0 s1 s2 s3 g0 g1 hb1 hs1
  go_wp2_with fail
  refine bodyPost_ret (results_cell_row rfl _ _ (w.heap.size + 1) _ _ _ _ rfl HG.out Try.underlying36 rfl pairSize) rfl ?_
  exact HQ.out

set_option maxHeartbeats 3200000 in
theorem refEntry_any  (a0 : Int) (a1 : Int) (a2 : Int) (a3 : Int) (a4 : Int) (a5 : Int) (w : World) (h : In64 [a0, a1, a2, a3, a4, a5]) :
    Calls Try.prog 15 #[.agg #[.int .i64 a0, .int .i64 a1, .int .i64 a2, .int .i64 a3, .int .i64 a4, .int .i64 a5]] w fun e w' => PairR w w' e (keyL 69 [a0]) (packN 8 [a1, a2, a3, a4, a5]) := by
  have HP := Lib.hid (rpair_at 69 [a0] [a1, a2, a3, a4, a5] 1 5 5 40 (by omega) (h.sub (by simp)) (h.sub (by simp)) rfl (by omega) rfl rfl (by omega) rfl)
  clear h
  obtain ⟨w1, hw1⟩ : ∃ w1, w1 = ((w.alloc (.cells #[.int .i64 a0, .int .i64 a1, .int .i64 a2, .int .i64 a3, .int .i64 a4, .int .i64 a5] 29)).alloc (.cells #[.slice none 0 0, .slice none 0 0] 36)) := ⟨_, rfl⟩
  have hb1 : Below w.heap.size w w1 := by rw [hw1]; exact ((Below.refl _ _).alloc (Nat.le_refl _) _).alloc (by simp) _
  have g0 : w1.heap[w.heap.size]? = some (.cells #[.int .i64 a0, .int .i64 a1, .int .i64 a2, .int .i64 a3, .int .i64 a4, .int .i64 a5] 29 (0, 0)) := by rw [hw1]; exact (((Below.refl (w.alloc _).heap.size _).alloc (Nat.le_refl _) _).block _ (by simp)).trans (heap_alloc_new _ _)
  have g1 : w1.heap[w.heap.size + 1]? = some (.cells #[.slice none 0 0, .slice none 0 0] 36 (0, 0)) := by rw [hw1]; exact heap_alloc2_new _ _ _
  have hs1 : w1.heap.size = w.heap.size + 2 := by rw [hw1]; simp
  obtain ⟨s0, s1, s2, s3, s4, s5⟩ : w1.cell? ⟨w.heap.size, 0, none⟩ = some (.int .i64 a0) ∧ w1.cell? ⟨w.heap.size, 1, none⟩ = some (.int .i64 a1) ∧ w1.cell? ⟨w.heap.size, 2, none⟩ = some (.int .i64 a2) ∧ w1.cell? ⟨w.heap.size, 3, none⟩ = some (.int .i64 a3) ∧ w1.cell? ⟨w.heap.size, 4, none⟩ = some (.int .i64 a4) ∧ w1.cell? ⟨w.heap.size, 5, none⟩ = some (.int .i64 a5) := ⟨cell_of_row w1 _ 0 _ _ (0, 0) g0, cell_of_row w1 _ 1 _ _ (0, 0) g0, cell_of_row w1 _ 2 _ _ (0, 0) g0, cell_of_row w1 _ 3 _ _ (0, 0) g0, cell_of_row w1 _ 4 _ _ (0, 0) g0, cell_of_row w1 _ 5 _ _ (0, 0) g0⟩
  go_enter Try.func15, Try.ntmps15
  go_wp2_with fail
  refine Calls.mono (HP.out _ _ _ ?_ ?_) ?_
  · rw [← hw1, show w.heap.size + 1 + 1 = w1.heap.size by omega]; exact RowN.b' (l := [a0]) _ _ _
  · rw [← hw1, show w.heap.size + 1 + 1 = w1.heap.size by omega]; exact RowN.c' (l := [a1, a2, a3, a4, a5]) _ _ _
  rw [← hw1]
  have hb2 : Below w1.heap.size w1 ((w1.alloc (.cells ([a0].map (Value.int .i64)).toArray 3)).alloc (.cells ([a1, a2, a3, a4, a5].map (Value.int .i64)).toArray 3)) := ((Below.refl _ _).alloc (Nat.le_refl _) _).alloc (by simp) _
  rintro e w2 ⟨kA, kc, vA, vc, rfl, hk, hv⟩
  have hk' := hk.of_le hb2
  have hv' := hv.of_le hb2
  have hblk := (hk'.2.block (w.heap.size + 1) (by omega)).trans g1
  have c0 := box_cell0 hblk
  have c1 := box_cell1 hblk
  have hf0 := box_frozen (o := 0) hblk
  have hf1 := box_frozen (o := 1) hblk
  have HG := Lib.hid (box_set (x := .slice kA 5 kc) (y := .slice vA 40 vc) hblk)
  have HQ := Lib.hid (pairR_boxed (g := w.heap.size + 1) (x := .slice kA 5 kc) (y := .slice vA 40 vc) hb1 (Nat.le_succ _) (by omega) hk' (Below.refl _ _) hv')
  clear hk hv hk' hv' hblk hb2 hw1 s0 s1 s2 s3 s4 s5 g0 g1 hb1 hs1
  go_wp2_with fail
  refine bodyPost_ret (results_cell_row rfl _ _ (w.heap.size + 1) _ _ _ _ rfl HG.out Try.underlying36 rfl pairSize) rfl ?_
  exact HQ.out

set_option maxHeartbeats 3200000 in
theorem refLine_any (id : Int) (ln : Int) (a0 : Int) (a1 : Int) (a2 : Int) (a3 : Int) (w : World) (h : In64 [a0, a1, a2, a3, id, ln]) :
    Calls Try.prog 17 #[.int .i64 id, .int .i64 ln, .agg #[.int .i64 a0, .int .i64 a1, .int .i64 a2, .int .i64 a3]] w fun e w' => PairR w w' e (keyL 74 [id, ln]) (packN 8 [a0, a1, a3]) := by
  have HP := Lib.hid (rpair_at 74 [id, ln] [a0, a1, a3] 2 9 3 24 (by omega) (h.sub (by simp)) (h.sub (by simp)) rfl (by omega) rfl rfl (by omega) rfl)
  clear h
  obtain ⟨w1, hw1⟩ : ∃ w1, w1 = ((w.alloc (.cells #[.int .i64 a0, .int .i64 a1, .int .i64 a2, .int .i64 a3] 31)).alloc (.cells #[.slice none 0 0, .slice none 0 0] 36)) := ⟨_, rfl⟩
  have hb1 : Below w.heap.size w w1 := by rw [hw1]; exact ((Below.refl _ _).alloc (Nat.le_refl _) _).alloc (by simp) _
  have g0 : w1.heap[w.heap.size]? = some (.cells #[.int .i64 a0, .int .i64 a1, .int .i64 a2, .int .i64 a3] 31 (0, 0)) := by rw [hw1]; exact (((Below.refl (w.alloc _).heap.size _).alloc (Nat.le_refl _) _).block _ (by simp)).trans (heap_alloc_new _ _)
  have g1 : w1.heap[w.heap.size + 1]? = some (.cells #[.slice none 0 0, .slice none 0 0] 36 (0, 0)) := by rw [hw1]; exact heap_alloc2_new _ _ _
  have hs1 : w1.heap.size = w.heap.size + 2 := by rw [hw1]; simp
  obtain ⟨s0, s1, s2, s3⟩ : w1.cell? ⟨w.heap.size, 0, none⟩ = some (.int .i64 a0) ∧ w1.cell? ⟨w.heap.size, 1, none⟩ = some (.int .i64 a1) ∧ w1.cell? ⟨w.heap.size, 2, none⟩ = some (.int .i64 a2) ∧ w1.cell? ⟨w.heap.size, 3, none⟩ = some (.int .i64 a3) := ⟨cell_of_row w1 _ 0 _ _ (0, 0) g0, cell_of_row w1 _ 1 _ _ (0, 0) g0, cell_of_row w1 _ 2 _ _ (0, 0) g0, cell_of_row w1 _ 3 _ _ (0, 0) g0⟩
  go_enter Try.func17, Try.ntmps17
  go_wp2_with fail
  refine Calls.mono (HP.out _ _ _ ?_ ?_) ?_
  · rw [← hw1, show w.heap.size + 1 + 1 = w1.heap.size by omega]; exact RowN.b' (l := [id, ln]) _ _ _
  · rw [← hw1, show w.heap.size + 1 + 1 = w1.heap.size by omega]; exact RowN.c' (l := [a0, a1, a3]) _ _ _
  rw [← hw1]
  have hb2 : Below w1.heap.size w1 ((w1.alloc (.cells ([id, ln].map (Value.int .i64)).toArray 3)).alloc (.cells ([a0, a1, a3].map (Value.int .i64)).toArray 3)) := ((Below.refl _ _).alloc (Nat.le_refl _) _).alloc (by simp) _
  rintro e w2 ⟨kA, kc, vA, vc, rfl, hk, hv⟩
  have hk' := hk.of_le hb2
  have hv' := hv.of_le hb2
  have hblk := (hk'.2.block (w.heap.size + 1) (by omega)).trans g1
  have c0 := box_cell0 hblk
  have c1 := box_cell1 hblk
  have hf0 := box_frozen (o := 0) hblk
  have hf1 := box_frozen (o := 1) hblk
  have HG := Lib.hid (box_set (x := .slice kA 9 kc) (y := .slice vA 24 vc) hblk)
  have HQ := Lib.hid (pairR_boxed (g := w.heap.size + 1) (x := .slice kA 9 kc) (y := .slice vA 24 vc) hb1 (Nat.le_succ _) (by omega) hk' (Below.refl _ _) hv')
  clear hk hv hk' hv' hblk hb2 hw1 s0 s1 s2 s3 g0 g1 hb1 hs1
  go_wp2_with fail
  refine bodyPost_ret (results_cell_row rfl _ _ (w.heap.size + 1) _ _ _ _ rfl HG.out Try.underlying36 rfl pairSize) rfl ?_
  exact HQ.out

set_option maxHeartbeats 3200000 in
theorem refNodeT_any  (a0 : Int) (a1 : Int) (a2 : Int) (a3 : Int) (a4 : Int) (a6 : Int) (a7 : Int) (a8 : Int) (a9 : Int) (a10 : Int) (a11 : Int) (w : World) (h : In64 [a0, a1, a2, a3, a4, a6, a7, a8, a9, a10, a11]) :
    Calls Try.prog 9 #[.agg #[.int .i64 a0, .int .i64 a1, .int .i64 a2, .int .i64 a3, .int .i64 a4, .bool true, .int .i64 a6, .int .i64 a7, .int .i64 a8, .int .i64 a9, .int .i64 a10, .int .i64 a11]] w fun e w' => PairR w w' e (keyL 78 [a0, a1]) (packN 8 [a2, a3, a4, 1, a6, a7, a8, a9, a10, a11]) := by
  have HP := Lib.hid (rpair_at 78 [a0, a1] [a2, a3, a4, 1, a6, a7, a8, a9, a10, a11] 2 9 10 80 (by omega) (h.sub (by simp)) (by intro v hv; simp only [List.mem_cons, List.not_mem_nil, or_false] at hv; rcases hv with rfl | rfl | rfl | rfl | rfl | rfl | rfl | rfl | rfl | rfl <;> first | omega | exact h _ (by simp)) rfl (by omega) rfl rfl (by omega) rfl)
  clear h
  obtain ⟨w1, hw1⟩ : ∃ w1, w1 = ((w.alloc (.cells #[.int .i64 a0, .int .i64 a1, .int .i64 a2, .int .i64 a3, .int .i64 a4, .bool true, .int .i64 a6, .int .i64 a7, .int .i64 a8, .int .i64 a9, .int .i64 a10, .int .i64 a11] 23)).alloc (.cells #[.slice none 0 0, .slice none 0 0] 36)) := ⟨_, rfl⟩
  have hb1 : Below w.heap.size w w1 := by rw [hw1]; exact ((Below.refl _ _).alloc (Nat.le_refl _) _).alloc (by simp) _
  have g0 : w1.heap[w.heap.size]? = some (.cells #[.int .i64 a0, .int .i64 a1, .int .i64 a2, .int .i64 a3, .int .i64 a4, .bool true, .int .i64 a6, .int .i64 a7, .int .i64 a8, .int .i64 a9, .int .i64 a10, .int .i64 a11] 23 (0, 0)) := by rw [hw1]; exact (((Below.refl (w.alloc _).heap.size _).alloc (Nat.le_refl _) _).block _ (by simp)).trans (heap_alloc_new _ _)
  have g1 : w1.heap[w.heap.size + 1]? = some (.cells #[.slice none 0 0, .slice none 0 0] 36 (0, 0)) := by rw [hw1]; exact heap_alloc2_new _ _ _
  have hs1 : w1.heap.size = w.heap.size + 2 := by rw [hw1]; simp
  obtain ⟨s0, s1, s2, s3, s4, s5, s6, s7, s8, s9, s10, s11⟩ : w1.cell? ⟨w.heap.size, 0, none⟩ = some (.int .i64 a0) ∧ w1.cell? ⟨w.heap.size, 1, none⟩ = some (.int .i64 a1) ∧ w1.cell? ⟨w.heap.size, 2, none⟩ = some (.int .i64 a2) ∧ w1.cell? ⟨w.heap.size, 3, none⟩ = some (.int .i64 a3) ∧ w1.cell? ⟨w.heap.size, 4, none⟩ = some (.int .i64 a4) ∧ w1.cell? ⟨w.heap.size, 5, none⟩ = some (.bool true) ∧ w1.cell? ⟨w.heap.size, 6, none⟩ = some (.int .i64 a6) ∧ w1.cell? ⟨w.heap.size, 7, none⟩ = some (.int .i64 a7) ∧ w1.cell? ⟨w.heap.size, 8, none⟩ = some (.int .i64 a8) ∧ w1.cell? ⟨w.heap.size, 9, none⟩ = some (.int .i64 a9) ∧ w1.cell? ⟨w.heap.size, 10, none⟩ = some (.int .i64 a10) ∧ w1.cell? ⟨w.heap.size, 11, none⟩ = some (.int .i64 a11) := ⟨cell_of_row w1 _ 0 _ _ (0, 0) g0, cell_of_row w1 _ 1 _ _ (0, 0) g0, cell_of_row w1 _ 2 _ _ (0, 0) g0, cell_of_row w1 _ 3 _ _ (0, 0) g0, cell_of_row w1 _ 4 _ _ (0, 0) g0, cell_of_row w1 _ 5 _ _ (0, 0) g0, cell_of_row w1 _ 6 _ _ (0, 0) g0, cell_of_row w1 _ 7 _ _ (0, 0) g0, cell_of_row w1 _ 8 _ _ (0, 0) g0, cell_of_row w1 _ 9 _ _ (0, 0) g0, cell_of_row w1 _ 10 _ _ (0, 0) g0, cell_of_row w1 _ 11 _ _ (0, 0) g0⟩
  go_enter Try.func9, Try.ntmps9
  go_wp2_with fail
  refine Calls.mono (HP.out _ _ _ ?_ ?_) ?_
  · rw [← hw1, show w.heap.size + 1 + 1 = w1.heap.size by omega]; exact RowN.b' (l := [a0, a1]) _ _ _
  · rw [← hw1, show w.heap.size + 1 + 1 = w1.heap.size by omega]; exact RowN.c' (l := [a2, a3, a4, 1, a6, a7, a8, a9, a10, a11]) _ _ _
  rw [← hw1]
  have hb2 : Below w1.heap.size w1 ((w1.alloc (.cells ([a0, a1].map (Value.int .i64)).toArray 3)).alloc (.cells ([a2, a3, a4, 1, a6, a7, a8, a9, a10, a11].map (Value.int .i64)).toArray 3)) := ((Below.refl _ _).alloc (Nat.le_refl _) _).alloc (by simp) _
  rintro e w2 ⟨kA, kc, vA, vc, rfl, hk, hv⟩
  have hk' := hk.of_le hb2
  have hv' := hv.of_le hb2
  have hblk := (hk'.2.block (w.heap.size + 1) (by omega)).trans g1
  have c0 := box_cell0 hblk
  have c1 := box_cell1 hblk
  have hf0 := box_frozen (o := 0) hblk
  have hf1 := box_frozen (o := 1) hblk
  have HG := Lib.hid (box_set (x := .slice kA 9 kc) (y := .slice vA 80 vc) hblk)
  have HQ := Lib.hid (pairR_boxed (g := w.heap.size + 1) (x := .slice kA 9 kc) (y := .slice vA 80 vc) hb1 (Nat.le_succ _) (by omega) hk' (Below.refl _ _) hv')
  clear hk hv hk' hv' hblk hb2 hw1 s0 s1 s2 s3 s4 s5 s6 s7 s8 s9 s10 s11 g0 g1 hb1 hs1
  go_wp2_with fail
  refine bodyPost_ret (results_cell_row rfl _ _ (w.heap.size + 1) _ _ _ _ rfl HG.out Try.underlying36 rfl pairSize) rfl ?_
  exact HQ.out

set_option maxHeartbeats 3200000 in
theorem refNodeF_any  (a0 : Int) (a1 : Int) (a2 : Int) (a3 : Int) (a4 : Int) (a6 : Int) (a7 : Int) (a8 : Int) (a9 : Int) (a10 : Int) (a11 : Int) (w : World) (h : In64 [a0, a1, a2, a3, a4, a6, a7, a8, a9, a10, a11]) :
    Calls Try.prog 9 #[.agg #[.int .i64 a0, .int .i64 a1, .int .i64 a2, .int .i64 a3, .int .i64 a4, .bool false, .int .i64 a6, .int .i64 a7, .int .i64 a8, .int .i64 a9, .int .i64 a10, .int .i64 a11]] w fun e w' => PairR w w' e (keyL 78 [a0, a1]) (packN 8 [a2, a3, a4, 0, a6, a7, a8, a9, a10, a11]) := by
  have HP := Lib.hid (rpair_at 78 [a0, a1] [a2, a3, a4, 0, a6, a7, a8, a9, a10, a11] 2 9 10 80 (by omega) (h.sub (by simp)) (by intro v hv; simp only [List.mem_cons, List.not_mem_nil, or_false] at hv; rcases hv with rfl | rfl | rfl | rfl | rfl | rfl | rfl | rfl | rfl | rfl <;> first | omega | exact h _ (by simp)) rfl (by omega) rfl rfl (by omega) rfl)
  clear h
  obtain ⟨w1, hw1⟩ : ∃ w1, w1 = ((w.alloc (.cells #[.int .i64 a0, .int .i64 a1, .int .i64 a2, .int .i64 a3, .int .i64 a4, .bool false, .int .i64 a6, .int .i64 a7, .int .i64 a8, .int .i64 a9, .int .i64 a10, .int .i64 a11] 23)).alloc (.cells #[.slice none 0 0, .slice none 0 0] 36)) := ⟨_, rfl⟩
  have hb1 : Below w.heap.size w w1 := by rw [hw1]; exact ((Below.refl _ _).alloc (Nat.le_refl _) _).alloc (by simp) _
  have g0 : w1.heap[w.heap.size]? = some (.cells #[.int .i64 a0, .int .i64 a1, .int .i64 a2, .int .i64 a3, .int .i64 a4, .bool false, .int .i64 a6, .int .i64 a7, .int .i64 a8, .int .i64 a9, .int .i64 a10, .int .i64 a11] 23 (0, 0)) := by rw [hw1]; exact (((Below.refl (w.alloc _).heap.size _).alloc (Nat.le_refl _) _).block _ (by simp)).trans (heap_alloc_new _ _)
  have g1 : w1.heap[w.heap.size + 1]? = some (.cells #[.slice none 0 0, .slice none 0 0] 36 (0, 0)) := by rw [hw1]; exact heap_alloc2_new _ _ _
  have hs1 : w1.heap.size = w.heap.size + 2 := by rw [hw1]; simp
  obtain ⟨s0, s1, s2, s3, s4, s5, s6, s7, s8, s9, s10, s11⟩ : w1.cell? ⟨w.heap.size, 0, none⟩ = some (.int .i64 a0) ∧ w1.cell? ⟨w.heap.size, 1, none⟩ = some (.int .i64 a1) ∧ w1.cell? ⟨w.heap.size, 2, none⟩ = some (.int .i64 a2) ∧ w1.cell? ⟨w.heap.size, 3, none⟩ = some (.int .i64 a3) ∧ w1.cell? ⟨w.heap.size, 4, none⟩ = some (.int .i64 a4) ∧ w1.cell? ⟨w.heap.size, 5, none⟩ = some (.bool false) ∧ w1.cell? ⟨w.heap.size, 6, none⟩ = some (.int .i64 a6) ∧ w1.cell? ⟨w.heap.size, 7, none⟩ = some (.int .i64 a7) ∧ w1.cell? ⟨w.heap.size, 8, none⟩ = some (.int .i64 a8) ∧ w1.cell? ⟨w.heap.size, 9, none⟩ = some (.int .i64 a9) ∧ w1.cell? ⟨w.heap.size, 10, none⟩ = some (.int .i64 a10) ∧ w1.cell? ⟨w.heap.size, 11, none⟩ = some (.int .i64 a11) := ⟨cell_of_row w1 _ 0 _ _ (0, 0) g0, cell_of_row w1 _ 1 _ _ (0, 0) g0, cell_of_row w1 _ 2 _ _ (0, 0) g0, cell_of_row w1 _ 3 _ _ (0, 0) g0, cell_of_row w1 _ 4 _ _ (0, 0) g0, cell_of_row w1 _ 5 _ _ (0, 0) g0, cell_of_row w1 _ 6 _ _ (0, 0) g0, cell_of_row w1 _ 7 _ _ (0, 0) g0, cell_of_row w1 _ 8 _ _ (0, 0) g0, cell_of_row w1 _ 9 _ _ (0, 0) g0, cell_of_row w1 _ 10 _ _ (0, 0) g0, cell_of_row w1 _ 11 _ _ (0, 0) g0⟩
  go_enter Try.func9, Try.ntmps9
  go_wp2_with fail
  refine Calls.mono (HP.out _ _ _ ?_ ?_) ?_
  · rw [← hw1, show w.heap.size + 1 + 1 = w1.heap.size by omega]; exact RowN.b' (l := [a0, a1]) _ _ _
  · rw [← hw1, show w.heap.size + 1 + 1 = w1.heap.size by omega]; exact RowN.c' (l := [a2, a3, a4, 0, a6, a7, a8, a9, a10, a11]) _ _ _
  rw [← hw1]
  have hb2 : Below w1.heap.size w1 ((w1.alloc (.cells ([a0, a1].map (Value.int .i64)).toArray 3)).alloc (.cells ([a2, a3, a4, 0, a6, a7, a8, a9, a10, a11].map (Value.int .i64)).toArray 3)) := ((Below.refl _ _).alloc (Nat.le_refl _) _).alloc (by simp) _
  rintro e w2 ⟨kA, kc, vA, vc, rfl, hk, hv⟩
  have hk' := hk.of_le hb2
  have hv' := hv.of_le hb2
  have hblk := (hk'.2.block (w.heap.size + 1) (by omega)).trans g1
  have c0 := box_cell0 hblk
  have c1 := box_cell1 hblk
  have hf0 := box_frozen (o := 0) hblk
  have hf1 := box_frozen (o := 1) hblk
  have HG := Lib.hid (box_set (x := .slice kA 9 kc) (y := .slice vA 80 vc) hblk)
  have HQ := Lib.hid (pairR_boxed (g := w.heap.size + 1) (x := .slice kA 9 kc) (y := .slice vA 80 vc) hb1 (Nat.le_succ _) (by omega) hk' (Below.refl _ _) hv')
  clear hk hv hk' hv' hblk hb2 hw1 s0 s1 s2 s3 s4 s5 s6 s7 s8 s9 s10 s11 g0 g1 hb1 hs1
  go_wp2_with fail
  refine bodyPost_ret (results_cell_row rfl _ _ (w.heap.size + 1) _ _ _ _ rfl HG.out Try.underlying36 rfl pairSize) rfl ?_
  exact HQ.out

end Go.Proofs.Yteojpnkfnflmbaa
