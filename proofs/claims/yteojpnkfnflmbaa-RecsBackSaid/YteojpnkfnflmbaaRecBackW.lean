/-
  RecsBack by the walk: it returns true. Condition: the numbers that came in are within their kinds.
-/
import Derived.Test.YteojpnkfnflmbaaRecH
import Derived.Test.YteojpnkfnflmbaaRecI
import Derived.Test.YteojpnkfnflmbaaRecJ
import Derived.Deep.RegionHeld3
namespace Go.Proofs.Yteojpnkfnflmbaa
open Go.RowKit
set_option maxRecDepth 100000
set_option linter.unusedVariables false

theorem u32_wrap {x : Int} (h : 0 ≤ x ∧ x < 4294967296) : IntKind.i64.wrap x = x := by rw [IntKind.wrap_i64]; first | (unfold wrap64; omega) | omega
theorem box_stands' {w W : World} {o : Obj} (h : Below (w.alloc o).heap.size (w.alloc o) W) : W.heap[w.heap.size]? = some o :=
  (h.block _ (by simp)).trans (box_last w o rfl)

set_option maxHeartbeats 12800000 in
theorem recsBack_any (a0 a1 a2 a3 a4 : Int) (a5 : Bool) (a6 a7 a8 a9 a10 a11 b0 b1 b2 b3 b4 c0 c1 c2 c3 e0 e1 e2 e3 e4 e5 x0 x1 x2 x3 i0 i1 i2 i3 : Int) (w : World) (hN : In64 [a0, a1, a2, a3, a4, a6, a7, a8, a9, a10, a11]) (hD : In64 [b0, b1, b2, b3, b4]) (hL : In64 [c0, c1, c2, c3]) (hE : In64 [e0, e1, e2, e3, e4, e5]) (hX : In64 [x0, x1, x2, x3]) (hA : InU32 [i0, i1, i2, i3]) :
    Calls Try.prog 5 #[.agg #[.int .i64 a0, .int .i64 a1, .int .i64 a2, .int .i64 a3, .int .i64 a4, .bool a5, .int .i64 a6, .int .i64 a7, .int .i64 a8, .int .i64 a9, .int .i64 a10, .int .i64 a11], .agg #[.int .i64 b0, .int .i64 b1, .int .i64 b2, .int .i64 b3, .int .i64 b4], .agg #[.int .i64 c0, .int .i64 c1, .int .i64 c2, .int .i64 c3], .agg #[.int .i64 e0, .int .i64 e1, .int .i64 e2, .int .i64 e3, .int .i64 e4, .int .i64 e5], .agg #[.int .i64 x0, .int .i64 x1, .int .i64 x2, .int .i64 x3], .agg #[.int .u32 i0, .int .u32 i1, .int .u32 i2, .int .u32 i3]] w fun e w' => e = .returned (.bool true) ∧ Below w.heap.size w w' := by
  obtain ⟨w1, hw1⟩ : ∃ w1, w1 = ((((((w.alloc (.cells #[.int .i64 a0, .int .i64 a1, .int .i64 a2, .int .i64 a3, .int .i64 a4, .bool a5, .int .i64 a6, .int .i64 a7, .int .i64 a8, .int .i64 a9, .int .i64 a10, .int .i64 a11] 23)).alloc (.cells #[.int .i64 b0, .int .i64 b1, .int .i64 b2, .int .i64 b3, .int .i64 b4] 25)).alloc (.cells #[.int .i64 c0, .int .i64 c1, .int .i64 c2, .int .i64 c3] 27)).alloc (.cells #[.int .i64 e0, .int .i64 e1, .int .i64 e2, .int .i64 e3, .int .i64 e4, .int .i64 e5] 29)).alloc (.cells #[.int .i64 x0, .int .i64 x1, .int .i64 x2, .int .i64 x3] 31)).alloc (.cells #[.int .u32 i0, .int .u32 i1, .int .u32 i2, .int .u32 i3] 56)) := ⟨_, rfl⟩
  obtain ⟨q0_0, q0_1, q0_2, q0_3, q0_4, q0_5, hb1⟩ := six_boxes w (.cells #[.int .i64 a0, .int .i64 a1, .int .i64 a2, .int .i64 a3, .int .i64 a4, .bool a5, .int .i64 a6, .int .i64 a7, .int .i64 a8, .int .i64 a9, .int .i64 a10, .int .i64 a11] 23) (.cells #[.int .i64 b0, .int .i64 b1, .int .i64 b2, .int .i64 b3, .int .i64 b4] 25) (.cells #[.int .i64 c0, .int .i64 c1, .int .i64 c2, .int .i64 c3] 27) (.cells #[.int .i64 e0, .int .i64 e1, .int .i64 e2, .int .i64 e3, .int .i64 e4, .int .i64 e5] 29) (.cells #[.int .i64 x0, .int .i64 x1, .int .i64 x2, .int .i64 x3] 31) (.cells #[.int .u32 i0, .int .u32 i1, .int .u32 i2, .int .u32 i3] 56)
  rw [← hw1] at q0_0 q0_1 q0_2 q0_3 q0_4 q0_5 hb1
  have v0 := u32_wrap (hA i0 (by simp))
  have v1 := u32_wrap (hA i1 (by simp))
  have v2 := u32_wrap (hA i2 (by simp))
  have v3 := u32_wrap (hA i3 (by simp))
  replace q0_0 : w1.heap[w.heap.size]? = some (.cells #[.int .i64 a0, .int .i64 a1, .int .i64 a2, .int .i64 a3, .int .i64 a4, .bool a5, .int .i64 a6, .int .i64 a7, .int .i64 a8, .int .i64 a9, .int .i64 a10, .int .i64 a11] 23 (0, 0)) := q0_0
  replace q0_1 : w1.heap[w.heap.size + 1]? = some (.cells #[.int .i64 b0, .int .i64 b1, .int .i64 b2, .int .i64 b3, .int .i64 b4] 25 (0, 0)) := q0_1
  replace q0_2 : w1.heap[w.heap.size + 1 + 1]? = some (.cells #[.int .i64 c0, .int .i64 c1, .int .i64 c2, .int .i64 c3] 27 (0, 0)) := q0_2
  replace q0_3 : w1.heap[w.heap.size + 1 + 1 + 1]? = some (.cells #[.int .i64 e0, .int .i64 e1, .int .i64 e2, .int .i64 e3, .int .i64 e4, .int .i64 e5] 29 (0, 0)) := q0_3
  replace q0_4 : w1.heap[w.heap.size + 1 + 1 + 1 + 1]? = some (.cells #[.int .i64 x0, .int .i64 x1, .int .i64 x2, .int .i64 x3] 31 (0, 0)) := q0_4
  replace q0_5 : w1.heap[w.heap.size + 1 + 1 + 1 + 1 + 1]? = some (.cells #[.int .u32 i0, .int .u32 i1, .int .u32 i2, .int .u32 i3] 56 (0, 0)) := q0_5
  have S0 := docLine_cells (w := w1.drew) q0_5
  have T0 := hb1
  have f1 : w1.drew.frozen? ⟨w.heap.size, 0, none⟩ = false := box_frozen (w := w1.drew) q0_0
  have o1 : w1.drew.cell? ⟨w.heap.size, 0, none⟩ = some (.int .i64 a0) := by
    obtain ⟨z0, z1, z2, z3, z4, z5, z6, z7, z8, z9, z10, z11⟩ := node_cells (w := w1.drew) q0_0
    exact z0
  obtain ⟨s1, hs1⟩ : ∃ s, s = (w1.setCell ⟨w.heap.size, 0, none⟩ (.int .i64 i0)) := ⟨_, rfl⟩
  have q1_0 : s1.heap[w.heap.size]? = some (.cells #[.int .i64 i0, .int .i64 a1, .int .i64 a2, .int .i64 a3, .int .i64 a4, .bool a5, .int .i64 a6, .int .i64 a7, .int .i64 a8, .int .i64 a9, .int .i64 a10, .int .i64 a11] 23 (0, 0)) := by
    rw [hs1]
    exact heap_setCell_same _ (w.heap.size) 0 _ _ _ q0_0
  have q1_1 : s1.heap[w.heap.size + 1]? = some (.cells #[.int .i64 b0, .int .i64 b1, .int .i64 b2, .int .i64 b3, .int .i64 b4] 25 (0, 0)) := by
    rw [hs1, heap_setCell_other _ _ _ _ (show w.heap.size + 1 ≠ w.heap.size by omega)]
    exact q0_1
  have q1_2 : s1.heap[w.heap.size + 1 + 1]? = some (.cells #[.int .i64 c0, .int .i64 c1, .int .i64 c2, .int .i64 c3] 27 (0, 0)) := by
    rw [hs1, heap_setCell_other _ _ _ _ (show w.heap.size + 1 + 1 ≠ w.heap.size by omega)]
    exact q0_2
  have q1_3 : s1.heap[w.heap.size + 1 + 1 + 1]? = some (.cells #[.int .i64 e0, .int .i64 e1, .int .i64 e2, .int .i64 e3, .int .i64 e4, .int .i64 e5] 29 (0, 0)) := by
    rw [hs1, heap_setCell_other _ _ _ _ (show w.heap.size + 1 + 1 + 1 ≠ w.heap.size by omega)]
    exact q0_3
  have q1_4 : s1.heap[w.heap.size + 1 + 1 + 1 + 1]? = some (.cells #[.int .i64 x0, .int .i64 x1, .int .i64 x2, .int .i64 x3] 31 (0, 0)) := by
    rw [hs1, heap_setCell_other _ _ _ _ (show w.heap.size + 1 + 1 + 1 + 1 ≠ w.heap.size by omega)]
    exact q0_4
  have q1_5 : s1.heap[w.heap.size + 1 + 1 + 1 + 1 + 1]? = some (.cells #[.int .u32 i0, .int .u32 i1, .int .u32 i2, .int .u32 i3] 56 (0, 0)) := by
    rw [hs1, heap_setCell_other _ _ _ _ (show w.heap.size + 1 + 1 + 1 + 1 + 1 ≠ w.heap.size by omega)]
    exact q0_5
  have T1 : Below w.heap.size w s1 := by
    rw [hs1]
    exact T0.setCell (show w.heap.size ≤ w.heap.size by omega) _
  have S1 := docLine_cells (w := s1.drew) q1_5
  have f2 : s1.drew.frozen? ⟨w.heap.size, 1, none⟩ = false := box_frozen (w := s1.drew) q1_0
  have o2 : s1.drew.cell? ⟨w.heap.size, 1, none⟩ = some (.int .i64 a1) := by
    obtain ⟨z0, z1, z2, z3, z4, z5, z6, z7, z8, z9, z10, z11⟩ := node_cells (w := s1.drew) q1_0
    exact z1
  obtain ⟨s2, hs2⟩ : ∃ s, s = (s1.setCell ⟨w.heap.size, 1, none⟩ (.int .i64 i1)) := ⟨_, rfl⟩
  have q2_0 : s2.heap[w.heap.size]? = some (.cells #[.int .i64 i0, .int .i64 i1, .int .i64 a2, .int .i64 a3, .int .i64 a4, .bool a5, .int .i64 a6, .int .i64 a7, .int .i64 a8, .int .i64 a9, .int .i64 a10, .int .i64 a11] 23 (0, 0)) := by
    rw [hs2]
    exact heap_setCell_same _ (w.heap.size) 1 _ _ _ q1_0
  have q2_1 : s2.heap[w.heap.size + 1]? = some (.cells #[.int .i64 b0, .int .i64 b1, .int .i64 b2, .int .i64 b3, .int .i64 b4] 25 (0, 0)) := by
    rw [hs2, heap_setCell_other _ _ _ _ (show w.heap.size + 1 ≠ w.heap.size by omega)]
    exact q1_1
  have q2_2 : s2.heap[w.heap.size + 1 + 1]? = some (.cells #[.int .i64 c0, .int .i64 c1, .int .i64 c2, .int .i64 c3] 27 (0, 0)) := by
    rw [hs2, heap_setCell_other _ _ _ _ (show w.heap.size + 1 + 1 ≠ w.heap.size by omega)]
    exact q1_2
  have q2_3 : s2.heap[w.heap.size + 1 + 1 + 1]? = some (.cells #[.int .i64 e0, .int .i64 e1, .int .i64 e2, .int .i64 e3, .int .i64 e4, .int .i64 e5] 29 (0, 0)) := by
    rw [hs2, heap_setCell_other _ _ _ _ (show w.heap.size + 1 + 1 + 1 ≠ w.heap.size by omega)]
    exact q1_3
  have q2_4 : s2.heap[w.heap.size + 1 + 1 + 1 + 1]? = some (.cells #[.int .i64 x0, .int .i64 x1, .int .i64 x2, .int .i64 x3] 31 (0, 0)) := by
    rw [hs2, heap_setCell_other _ _ _ _ (show w.heap.size + 1 + 1 + 1 + 1 ≠ w.heap.size by omega)]
    exact q1_4
  have q2_5 : s2.heap[w.heap.size + 1 + 1 + 1 + 1 + 1]? = some (.cells #[.int .u32 i0, .int .u32 i1, .int .u32 i2, .int .u32 i3] 56 (0, 0)) := by
    rw [hs2, heap_setCell_other _ _ _ _ (show w.heap.size + 1 + 1 + 1 + 1 + 1 ≠ w.heap.size by omega)]
    exact q1_5
  have T2 : Below w.heap.size w s2 := by
    rw [hs2]
    exact T1.setCell (show w.heap.size ≤ w.heap.size by omega) _
  have S2 := docLine_cells (w := s2.drew) q2_5
  have f3 : s2.drew.frozen? ⟨w.heap.size + 1, 0, none⟩ = false := box_frozen (w := s2.drew) q2_1
  have o3 : s2.drew.cell? ⟨w.heap.size + 1, 0, none⟩ = some (.int .i64 b0) := by
    obtain ⟨z0, z1, z2, z3, z4⟩ := doc_cells (w := s2.drew) q2_1
    exact z0
  obtain ⟨s3, hs3⟩ : ∃ s, s = (s2.setCell ⟨w.heap.size + 1, 0, none⟩ (.int .i64 i2)) := ⟨_, rfl⟩
  have q3_0 : s3.heap[w.heap.size]? = some (.cells #[.int .i64 i0, .int .i64 i1, .int .i64 a2, .int .i64 a3, .int .i64 a4, .bool a5, .int .i64 a6, .int .i64 a7, .int .i64 a8, .int .i64 a9, .int .i64 a10, .int .i64 a11] 23 (0, 0)) := by
    rw [hs3, heap_setCell_other _ _ _ _ (show w.heap.size ≠ w.heap.size + 1 by omega)]
    exact q2_0
  have q3_1 : s3.heap[w.heap.size + 1]? = some (.cells #[.int .i64 i2, .int .i64 b1, .int .i64 b2, .int .i64 b3, .int .i64 b4] 25 (0, 0)) := by
    rw [hs3]
    exact heap_setCell_same _ (w.heap.size + 1) 0 _ _ _ q2_1
  have q3_2 : s3.heap[w.heap.size + 1 + 1]? = some (.cells #[.int .i64 c0, .int .i64 c1, .int .i64 c2, .int .i64 c3] 27 (0, 0)) := by
    rw [hs3, heap_setCell_other _ _ _ _ (show w.heap.size + 1 + 1 ≠ w.heap.size + 1 by omega)]
    exact q2_2
  have q3_3 : s3.heap[w.heap.size + 1 + 1 + 1]? = some (.cells #[.int .i64 e0, .int .i64 e1, .int .i64 e2, .int .i64 e3, .int .i64 e4, .int .i64 e5] 29 (0, 0)) := by
    rw [hs3, heap_setCell_other _ _ _ _ (show w.heap.size + 1 + 1 + 1 ≠ w.heap.size + 1 by omega)]
    exact q2_3
  have q3_4 : s3.heap[w.heap.size + 1 + 1 + 1 + 1]? = some (.cells #[.int .i64 x0, .int .i64 x1, .int .i64 x2, .int .i64 x3] 31 (0, 0)) := by
    rw [hs3, heap_setCell_other _ _ _ _ (show w.heap.size + 1 + 1 + 1 + 1 ≠ w.heap.size + 1 by omega)]
    exact q2_4
  have q3_5 : s3.heap[w.heap.size + 1 + 1 + 1 + 1 + 1]? = some (.cells #[.int .u32 i0, .int .u32 i1, .int .u32 i2, .int .u32 i3] 56 (0, 0)) := by
    rw [hs3, heap_setCell_other _ _ _ _ (show w.heap.size + 1 + 1 + 1 + 1 + 1 ≠ w.heap.size + 1 by omega)]
    exact q2_5
  have T3 : Below w.heap.size w s3 := by
    rw [hs3]
    exact T2.setCell (show w.heap.size ≤ w.heap.size + 1 by omega) _
  have S3 := docLine_cells (w := s3.drew) q3_5
  have f4 : s3.drew.frozen? ⟨w.heap.size + 1 + 1 + 1, 0, none⟩ = false := box_frozen (w := s3.drew) q3_3
  have o4 : s3.drew.cell? ⟨w.heap.size + 1 + 1 + 1, 0, none⟩ = some (.int .i64 e0) := by
    obtain ⟨z0, z1, z2, z3, z4, z5⟩ := entry_cells (w := s3.drew) q3_3
    exact z0
  obtain ⟨s4, hs4⟩ : ∃ s, s = (s3.setCell ⟨w.heap.size + 1 + 1 + 1, 0, none⟩ (.int .i64 i3)) := ⟨_, rfl⟩
  have q4_0 : s4.heap[w.heap.size]? = some (.cells #[.int .i64 i0, .int .i64 i1, .int .i64 a2, .int .i64 a3, .int .i64 a4, .bool a5, .int .i64 a6, .int .i64 a7, .int .i64 a8, .int .i64 a9, .int .i64 a10, .int .i64 a11] 23 (0, 0)) := by
    rw [hs4, heap_setCell_other _ _ _ _ (show w.heap.size ≠ w.heap.size + 1 + 1 + 1 by omega)]
    exact q3_0
  have q4_1 : s4.heap[w.heap.size + 1]? = some (.cells #[.int .i64 i2, .int .i64 b1, .int .i64 b2, .int .i64 b3, .int .i64 b4] 25 (0, 0)) := by
    rw [hs4, heap_setCell_other _ _ _ _ (show w.heap.size + 1 ≠ w.heap.size + 1 + 1 + 1 by omega)]
    exact q3_1
  have q4_2 : s4.heap[w.heap.size + 1 + 1]? = some (.cells #[.int .i64 c0, .int .i64 c1, .int .i64 c2, .int .i64 c3] 27 (0, 0)) := by
    rw [hs4, heap_setCell_other _ _ _ _ (show w.heap.size + 1 + 1 ≠ w.heap.size + 1 + 1 + 1 by omega)]
    exact q3_2
  have q4_3 : s4.heap[w.heap.size + 1 + 1 + 1]? = some (.cells #[.int .i64 i3, .int .i64 e1, .int .i64 e2, .int .i64 e3, .int .i64 e4, .int .i64 e5] 29 (0, 0)) := by
    rw [hs4]
    exact heap_setCell_same _ (w.heap.size + 1 + 1 + 1) 0 _ _ _ q3_3
  have q4_4 : s4.heap[w.heap.size + 1 + 1 + 1 + 1]? = some (.cells #[.int .i64 x0, .int .i64 x1, .int .i64 x2, .int .i64 x3] 31 (0, 0)) := by
    rw [hs4, heap_setCell_other _ _ _ _ (show w.heap.size + 1 + 1 + 1 + 1 ≠ w.heap.size + 1 + 1 + 1 by omega)]
    exact q3_4
  have q4_5 : s4.heap[w.heap.size + 1 + 1 + 1 + 1 + 1]? = some (.cells #[.int .u32 i0, .int .u32 i1, .int .u32 i2, .int .u32 i3] 56 (0, 0)) := by
    rw [hs4, heap_setCell_other _ _ _ _ (show w.heap.size + 1 + 1 + 1 + 1 + 1 ≠ w.heap.size + 1 + 1 + 1 by omega)]
    exact q3_5
  have T4 : Below w.heap.size w s4 := by
    rw [hs4]
    exact T3.setCell (show w.heap.size ≤ w.heap.size + 1 + 1 + 1 by omega) _
  have S4 := docLine_cells (w := s4.drew) q4_5
  have f5 : s4.drew.frozen? ⟨w.heap.size + 1 + 1 + 1 + 1, 2, none⟩ = false := box_frozen (w := s4.drew) q4_4
  have o5 : s4.drew.cell? ⟨w.heap.size + 1 + 1 + 1 + 1, 2, none⟩ = some (.int .i64 x2) := by
    obtain ⟨z0, z1, z2, z3⟩ := line_cells (w := s4.drew) q4_4
    exact z2
  obtain ⟨s5, hs5⟩ : ∃ s, s = (s4.setCell ⟨w.heap.size + 1 + 1 + 1 + 1, 2, none⟩ (.int .i64 0)) := ⟨_, rfl⟩
  have q5_0 : s5.heap[w.heap.size]? = some (.cells #[.int .i64 i0, .int .i64 i1, .int .i64 a2, .int .i64 a3, .int .i64 a4, .bool a5, .int .i64 a6, .int .i64 a7, .int .i64 a8, .int .i64 a9, .int .i64 a10, .int .i64 a11] 23 (0, 0)) := by
    rw [hs5, heap_setCell_other _ _ _ _ (show w.heap.size ≠ w.heap.size + 1 + 1 + 1 + 1 by omega)]
    exact q4_0
  have q5_1 : s5.heap[w.heap.size + 1]? = some (.cells #[.int .i64 i2, .int .i64 b1, .int .i64 b2, .int .i64 b3, .int .i64 b4] 25 (0, 0)) := by
    rw [hs5, heap_setCell_other _ _ _ _ (show w.heap.size + 1 ≠ w.heap.size + 1 + 1 + 1 + 1 by omega)]
    exact q4_1
  have q5_2 : s5.heap[w.heap.size + 1 + 1]? = some (.cells #[.int .i64 c0, .int .i64 c1, .int .i64 c2, .int .i64 c3] 27 (0, 0)) := by
    rw [hs5, heap_setCell_other _ _ _ _ (show w.heap.size + 1 + 1 ≠ w.heap.size + 1 + 1 + 1 + 1 by omega)]
    exact q4_2
  have q5_3 : s5.heap[w.heap.size + 1 + 1 + 1]? = some (.cells #[.int .i64 i3, .int .i64 e1, .int .i64 e2, .int .i64 e3, .int .i64 e4, .int .i64 e5] 29 (0, 0)) := by
    rw [hs5, heap_setCell_other _ _ _ _ (show w.heap.size + 1 + 1 + 1 ≠ w.heap.size + 1 + 1 + 1 + 1 by omega)]
    exact q4_3
  have q5_4 : s5.heap[w.heap.size + 1 + 1 + 1 + 1]? = some (.cells #[.int .i64 x0, .int .i64 x1, .int .i64 0, .int .i64 x3] 31 (0, 0)) := by
    rw [hs5]
    exact heap_setCell_same _ (w.heap.size + 1 + 1 + 1 + 1) 2 _ _ _ q4_4
  have q5_5 : s5.heap[w.heap.size + 1 + 1 + 1 + 1 + 1]? = some (.cells #[.int .u32 i0, .int .u32 i1, .int .u32 i2, .int .u32 i3] 56 (0, 0)) := by
    rw [hs5, heap_setCell_other _ _ _ _ (show w.heap.size + 1 + 1 + 1 + 1 + 1 ≠ w.heap.size + 1 + 1 + 1 + 1 by omega)]
    exact q4_5
  have T5 : Below w.heap.size w s5 := by
    rw [hs5]
    exact T4.setCell (show w.heap.size ≤ w.heap.size + 1 + 1 + 1 + 1 by omega) _
  have S5 := docLine_cells (w := s5.drew) q5_5
  have hT := T5.drew
  replace q5_0 : s5.drew.heap[w.heap.size]? = some (.cells #[.int .i64 i0, .int .i64 i1, .int .i64 a2, .int .i64 a3, .int .i64 a4, .bool a5, .int .i64 a6, .int .i64 a7, .int .i64 a8, .int .i64 a9, .int .i64 a10, .int .i64 a11] 23 (0, 0)) := q5_0
  replace q5_1 : s5.drew.heap[w.heap.size + 1]? = some (.cells #[.int .i64 i2, .int .i64 b1, .int .i64 b2, .int .i64 b3, .int .i64 b4] 25 (0, 0)) := q5_1
  replace q5_2 : s5.drew.heap[w.heap.size + 1 + 1]? = some (.cells #[.int .i64 c0, .int .i64 c1, .int .i64 c2, .int .i64 c3] 27 (0, 0)) := q5_2
  replace q5_3 : s5.drew.heap[w.heap.size + 1 + 1 + 1]? = some (.cells #[.int .i64 i3, .int .i64 e1, .int .i64 e2, .int .i64 e3, .int .i64 e4, .int .i64 e5] 29 (0, 0)) := q5_3
  replace q5_4 : s5.drew.heap[w.heap.size + 1 + 1 + 1 + 1]? = some (.cells #[.int .i64 x0, .int .i64 x1, .int .i64 0, .int .i64 x3] 31 (0, 0)) := q5_4
  replace q5_5 : s5.drew.heap[w.heap.size + 1 + 1 + 1 + 1 + 1]? = some (.cells #[.int .u32 i0, .int .u32 i1, .int .u32 i2, .int .u32 i3] 56 (0, 0)) := q5_5
  clear q0_0 q0_1 q0_2 q0_3 q0_4 q0_5 q1_0 q1_1 q1_2 q1_3 q1_4 q1_5 q2_0 q2_1 q2_2 q2_3 q2_4 q2_5 q3_0 q3_1 q3_2 q3_3 q3_4 q3_5 q4_0 q4_1 q4_2 q4_3 q4_4 q4_5 hb1 T0 T1 T2 T3 T4 T5
  have hq := Lib.hid (And.intro hT (And.intro q5_0 (And.intro q5_1 (And.intro q5_2 (And.intro q5_3 (And.intro q5_4 q5_5))))))
  clear hT q5_0 q5_1 q5_2 q5_3 q5_4 q5_5
  replace S0 := Lib.hid S0
  replace S1 := Lib.hid S1
  replace S2 := Lib.hid S2
  replace S3 := Lib.hid S3
  replace S4 := Lib.hid S4
  replace S5 := Lib.hid S5
  subst hs5 hs4 hs3 hs2 hs1
  have HN := Lib.hid hN
  have HD := Lib.hid hD
  have HL := Lib.hid hL
  have HE := Lib.hid hE
  have HX := Lib.hid hX
  have HA := Lib.hid hA
  clear hN hD hL hE hX hA
  go_enter Try.func5, Try.ntmps5
  go_wp2_with fail
  rw [← hw1]
  clear hw1
  go_region_held3 (fun W => W.cell? ⟨w.heap.size + 1 + 1 + 1 + 1 + 1, 0, none⟩ = some (.int .u32 i0) ∧ W.cell? ⟨w.heap.size + 1 + 1 + 1 + 1 + 1, 1, none⟩ = some (.int .u32 i1) ∧ W.cell? ⟨w.heap.size + 1 + 1 + 1 + 1 + 1, 2, none⟩ = some (.int .u32 i2) ∧ W.cell? ⟨w.heap.size + 1 + 1 + 1 + 1 + 1, 3, none⟩ = some (.int .u32 i3))
    (first | with_reducible exact S0.out | with_reducible exact S1.out | with_reducible exact S2.out | with_reducible exact S3.out | with_reducible exact S4.out | with_reducible exact S5.out)
    (first | fail)
  clear S0 S1 S2 S3 S4 S5 f1 f2 f3 f4 f5 o1 o2 o3 o4 o5
  obtain ⟨u0, hu0⟩ : ∃ u, u = (((((w1.setCell ⟨w.heap.size, 0, none⟩ (.int .i64 i0)).setCell ⟨w.heap.size, 1, none⟩ (.int .i64 i1)).setCell ⟨w.heap.size + 1, 0, none⟩ (.int .i64 i2)).setCell ⟨w.heap.size + 1 + 1 + 1, 0, none⟩ (.int .i64 i3)).setCell ⟨w.heap.size + 1 + 1 + 1 + 1, 2, none⟩ (.int .i64 0)).drew := ⟨_, rfl⟩
  rw [← hu0] at hq ⊢
  clear hu0
  obtain ⟨hT, g0, g1, g2, g3, g4, g5⟩ := hq.out
  have C0 : Hid (∀ W, Below u0.heap.size u0 W → W.cell? ⟨w.heap.size, 0, none⟩ = some (.int .i64 i0) ∧ W.cell? ⟨w.heap.size, 1, none⟩ = some (.int .i64 i1) ∧ W.cell? ⟨w.heap.size, 2, none⟩ = some (.int .i64 a2) ∧ W.cell? ⟨w.heap.size, 3, none⟩ = some (.int .i64 a3) ∧ W.cell? ⟨w.heap.size, 4, none⟩ = some (.int .i64 a4) ∧ W.cell? ⟨w.heap.size, 5, none⟩ = some (.bool a5) ∧ W.cell? ⟨w.heap.size, 6, none⟩ = some (.int .i64 a6) ∧ W.cell? ⟨w.heap.size, 7, none⟩ = some (.int .i64 a7) ∧ W.cell? ⟨w.heap.size, 8, none⟩ = some (.int .i64 a8) ∧ W.cell? ⟨w.heap.size, 9, none⟩ = some (.int .i64 a9) ∧ W.cell? ⟨w.heap.size, 10, none⟩ = some (.int .i64 a10) ∧ W.cell? ⟨w.heap.size, 11, none⟩ = some (.int .i64 a11)) := Lib.hid fun W hW => node_cells ((hW.block _ (Array.getElem?_eq_some_iff.1 g0).1).trans g0)
  have C1 : Hid (∀ W, Below u0.heap.size u0 W → W.cell? ⟨w.heap.size + 1, 0, none⟩ = some (.int .i64 i2) ∧ W.cell? ⟨w.heap.size + 1, 1, none⟩ = some (.int .i64 b1) ∧ W.cell? ⟨w.heap.size + 1, 2, none⟩ = some (.int .i64 b2) ∧ W.cell? ⟨w.heap.size + 1, 3, none⟩ = some (.int .i64 b3) ∧ W.cell? ⟨w.heap.size + 1, 4, none⟩ = some (.int .i64 b4)) := Lib.hid fun W hW => doc_cells ((hW.block _ (Array.getElem?_eq_some_iff.1 g1).1).trans g1)
  have C2 : Hid (∀ W, Below u0.heap.size u0 W → W.cell? ⟨w.heap.size + 1 + 1, 0, none⟩ = some (.int .i64 c0) ∧ W.cell? ⟨w.heap.size + 1 + 1, 1, none⟩ = some (.int .i64 c1) ∧ W.cell? ⟨w.heap.size + 1 + 1, 2, none⟩ = some (.int .i64 c2) ∧ W.cell? ⟨w.heap.size + 1 + 1, 3, none⟩ = some (.int .i64 c3)) := Lib.hid fun W hW => docLine_cells ((hW.block _ (Array.getElem?_eq_some_iff.1 g2).1).trans g2)
  have C3 : Hid (∀ W, Below u0.heap.size u0 W → W.cell? ⟨w.heap.size + 1 + 1 + 1, 0, none⟩ = some (.int .i64 i3) ∧ W.cell? ⟨w.heap.size + 1 + 1 + 1, 1, none⟩ = some (.int .i64 e1) ∧ W.cell? ⟨w.heap.size + 1 + 1 + 1, 2, none⟩ = some (.int .i64 e2) ∧ W.cell? ⟨w.heap.size + 1 + 1 + 1, 3, none⟩ = some (.int .i64 e3) ∧ W.cell? ⟨w.heap.size + 1 + 1 + 1, 4, none⟩ = some (.int .i64 e4) ∧ W.cell? ⟨w.heap.size + 1 + 1 + 1, 5, none⟩ = some (.int .i64 e5)) := Lib.hid fun W hW => entry_cells ((hW.block _ (Array.getElem?_eq_some_iff.1 g3).1).trans g3)
  have C4 : Hid (∀ W, Below u0.heap.size u0 W → W.cell? ⟨w.heap.size + 1 + 1 + 1 + 1, 0, none⟩ = some (.int .i64 x0) ∧ W.cell? ⟨w.heap.size + 1 + 1 + 1 + 1, 1, none⟩ = some (.int .i64 x1) ∧ W.cell? ⟨w.heap.size + 1 + 1 + 1 + 1, 2, none⟩ = some (.int .i64 0) ∧ W.cell? ⟨w.heap.size + 1 + 1 + 1 + 1, 3, none⟩ = some (.int .i64 x3)) := Lib.hid fun W hW => line_cells ((hW.block _ (Array.getElem?_eq_some_iff.1 g4).1).trans g4)
  have C5 : Hid (∀ W, Below u0.heap.size u0 W → W.cell? ⟨w.heap.size + 1 + 1 + 1 + 1 + 1, 0, none⟩ = some (.int .u32 i0) ∧ W.cell? ⟨w.heap.size + 1 + 1 + 1 + 1 + 1, 1, none⟩ = some (.int .u32 i1) ∧ W.cell? ⟨w.heap.size + 1 + 1 + 1 + 1 + 1, 2, none⟩ = some (.int .u32 i2) ∧ W.cell? ⟨w.heap.size + 1 + 1 + 1 + 1 + 1, 3, none⟩ = some (.int .u32 i3)) := Lib.hid fun W hW => docLine_cells ((hW.block _ (Array.getElem?_eq_some_iff.1 g5).1).trans g5)
  have HT := Lib.hid hT
  have P0 := Lib.hid (Below.refl u0.heap.size u0)
  clear hT g0 g1 g2 g3 g4 g5 hq
  have IN0 : Hid (In64 [i0, i1, a2, a3, a4, a6, a7, a8, a9, a10, a11]) := Lib.hid (fun v hv => by simp only [List.mem_cons, List.not_mem_nil, or_false] at hv; have hk := HA.out; have hn := HN.out; unfold InU32 at hk; unfold In64 at hn; simp only [List.mem_cons, List.not_mem_nil, or_false, forall_eq_or_imp, forall_eq] at hk hn; rcases hv with rfl | rfl | rfl | rfl | rfl | rfl | rfl | rfl | rfl | rfl | rfl <;> first | omega | exact bit_in _)
  have KU0 : Hid (InU32 [i0, i1]) := Lib.hid (fun v hv => HA.out v (by simp only [List.mem_cons, List.not_mem_nil, or_false] at hv ⊢; rcases hv with rfl | rfl <;> simp))
  have KV0 : Hid (In64 [a2, a3, a4, bitI a5, a6, a7, a8, a9, a10, a11]) := Lib.hid (fun v hv => by simp only [List.mem_cons, List.not_mem_nil, or_false] at hv; have hk := HA.out; have hn := HN.out; unfold InU32 at hk; unfold In64 at hn; simp only [List.mem_cons, List.not_mem_nil, or_false, forall_eq_or_imp, forall_eq] at hk hn; rcases hv with rfl | rfl | rfl | rfl | rfl | rfl | rfl | rfl | rfl | rfl <;> first | omega | exact bit_in _)
  have IN1 : Hid (In64 [i2, b1, b2, b3, b4]) := Lib.hid (fun v hv => by simp only [List.mem_cons, List.not_mem_nil, or_false] at hv; have hk := HA.out; have hn := HD.out; unfold InU32 at hk; unfold In64 at hn; simp only [List.mem_cons, List.not_mem_nil, or_false, forall_eq_or_imp, forall_eq] at hk hn; rcases hv with rfl | rfl | rfl | rfl | rfl <;> first | omega | exact bit_in _)
  have KU1 : Hid (InU32 [i2]) := Lib.hid (fun v hv => HA.out v (by simp only [List.mem_cons, List.not_mem_nil, or_false] at hv ⊢; rcases hv with rfl <;> simp))
  have KV1 : Hid (In64 [b1, b2, b3, b4]) := Lib.hid (fun v hv => by simp only [List.mem_cons, List.not_mem_nil, or_false] at hv; have hk := HA.out; have hn := HD.out; unfold InU32 at hk; unfold In64 at hn; simp only [List.mem_cons, List.not_mem_nil, or_false, forall_eq_or_imp, forall_eq] at hk hn; rcases hv with rfl | rfl | rfl | rfl <;> first | omega | exact bit_in _)
  have IN2 : Hid (In64 [c0, c1, c2, c3, i0, i1]) := Lib.hid (fun v hv => by simp only [List.mem_cons, List.not_mem_nil, or_false] at hv; have hk := HA.out; have hn := HL.out; unfold InU32 at hk; unfold In64 at hn; simp only [List.mem_cons, List.not_mem_nil, or_false, forall_eq_or_imp, forall_eq] at hk hn; rcases hv with rfl | rfl | rfl | rfl | rfl | rfl <;> first | omega | exact bit_in _)
  have KU2 : Hid (InU32 [i0, i1]) := Lib.hid (fun v hv => HA.out v (by simp only [List.mem_cons, List.not_mem_nil, or_false] at hv ⊢; rcases hv with rfl | rfl <;> simp))
  have KV2 : Hid (In64 [c0, c1, c2, c3]) := Lib.hid (fun v hv => by simp only [List.mem_cons, List.not_mem_nil, or_false] at hv; have hk := HA.out; have hn := HL.out; unfold InU32 at hk; unfold In64 at hn; simp only [List.mem_cons, List.not_mem_nil, or_false, forall_eq_or_imp, forall_eq] at hk hn; rcases hv with rfl | rfl | rfl | rfl <;> first | omega | exact bit_in _)
  have IN3 : Hid (In64 [i3, e1, e2, e3, e4, e5]) := Lib.hid (fun v hv => by simp only [List.mem_cons, List.not_mem_nil, or_false] at hv; have hk := HA.out; have hn := HE.out; unfold InU32 at hk; unfold In64 at hn; simp only [List.mem_cons, List.not_mem_nil, or_false, forall_eq_or_imp, forall_eq] at hk hn; rcases hv with rfl | rfl | rfl | rfl | rfl | rfl <;> first | omega | exact bit_in _)
  have KU3 : Hid (InU32 [i3]) := Lib.hid (fun v hv => HA.out v (by simp only [List.mem_cons, List.not_mem_nil, or_false] at hv ⊢; rcases hv with rfl <;> simp))
  have KV3 : Hid (In64 [e1, e2, e3, e4, e5]) := Lib.hid (fun v hv => by simp only [List.mem_cons, List.not_mem_nil, or_false] at hv; have hk := HA.out; have hn := HE.out; unfold InU32 at hk; unfold In64 at hn; simp only [List.mem_cons, List.not_mem_nil, or_false, forall_eq_or_imp, forall_eq] at hk hn; rcases hv with rfl | rfl | rfl | rfl | rfl <;> first | omega | exact bit_in _)
  have IN4 : Hid (In64 [x0, x1, 0, x3, i2, i3]) := Lib.hid (fun v hv => by simp only [List.mem_cons, List.not_mem_nil, or_false] at hv; have hk := HA.out; have hn := HX.out; unfold InU32 at hk; unfold In64 at hn; simp only [List.mem_cons, List.not_mem_nil, or_false, forall_eq_or_imp, forall_eq] at hk hn; rcases hv with rfl | rfl | rfl | rfl | rfl | rfl <;> first | omega | exact bit_in _)
  have KU4 : Hid (InU32 [i2, i3]) := Lib.hid (fun v hv => HA.out v (by simp only [List.mem_cons, List.not_mem_nil, or_false] at hv ⊢; rcases hv with rfl | rfl <;> simp))
  have KV4 : Hid (In64 [x0, x1, x3]) := Lib.hid (fun v hv => by simp only [List.mem_cons, List.not_mem_nil, or_false] at hv; have hk := HA.out; have hn := HX.out; unfold InU32 at hk; unfold In64 at hn; simp only [List.mem_cons, List.not_mem_nil, or_false, forall_eq_or_imp, forall_eq] at hk hn; rcases hv with rfl | rfl | rfl <;> first | omega | exact bit_in _)
  clear HN HD HL HE HX HA
  obtain ⟨t0, t1, t2, t3, t4, t5, t6, t7, t8, t9, t10, t11⟩ := C0.out _ P0.out
  go_wp2_with fail
  refine Calls.mono (recNode_any i0 i1 a2 a3 a4 a5 a6 a7 a8 a9 a10 a11 _ IN0.out) ?_
  rintro e m1 hp
  obtain ⟨kA, kc, vA, vc, rfl, ta, hbm⟩ := hp.gets (nk := 9) (nv := 80) (by omega) (by simp) rfl rfl
  clear t0 t1 t2 t3 t4 t5 t6 t7 t8 t9 t10 t11
  have HM := Lib.hid (madeNode_any i0 i1 a2 a3 a4 a5 a6 a7 a8 a9 a10 a11 kA kc vA vc m1 ta KU0.out KV0.out)
  have HBM := Lib.hid hbm
  clear hp ta hbm
  go_wp2_with fail
  refine HM.out.mono ?_
  rintro e v1 ⟨rfl, hb⟩
  have hs : Below u0.heap.size u0 (v1.alloc (.cells #[.int .i64 i0, .int .i64 i1, .int .i64 a2, .int .i64 a3, .int .i64 a4, .bool a5, .int .i64 a6, .int .i64 a7, .int .i64 a8, .int .i64 a9, .int .i64 a10, .int .i64 a11] 23)) := (HBM.out.trans (hb.mono HBM.out.size)).alloc (HBM.out.trans (hb.mono HBM.out.size)).size _
  have hT := HT.out.trans (hs.mono HT.out.size)
  have hP := P0.out.trans (hs.mono P0.out.size)
  have B1 := Lib.hid (fun W (hW : Below (v1.alloc (.cells #[.int .i64 i0, .int .i64 i1, .int .i64 a2, .int .i64 a3, .int .i64 a4, .bool a5, .int .i64 a6, .int .i64 a7, .int .i64 a8, .int .i64 a9, .int .i64 a10, .int .i64 a11] 23)).heap.size (v1.alloc (.cells #[.int .i64 i0, .int .i64 i1, .int .i64 a2, .int .i64 a3, .int .i64 a4, .bool a5, .int .i64 a6, .int .i64 a7, .int .i64 a8, .int .i64 a9, .int .i64 a10, .int .i64 a11] 23)) W) => box_stands' hW)
  have S1 := Lib.hid hs
  clear hb HBM HM HT hs
  obtain ⟨t0, t1, t2, t3, t4⟩ := C1.out _ hP
  have HT := Lib.hid hT
  have P1 := Lib.hid hP
  clear hT hP
  go_wp2_with fail
  obtain ⟨u1, hu⟩ : ∃ u, u = (v1.alloc (.cells #[.int .i64 i0, .int .i64 i1, .int .i64 a2, .int .i64 a3, .int .i64 a4, .bool a5, .int .i64 a6, .int .i64 a7, .int .i64 a8, .int .i64 a9, .int .i64 a10, .int .i64 a11] 23)) := ⟨_, rfl⟩
  rw [← hu] at HT P1 S1 B1 t0 t1 t2 t3 t4 ⊢
  clear hu
  refine Calls.mono (recDoc_any i2 b1 b2 b3 b4 _ IN1.out) ?_
  rintro e m2 hp
  obtain ⟨kA, kc, vA, vc, rfl, ta, hbm⟩ := hp.gets (nk := 5) (nv := 32) (by omega) (by simp) rfl rfl
  clear t0 t1 t2 t3 t4
  have HM := Lib.hid (madeDoc_any i2 b1 b2 b3 b4 kA kc vA vc m2 ta KU1.out KV1.out)
  have HBM := Lib.hid hbm
  clear hp ta hbm
  go_wp2_with fail
  refine HM.out.mono ?_
  rintro e v2 ⟨rfl, hb⟩
  have hs : Below u1.heap.size u1 (v2.alloc (.cells #[.int .i64 i2, .int .i64 b1, .int .i64 b2, .int .i64 b3, .int .i64 b4] 25)) := (HBM.out.trans (hb.mono HBM.out.size)).alloc (HBM.out.trans (hb.mono HBM.out.size)).size _
  have hT := HT.out.trans (hs.mono HT.out.size)
  have hP := P1.out.trans (hs.mono P1.out.size)
  have B2 := Lib.hid (fun W (hW : Below (v2.alloc (.cells #[.int .i64 i2, .int .i64 b1, .int .i64 b2, .int .i64 b3, .int .i64 b4] 25)).heap.size (v2.alloc (.cells #[.int .i64 i2, .int .i64 b1, .int .i64 b2, .int .i64 b3, .int .i64 b4] 25)) W) => box_stands' hW)
  have S2 := Lib.hid hs
  clear hb HBM HM HT hs
  obtain ⟨t0, t1, t2, t3⟩ := C2.out _ hP
  obtain ⟨y0, y1, y2, y3⟩ := C5.out _ hP
  have HT := Lib.hid hT
  have P2 := Lib.hid hP
  clear hT hP
  go_wp2_with fail
  obtain ⟨u2, hu⟩ : ∃ u, u = (v2.alloc (.cells #[.int .i64 i2, .int .i64 b1, .int .i64 b2, .int .i64 b3, .int .i64 b4] 25)) := ⟨_, rfl⟩
  rw [← hu] at HT P2 S2 B2 t0 t1 t2 t3 y0 y1 y2 y3 ⊢
  clear hu
  refine Calls.mono (recDocLine_any i0 i1 c0 c1 c2 c3 _ IN2.out) ?_
  rintro e m3 hp
  obtain ⟨kA, kc, vA, vc, rfl, ta, hbm⟩ := hp.gets (nk := 9) (nv := 32) (by omega) (by simp) rfl rfl
  clear t0 t1 t2 t3 y0 y1 y2 y3
  have HM := Lib.hid (madeDocLine_any c0 c1 c2 c3 i0 i1 kA kc vA vc m3 ta KU2.out KV2.out)
  have HBM := Lib.hid hbm
  clear hp ta hbm
  go_wp2_with fail
  refine HM.out.mono ?_
  rintro e v3 ⟨rfl, hb⟩
  have hs : Below u2.heap.size u2 (v3.alloc (.cells #[.int .i64 c0, .int .i64 c1, .int .i64 c2, .int .i64 c3] 27)) := (HBM.out.trans (hb.mono HBM.out.size)).alloc (HBM.out.trans (hb.mono HBM.out.size)).size _
  have hT := HT.out.trans (hs.mono HT.out.size)
  have hP := P2.out.trans (hs.mono P2.out.size)
  have B3 := Lib.hid (fun W (hW : Below (v3.alloc (.cells #[.int .i64 c0, .int .i64 c1, .int .i64 c2, .int .i64 c3] 27)).heap.size (v3.alloc (.cells #[.int .i64 c0, .int .i64 c1, .int .i64 c2, .int .i64 c3] 27)) W) => box_stands' hW)
  have S3 := Lib.hid hs
  clear hb HBM HM HT hs
  obtain ⟨t0, t1, t2, t3, t4, t5⟩ := C3.out _ hP
  have HT := Lib.hid hT
  have P3 := Lib.hid hP
  clear hT hP
  go_wp2_with fail
  obtain ⟨u3, hu⟩ : ∃ u, u = (v3.alloc (.cells #[.int .i64 c0, .int .i64 c1, .int .i64 c2, .int .i64 c3] 27)) := ⟨_, rfl⟩
  rw [← hu] at HT P3 S3 B3 t0 t1 t2 t3 t4 t5 ⊢
  clear hu
  refine Calls.mono (recEntry_any i3 e1 e2 e3 e4 e5 _ IN3.out) ?_
  rintro e m4 hp
  obtain ⟨kA, kc, vA, vc, rfl, ta, hbm⟩ := hp.gets (nk := 5) (nv := 40) (by omega) (by simp) rfl rfl
  clear t0 t1 t2 t3 t4 t5
  have HM := Lib.hid (madeEntry_any i3 e1 e2 e3 e4 e5 kA kc vA vc m4 ta KU3.out KV3.out)
  have HBM := Lib.hid hbm
  clear hp ta hbm
  go_wp2_with fail
  refine HM.out.mono ?_
  rintro e v4 ⟨rfl, hb⟩
  have hs : Below u3.heap.size u3 (v4.alloc (.cells #[.int .i64 i3, .int .i64 e1, .int .i64 e2, .int .i64 e3, .int .i64 e4, .int .i64 e5] 29)) := (HBM.out.trans (hb.mono HBM.out.size)).alloc (HBM.out.trans (hb.mono HBM.out.size)).size _
  have hT := HT.out.trans (hs.mono HT.out.size)
  have hP := P3.out.trans (hs.mono P3.out.size)
  have B4 := Lib.hid (fun W (hW : Below (v4.alloc (.cells #[.int .i64 i3, .int .i64 e1, .int .i64 e2, .int .i64 e3, .int .i64 e4, .int .i64 e5] 29)).heap.size (v4.alloc (.cells #[.int .i64 i3, .int .i64 e1, .int .i64 e2, .int .i64 e3, .int .i64 e4, .int .i64 e5] 29)) W) => box_stands' hW)
  have S4 := Lib.hid hs
  clear hb HBM HM HT hs
  obtain ⟨t0, t1, t2, t3⟩ := C4.out _ hP
  obtain ⟨y0, y1, y2, y3⟩ := C5.out _ hP
  have HT := Lib.hid hT
  have P4 := Lib.hid hP
  clear hT hP
  go_wp2_with fail
  obtain ⟨u4, hu⟩ : ∃ u, u = (v4.alloc (.cells #[.int .i64 i3, .int .i64 e1, .int .i64 e2, .int .i64 e3, .int .i64 e4, .int .i64 e5] 29)) := ⟨_, rfl⟩
  rw [← hu] at HT P4 S4 B4 t0 t1 t2 t3 y0 y1 y2 y3 ⊢
  clear hu
  refine Calls.mono (recLine_any i2 i3 x0 x1 (0 : Int) x3 _ IN4.out) ?_
  rintro e m5 hp
  obtain ⟨kA, kc, vA, vc, rfl, ta, hbm⟩ := hp.gets (nk := 9) (nv := 24) (by omega) (by simp) rfl rfl
  clear t0 t1 t2 t3 y0 y1 y2 y3
  have HM := Lib.hid (madeLine_any x0 x1 x3 i2 i3 kA kc vA vc m5 ta KU4.out KV4.out)
  have HBM := Lib.hid hbm
  clear hp ta hbm
  go_wp2_with fail
  refine HM.out.mono ?_
  rintro e v5 ⟨rfl, hb⟩
  have hs : Below u4.heap.size u4 (v5.alloc (.cells #[.int .i64 x0, .int .i64 x1, .int .i64 0, .int .i64 x3] 31)) := (HBM.out.trans (hb.mono HBM.out.size)).alloc (HBM.out.trans (hb.mono HBM.out.size)).size _
  have hT := HT.out.trans (hs.mono HT.out.size)
  have hP := P4.out.trans (hs.mono P4.out.size)
  have F5 := Below.refl (v5.alloc (.cells #[.int .i64 x0, .int .i64 x1, .int .i64 0, .int .i64 x3] 31)).heap.size (v5.alloc (.cells #[.int .i64 x0, .int .i64 x1, .int .i64 0, .int .i64 x3] 31))
  have F4 := hs
  have F3 := S4.out.trans (F4.mono S4.out.size)
  have F2 := S3.out.trans (F3.mono S3.out.size)
  have F1 := S2.out.trans (F2.mono S2.out.size)
  obtain ⟨r0_0, r0_1, r0_2, r0_3, r0_4, r0_5, r0_6, r0_7, r0_8, r0_9, r0_10, r0_11⟩ := C0.out _ hP
  obtain ⟨z0_0, z0_1, z0_2, z0_3, z0_4, z0_5, z0_6, z0_7, z0_8, z0_9, z0_10, z0_11⟩ := node_cells (B1.out _ F1)
  obtain ⟨r1_0, r1_1, r1_2, r1_3, r1_4⟩ := C1.out _ hP
  obtain ⟨z1_0, z1_1, z1_2, z1_3, z1_4⟩ := doc_cells (B2.out _ F2)
  obtain ⟨r2_0, r2_1, r2_2, r2_3⟩ := C2.out _ hP
  obtain ⟨z2_0, z2_1, z2_2, z2_3⟩ := docLine_cells (B3.out _ F3)
  obtain ⟨r3_0, r3_1, r3_2, r3_3, r3_4, r3_5⟩ := C3.out _ hP
  obtain ⟨z3_0, z3_1, z3_2, z3_3, z3_4, z3_5⟩ := entry_cells (B4.out _ F4)
  obtain ⟨r4_0, r4_1, r4_2, r4_3⟩ := C4.out _ hP
  obtain ⟨z4_0, z4_1, z4_2, z4_3⟩ := line_cells (box_stands' F5)
  have HT := Lib.hid hT
  clear hT hP hs hb HBM HM P0 P1 P2 P3 P4 S1 S2 S3 S4 B1 B2 B3 B4 F1 F2 F3 F4 F5 C0 C1 C2 C3 C4 C5
  go_wp2_with fail
  refine Calls.mono (recAwake_any _) ?_
  rintro e wl ⟨rfl, hb⟩
  have HE := Lib.hid (HT.out.trans (hb.mono HT.out.size))
  clear hb HT
  go_wp2
  go_ret
  exact ⟨rfl, HE.out⟩

end Go.Proofs.Yteojpnkfnflmbaa
