/-
  RecsMake by the walk: it returns true. Condition: the numbers that came in are ints.
-/
import Derived.Test.YteojpnkfnflmbaaRecH
import Derived.Test.YteojpnkfnflmbaaRecI
import Derived.Deep.RegionHeld3
namespace Go.Proofs.Yteojpnkfnflmbaa
open Go.RowKit
set_option maxRecDepth 100000
set_option linter.unusedVariables false

theorem in64_two {x y : Int} {l : List Int} {u v : Int} (h : In64 l) (h' : In64 [u, v]) : In64 (l ++ [u, v]) := fun z hz => by
  rcases List.mem_append.1 hz with hz | hz
  · exact h z hz
  · exact h' z hz
set_option maxHeartbeats 6400000 in
theorem recsMake_any (a0 : Int) (a1 : Int) (a2 : Int) (a3 : Int) (a4 : Int) (a5 : Bool) (a6 : Int) (a7 : Int) (a8 : Int) (a9 : Int) (a10 : Int) (a11 : Int) (b0 : Int) (b1 : Int) (b2 : Int) (b3 : Int) (b4 : Int) (c0 : Int) (c1 : Int) (c2 : Int) (c3 : Int) (e0 : Int) (e1 : Int) (e2 : Int) (e3 : Int) (e4 : Int) (e5 : Int) (x0 : Int) (x1 : Int) (x2 : Int) (x3 : Int) (i0 : Int) (i1 : Int) (w : World) (hN : In64 [a0, a1, a2, a3, a4, a6, a7, a8, a9, a10, a11]) (hD : In64 [b0, b1, b2, b3, b4]) (hL : In64 [c0, c1, c2, c3]) (hE : In64 [e0, e1, e2, e3, e4, e5]) (hX : In64 [x0, x1, x2, x3]) (hA : In64 [i0, i1]) :
    Calls Try.prog 3 #[.agg #[.int .i64 a0, .int .i64 a1, .int .i64 a2, .int .i64 a3, .int .i64 a4, .bool a5, .int .i64 a6, .int .i64 a7, .int .i64 a8, .int .i64 a9, .int .i64 a10, .int .i64 a11], .agg #[.int .i64 b0, .int .i64 b1, .int .i64 b2, .int .i64 b3, .int .i64 b4], .agg #[.int .i64 c0, .int .i64 c1, .int .i64 c2, .int .i64 c3], .agg #[.int .i64 e0, .int .i64 e1, .int .i64 e2, .int .i64 e3, .int .i64 e4, .int .i64 e5], .agg #[.int .i64 x0, .int .i64 x1, .int .i64 x2, .int .i64 x3], .agg #[.int .i64 i0, .int .i64 i1]] w fun e w' => e = .returned (.bool true) ∧ Below w.heap.size w w' := by
  obtain ⟨w1, hw1⟩ : ∃ w1, w1 = ((((((w.alloc (.cells #[.int .i64 a0, .int .i64 a1, .int .i64 a2, .int .i64 a3, .int .i64 a4, .bool a5, .int .i64 a6, .int .i64 a7, .int .i64 a8, .int .i64 a9, .int .i64 a10, .int .i64 a11] 23)).alloc (.cells #[.int .i64 b0, .int .i64 b1, .int .i64 b2, .int .i64 b3, .int .i64 b4] 25)).alloc (.cells #[.int .i64 c0, .int .i64 c1, .int .i64 c2, .int .i64 c3] 27)).alloc (.cells #[.int .i64 e0, .int .i64 e1, .int .i64 e2, .int .i64 e3, .int .i64 e4, .int .i64 e5] 29)).alloc (.cells #[.int .i64 x0, .int .i64 x1, .int .i64 x2, .int .i64 x3] 31)).alloc (.cells #[.int .i64 i0, .int .i64 i1] 32)) := ⟨_, rfl⟩
  obtain ⟨g0, g1, g2, g3, g4, g5, hb1⟩ := six_boxes w (.cells #[.int .i64 a0, .int .i64 a1, .int .i64 a2, .int .i64 a3, .int .i64 a4, .bool a5, .int .i64 a6, .int .i64 a7, .int .i64 a8, .int .i64 a9, .int .i64 a10, .int .i64 a11] 23) (.cells #[.int .i64 b0, .int .i64 b1, .int .i64 b2, .int .i64 b3, .int .i64 b4] 25) (.cells #[.int .i64 c0, .int .i64 c1, .int .i64 c2, .int .i64 c3] 27) (.cells #[.int .i64 e0, .int .i64 e1, .int .i64 e2, .int .i64 e3, .int .i64 e4, .int .i64 e5] 29) (.cells #[.int .i64 x0, .int .i64 x1, .int .i64 x2, .int .i64 x3] 31) (.cells #[.int .i64 i0, .int .i64 i1] 32)
  rw [← hw1] at g0 g1 g2 g3 g4 g5 hb1
  have HC : Hid (∀ W, Below w1.heap.size w1 W → W.cell? ⟨w.heap.size, 0, none⟩ = some (.int .i64 a0) ∧ W.cell? ⟨w.heap.size, 1, none⟩ = some (.int .i64 a1) ∧ W.cell? ⟨w.heap.size, 2, none⟩ = some (.int .i64 a2) ∧ W.cell? ⟨w.heap.size, 3, none⟩ = some (.int .i64 a3) ∧ W.cell? ⟨w.heap.size, 4, none⟩ = some (.int .i64 a4) ∧ W.cell? ⟨w.heap.size, 5, none⟩ = some (.bool a5) ∧ W.cell? ⟨w.heap.size, 6, none⟩ = some (.int .i64 a6) ∧ W.cell? ⟨w.heap.size, 7, none⟩ = some (.int .i64 a7) ∧ W.cell? ⟨w.heap.size, 8, none⟩ = some (.int .i64 a8) ∧ W.cell? ⟨w.heap.size, 9, none⟩ = some (.int .i64 a9) ∧ W.cell? ⟨w.heap.size, 10, none⟩ = some (.int .i64 a10) ∧ W.cell? ⟨w.heap.size, 11, none⟩ = some (.int .i64 a11) ∧ W.cell? ⟨w.heap.size + 1, 0, none⟩ = some (.int .i64 b0) ∧ W.cell? ⟨w.heap.size + 1, 1, none⟩ = some (.int .i64 b1) ∧ W.cell? ⟨w.heap.size + 1, 2, none⟩ = some (.int .i64 b2) ∧ W.cell? ⟨w.heap.size + 1, 3, none⟩ = some (.int .i64 b3) ∧ W.cell? ⟨w.heap.size + 1, 4, none⟩ = some (.int .i64 b4) ∧ W.cell? ⟨w.heap.size + 1 + 1, 0, none⟩ = some (.int .i64 c0) ∧ W.cell? ⟨w.heap.size + 1 + 1, 1, none⟩ = some (.int .i64 c1) ∧ W.cell? ⟨w.heap.size + 1 + 1, 2, none⟩ = some (.int .i64 c2) ∧ W.cell? ⟨w.heap.size + 1 + 1, 3, none⟩ = some (.int .i64 c3) ∧ W.cell? ⟨w.heap.size + 1 + 1 + 1, 0, none⟩ = some (.int .i64 e0) ∧ W.cell? ⟨w.heap.size + 1 + 1 + 1, 1, none⟩ = some (.int .i64 e1) ∧ W.cell? ⟨w.heap.size + 1 + 1 + 1, 2, none⟩ = some (.int .i64 e2) ∧ W.cell? ⟨w.heap.size + 1 + 1 + 1, 3, none⟩ = some (.int .i64 e3) ∧ W.cell? ⟨w.heap.size + 1 + 1 + 1, 4, none⟩ = some (.int .i64 e4) ∧ W.cell? ⟨w.heap.size + 1 + 1 + 1, 5, none⟩ = some (.int .i64 e5) ∧ W.cell? ⟨w.heap.size + 1 + 1 + 1 + 1, 0, none⟩ = some (.int .i64 x0) ∧ W.cell? ⟨w.heap.size + 1 + 1 + 1 + 1, 1, none⟩ = some (.int .i64 x1) ∧ W.cell? ⟨w.heap.size + 1 + 1 + 1 + 1, 2, none⟩ = some (.int .i64 x2) ∧ W.cell? ⟨w.heap.size + 1 + 1 + 1 + 1, 3, none⟩ = some (.int .i64 x3)) := Lib.hid fun W hW => by
    have lt : ∀ {g : Nat} {o : Obj}, w1.heap[g]? = some o → W.heap[g]? = some o := fun h => (hW.block _ (Array.getElem?_eq_some_iff.1 h).1).trans h
    obtain ⟨n0, n1, n2, n3, n4, n5, n6, n7, n8, n9, n10, n11⟩ := node_cells (lt g0)
    obtain ⟨d0, d1, d2, d3, d4⟩ := doc_cells (lt g1)
    obtain ⟨l0, l1, l2, l3⟩ := docLine_cells (lt g2)
    obtain ⟨m0, m1, m2, m3, m4, m5⟩ := entry_cells (lt g3)
    obtain ⟨y0, y1, y2, y3⟩ := line_cells (lt g4)
    exact ⟨n0, n1, n2, n3, n4, n5, n6, n7, n8, n9, n10, n11, d0, d1, d2, d3, d4, l0, l1, l2, l3, m0, m1, m2, m3, m4, m5, y0, y1, y2, y3⟩
  have z0 : w1.cell? ⟨w.heap.size + 1 + 1 + 1 + 1 + 1, 0, none⟩ = some (.int .i64 i0) := box_cell0 g5
  have z1 : w1.cell? ⟨w.heap.size + 1 + 1 + 1 + 1 + 1, 1, none⟩ = some (.int .i64 i1) := box_cell1 g5
  clear g0 g1 g2 g3 g4 g5
  have HB := Lib.hid hb1
  have HNode := Lib.hid (fun W => recNode_any a0 a1 a2 a3 a4 a5 a6 a7 a8 a9 a10 a11 W hN)
  have RNode := Lib.hid (fun W => refNode_any a0 a1 a2 a3 a4 a5 a6 a7 a8 a9 a10 a11 W hN)
  have HDoc := Lib.hid (fun W => recDoc_any b0 b1 b2 b3 b4 W hD)
  have RDoc := Lib.hid (fun W => refDoc_any b0 b1 b2 b3 b4 W hD)
  have HDocLine := Lib.hid (fun W => recDocLine_any i0 i1 c0 c1 c2 c3 W (in64_two (x := 0) (y := 0) hL hA))
  have RDocLine := Lib.hid (fun W => refDocLine_any i0 i1 c0 c1 c2 c3 W (in64_two (x := 0) (y := 0) hL hA))
  have HEntry := Lib.hid (fun W => recEntry_any e0 e1 e2 e3 e4 e5 W hE)
  have REntry := Lib.hid (fun W => refEntry_any e0 e1 e2 e3 e4 e5 W hE)
  have HLine := Lib.hid (fun W => recLine_any i0 i1 x0 x1 x2 x3 W (in64_two (x := 0) (y := 0) hX hA))
  have RLine := Lib.hid (fun W => refLine_any i0 i1 x0 x1 x2 x3 W (in64_two (x := 0) (y := 0) hX hA))
  clear hb1 hN hD hL hE hX hA
  go_enter Try.func3, Try.ntmps3
  go_wp2_with fail
  rw [← hw1]
  clear hw1
  go_region_held3 (fun W => W.cell? ⟨w.heap.size + 1 + 1 + 1 + 1 + 1, 0, none⟩ = some (.int .i64 i0) ∧ W.cell? ⟨w.heap.size + 1 + 1 + 1 + 1 + 1, 1, none⟩ = some (.int .i64 i1)) (first | exact ⟨z0, z1⟩) (first | fail)
  clear z0 z1
  have hT := HB.out.drew.drew
  have c5 := HC.out _ (Below.refl _ w1).drew.drew
  have hB5 := (Below.refl w1.heap.size w1).drew.drew
  go_wp2_with fail
  go_region_held3 (fun W => W.cell? ⟨w.heap.size, 0, none⟩ = some (.int .i64 a0) ∧ W.cell? ⟨w.heap.size, 1, none⟩ = some (.int .i64 a1) ∧ W.cell? ⟨w.heap.size, 2, none⟩ = some (.int .i64 a2) ∧ W.cell? ⟨w.heap.size, 3, none⟩ = some (.int .i64 a3) ∧ W.cell? ⟨w.heap.size, 4, none⟩ = some (.int .i64 a4) ∧ W.cell? ⟨w.heap.size, 5, none⟩ = some (.bool a5) ∧ W.cell? ⟨w.heap.size, 6, none⟩ = some (.int .i64 a6) ∧ W.cell? ⟨w.heap.size, 7, none⟩ = some (.int .i64 a7) ∧ W.cell? ⟨w.heap.size, 8, none⟩ = some (.int .i64 a8) ∧ W.cell? ⟨w.heap.size, 9, none⟩ = some (.int .i64 a9) ∧ W.cell? ⟨w.heap.size, 10, none⟩ = some (.int .i64 a10) ∧ W.cell? ⟨w.heap.size, 11, none⟩ = some (.int .i64 a11) ∧ W.cell? ⟨w.heap.size + 1, 0, none⟩ = some (.int .i64 b0) ∧ W.cell? ⟨w.heap.size + 1, 1, none⟩ = some (.int .i64 b1) ∧ W.cell? ⟨w.heap.size + 1, 2, none⟩ = some (.int .i64 b2) ∧ W.cell? ⟨w.heap.size + 1, 3, none⟩ = some (.int .i64 b3) ∧ W.cell? ⟨w.heap.size + 1, 4, none⟩ = some (.int .i64 b4) ∧ W.cell? ⟨w.heap.size + 1 + 1, 0, none⟩ = some (.int .i64 c0) ∧ W.cell? ⟨w.heap.size + 1 + 1, 1, none⟩ = some (.int .i64 c1) ∧ W.cell? ⟨w.heap.size + 1 + 1, 2, none⟩ = some (.int .i64 c2) ∧ W.cell? ⟨w.heap.size + 1 + 1, 3, none⟩ = some (.int .i64 c3) ∧ W.cell? ⟨w.heap.size + 1 + 1 + 1, 0, none⟩ = some (.int .i64 e0) ∧ W.cell? ⟨w.heap.size + 1 + 1 + 1, 1, none⟩ = some (.int .i64 e1) ∧ W.cell? ⟨w.heap.size + 1 + 1 + 1, 2, none⟩ = some (.int .i64 e2) ∧ W.cell? ⟨w.heap.size + 1 + 1 + 1, 3, none⟩ = some (.int .i64 e3) ∧ W.cell? ⟨w.heap.size + 1 + 1 + 1, 4, none⟩ = some (.int .i64 e4) ∧ W.cell? ⟨w.heap.size + 1 + 1 + 1, 5, none⟩ = some (.int .i64 e5) ∧ W.cell? ⟨w.heap.size + 1 + 1 + 1 + 1, 0, none⟩ = some (.int .i64 x0) ∧ W.cell? ⟨w.heap.size + 1 + 1 + 1 + 1, 1, none⟩ = some (.int .i64 x1) ∧ W.cell? ⟨w.heap.size + 1 + 1 + 1 + 1, 2, none⟩ = some (.int .i64 x2) ∧ W.cell? ⟨w.heap.size + 1 + 1 + 1 + 1, 3, none⟩ = some (.int .i64 x3))
    (first | with_reducible exact c5 | exact c5)
    (first
      | (go_at_call 8; refine Calls.mono (HNode.out _) ?_; rintro e wN hp; obtain ⟨kA, kc, vA, vc, rfl, ta, hbN⟩ := hp.gets (nk := 9) (nv := 80) (by omega) (by simp) rfl rfl; have hT := hT.trans (hbN.mono hT.size); have hB5 := hB5.trans (hbN.mono hB5.size); have c5 := HC.out _ hB5; clear hp hbN)
      | (go_at_call 9; refine Calls.mono (RNode.out _) ?_; rintro e wN hp; obtain ⟨kA2, kc2, vA2, vc2, rfl, tb, hbN⟩ := hp.gets (nk := 9) (nv := 80) (by omega) (by simp) rfl rfl; have ta := ta.later hbN; have hT := hT.trans (hbN.mono hT.size); have hB5 := hB5.trans (hbN.mono hB5.size); have c5 := HC.out _ hB5; clear hp hbN)
      | (go_at_call 10; refine Calls.mono (HDoc.out _) ?_; rintro e wN hp; obtain ⟨kA, kc, vA, vc, rfl, ta, hbN⟩ := hp.gets (nk := 5) (nv := 32) (by omega) (by simp) rfl rfl; have hT := hT.trans (hbN.mono hT.size); have hB5 := hB5.trans (hbN.mono hB5.size); have c5 := HC.out _ hB5; clear hp hbN)
      | (go_at_call 11; refine Calls.mono (RDoc.out _) ?_; rintro e wN hp; obtain ⟨kA2, kc2, vA2, vc2, rfl, tb, hbN⟩ := hp.gets (nk := 5) (nv := 32) (by omega) (by simp) rfl rfl; have ta := ta.later hbN; have hT := hT.trans (hbN.mono hT.size); have hB5 := hB5.trans (hbN.mono hB5.size); have c5 := HC.out _ hB5; clear hp hbN)
      | (go_at_call 12; refine Calls.mono (HDocLine.out _) ?_; rintro e wN hp; obtain ⟨kA, kc, vA, vc, rfl, ta, hbN⟩ := hp.gets (nk := 9) (nv := 32) (by omega) (by simp) rfl rfl; have hT := hT.trans (hbN.mono hT.size); have hB5 := hB5.trans (hbN.mono hB5.size); have c5 := HC.out _ hB5; clear hp hbN)
      | (go_at_call 13; refine Calls.mono (RDocLine.out _) ?_; rintro e wN hp; obtain ⟨kA2, kc2, vA2, vc2, rfl, tb, hbN⟩ := hp.gets (nk := 9) (nv := 32) (by omega) (by simp) rfl rfl; have ta := ta.later hbN; have hT := hT.trans (hbN.mono hT.size); have hB5 := hB5.trans (hbN.mono hB5.size); have c5 := HC.out _ hB5; clear hp hbN)
      | (go_at_call 14; refine Calls.mono (HEntry.out _) ?_; rintro e wN hp; obtain ⟨kA, kc, vA, vc, rfl, ta, hbN⟩ := hp.gets (nk := 5) (nv := 40) (by omega) (by simp) rfl rfl; have hT := hT.trans (hbN.mono hT.size); have hB5 := hB5.trans (hbN.mono hB5.size); have c5 := HC.out _ hB5; clear hp hbN)
      | (go_at_call 15; refine Calls.mono (REntry.out _) ?_; rintro e wN hp; obtain ⟨kA2, kc2, vA2, vc2, rfl, tb, hbN⟩ := hp.gets (nk := 5) (nv := 40) (by omega) (by simp) rfl rfl; have ta := ta.later hbN; have hT := hT.trans (hbN.mono hT.size); have hB5 := hB5.trans (hbN.mono hB5.size); have c5 := HC.out _ hB5; clear hp hbN)
      | (go_at_call 16; refine Calls.mono (HLine.out _) ?_; rintro e wN hp; obtain ⟨kA, kc, vA, vc, rfl, ta, hbN⟩ := hp.gets (nk := 9) (nv := 24) (by omega) (by simp) rfl rfl; have hT := hT.trans (hbN.mono hT.size); have hB5 := hB5.trans (hbN.mono hB5.size); have c5 := HC.out _ hB5; clear hp hbN)
      | (go_at_call 17; refine Calls.mono (RLine.out _) ?_; rintro e wN hp; obtain ⟨kA2, kc2, vA2, vc2, rfl, tb, hbN⟩ := hp.gets (nk := 9) (nv := 24) (by omega) (by simp) rfl rfl; have ta := ta.later hbN; have hT := hT.trans (hbN.mono hT.size); have hB5 := hB5.trans (hbN.mono hB5.size); have c5 := HC.out _ hB5; clear hp hbN)
      | (go_at_call 7; refine Calls.mono (sameP_any ta tb) ?_; rintro e wN ⟨rfl, hbN⟩; have hT := hT.trans (hbN.mono hT.size); have hB5 := hB5.trans (hbN.mono hB5.size); have c5 := HC.out _ hB5; clear ta tb hbN)
      | (go_at_call 18; refine Calls.mono (recAwake_any _) ?_; rintro e wN ⟨rfl, hbN⟩; have hT := hT.trans (hbN.mono hT.size); have hB5 := hB5.trans (hbN.mono hB5.size); have c5 := HC.out _ hB5; clear hbN))
  all_goals go_wp2
  all_goals go_ret
  all_goals exact ⟨rfl, hT⟩
end Go.Proofs.Yteojpnkfnflmbaa
