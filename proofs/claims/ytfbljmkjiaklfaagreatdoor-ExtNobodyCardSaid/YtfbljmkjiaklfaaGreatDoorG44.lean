/-
  The texts ExtNo joined. Conditions: those that each part says at its head.
-/
import Derived.Test.YtfbljmkjiaklfaaGreatDoorG1

/-
  What a store that no call made answers. No condition.
-/
namespace Go.Proofs.YtfbljmkjiaklfaaGreatDoor
open Go.RowKit
set_option maxRecDepth 100000
set_option linter.unusedVariables false

set_option maxHeartbeats 400000 in
theorem extMade_nil (w : World) : Calls Tryz.prog 57 #[.pointer none] w fun e w' => e = .returned (.bool false) ∧ w = w' := by
  go_enter Tryz.func57, Tryz.ntmps57
  go_wp2
  go_ret
  exact ⟨rfl, rfl⟩
set_option maxHeartbeats 400000 in
theorem extMade_zero {w : World} {r : Nat} (h : w.cell? ⟨r, 0, none⟩ = some (.pointer none)) : Calls Tryz.prog 57 #[.pointer (some ⟨r, 0, none⟩)] w fun e w' => e = .returned (.bool false) ∧ w = w' := by
  go_enter Tryz.func57, Tryz.ntmps57
  go_wp2
  go_ret
  exact ⟨rfl, rfl⟩
/-- The Meta of no store. -/
def zeroMeta : Value := .agg #[.int .i64 0, .int .i64 0, .int .i64 0, .int .i64 0, .slice none 0 0]
/-- made says no of v, from w on. -/
def Unmade (w : World) (v : Value) : Prop := ∀ w1, Below w.heap.size w w1 → Calls Tryz.prog 57 #[v] w1 fun e w' => e = .returned (.bool false) ∧ w1 = w'
theorem Unmade.nil_ (w : World) : Unmade w (.pointer none) := fun w1 _ => extMade_nil w1
theorem Unmade.zero_ {w : World} {r : Nat} (h : w.cell? ⟨r, 0, none⟩ = some (.pointer none)) (hr : r < w.heap.size) : Unmade w (.pointer (some ⟨r, 0, none⟩)) := fun w1 hb => extMade_zero ((hb.cell (p := ⟨r, 0, none⟩) hr).trans h)
theorem Unmade.later {w w1 : World} {v : Value} (h : Unmade w v) (hb : Below w.heap.size w w1) : Unmade w1 v := fun w2 hb2 => h w2 (hb.trans (hb2.mono hb.size))
/-- A block of nought: a Meta. -/
theorem zbox (w : World) : (w.alloc (.cells #[.int .i64 0, .int .i64 0, .int .i64 0, .int .i64 0, .slice none 0 0] 41)).heap[w.heap.size]? = some (.cells #[.int .i64 0, .int .i64 0, .int .i64 0, .int .i64 0, .slice none 0 0] 41 (0, 0)) := heap_alloc_new _ _

theorem box_five {w : World} {b : Nat} {T : TypeId} {a0 a1 a2 a3 a4 : Value} (h : w.heap[b]? = some (.cells #[a0, a1, a2, a3, a4] T (0, 0))) (x0 x1 x2 x3 x4 : Value) : (((((w.setCell ⟨b, 0, none⟩ x0).setCell ⟨b, 1, none⟩ x1).setCell ⟨b, 2, none⟩ x2).setCell ⟨b, 3, none⟩ x3).setCell ⟨b, 4, none⟩ x4).heap[b]? = some (.cells #[x0, x1, x2, x3, x4] T (0, 0)) := by
  have h0 := heap_setCell_same _ b 0 _ _ x0 h
  have h1 := heap_setCell_same _ b 1 _ _ x1 h0
  have h2 := heap_setCell_same _ b 2 _ _ x2 h1
  have h3 := heap_setCell_same _ b 3 _ _ x3 h2
  have h4 := heap_setCell_same _ b 4 _ _ x4 h3
  simpa using h4
section
variable {w : World} {v : Value}
set_option maxHeartbeats 800000 in
theorem extHead_un (hm : Unmade w v) : Calls Tryz.prog 35 #[v] w fun e w' => e = .returned (.tuple #[.agg #[.int .i64 0, .int .i64 0, .int .i64 0, .int .i64 0, .slice none 0 0], .int .i64 2]) ∧ Below w.heap.size w w' := by
  have hX : Below w.heap.size w (w.alloc (.cells #[.int .i64 0, .int .i64 0, .int .i64 0, .int .i64 0, .slice none 0 0] 41)) := (Below.refl _ _).alloc (Nat.le_refl _) _
  have HM := Lib.hid (hm _ hX)
  have HX := Lib.hid hX
  have hb := zbox w
  clear hm hX
  go_enter Tryz.func35, Tryz.ntmps35
  go_wp2_with fail
  refine HM.out.mono ?_
  rintro e w1 ⟨rfl, rfl⟩
  go_wp2
  have d0 := cell_of_row _ w.heap.size 0 _ _ (0, 0) hb
  have d1 := cell_of_row _ w.heap.size 1 _ _ (0, 0) hb
  have d2 := cell_of_row _ w.heap.size 2 _ _ (0, 0) hb
  have d3 := cell_of_row _ w.heap.size 3 _ _ (0, 0) hb
  have d4 := cell_of_row _ w.heap.size 4 _ _ (0, 0) hb
  generalize w.alloc (.cells #[.int .i64 0, .int .i64 0, .int .i64 0, .int .i64 0, .slice none 0 0] 41) = X at *
  exact bodyPost_ret (v := .tuple #[.agg #[.int .i64 0, .int .i64 0, .int .i64 0, .int .i64 0, .slice none 0 0], .int .i64 2]) (by simp [results, Tryz.results35, go_sem, d0, d1, d2, d3, d4]) rfl ⟨rfl, HX.out⟩
set_option maxHeartbeats 800000 in
theorem extGet_un (hm : Unmade w v) (A : Option Addr) (n c : Nat) : Calls Tryz.prog 16 #[v, .slice A n c] w fun e w' => e = .returned (.tuple #[.slice none 0 0, .bool false, .int .i64 2]) ∧ Below w.heap.size w w' := by
  have HM := Lib.hid (extHead_un hm)
  clear hm
  go_enter Tryz.func16, Tryz.ntmps16
  go_wp2_with fail
  refine HM.out.mono ?_
  rintro e w1 ⟨rfl, hb1⟩
  have HB := Lib.hid hb1
  clear hb1 HM
  go_wp2
  exact bodyPost_ret (v := .tuple #[.slice none 0 0, .bool false, .int .i64 2]) (by simp [results, Tryz.results16, go_sem]) rfl ⟨rfl, HB.out.alloc HB.out.size _⟩
set_option maxHeartbeats 800000 in
theorem extDelete_un (hm : Unmade w v) (A : Option Addr) (n c : Nat) : Calls Tryz.prog 17 #[v, .slice A n c] w fun e w' => e = .returned (.tuple #[.bool false, .int .i64 2]) ∧ Below w.heap.size w w' := by
  have HM := Lib.hid (extHead_un hm)
  clear hm
  go_enter Tryz.func17, Tryz.ntmps17
  go_wp2_with fail
  refine HM.out.mono ?_
  rintro e w1 ⟨rfl, hb1⟩
  have HB := Lib.hid hb1
  clear hb1 HM
  go_wp2
  go_ret2
  exact ⟨rfl, HB.out.alloc HB.out.size _⟩
set_option maxHeartbeats 800000 in
theorem extPut_un (hm : Unmade w v) (A A' : Option Addr) (n c n' c' : Nat) : Calls Tryz.prog 19 #[v, .slice A n c, .slice A' n' c'] w fun e w' => e = .returned (.int .i64 2) ∧ w = w' := by
  have HM := Lib.hid (hm w (Below.refl _ _))
  clear hm
  go_enter Tryz.func19, Tryz.ntmps19
  go_wp2_with fail
  refine HM.out.mono ?_
  rintro e w1 ⟨rfl, rfl⟩
  go_wp2
  go_ret
  exact ⟨rfl, rfl⟩
set_option maxHeartbeats 800000 in
theorem extAll_un (hm : Unmade w v) : Calls Tryz.prog 11 #[v] w fun e w' => e = .returned (.tuple #[.slice none 0 0, .int .i64 2]) ∧ Below w.heap.size w w' := by
  have HM := Lib.hid (extHead_un hm)
  clear hm
  go_enter Tryz.func11, Tryz.ntmps11
  go_wp2_with fail
  refine HM.out.mono ?_
  rintro e w1 ⟨rfl, hb1⟩
  have HB := Lib.hid hb1
  clear hb1 HM
  go_wp2
  go_ret2
  exact ⟨rfl, HB.out.alloc HB.out.size _⟩
set_option maxHeartbeats 800000 in
theorem extMeta_un (hm : Unmade w v) : Calls Tryz.prog 13 #[v] w fun e w' => e = .returned (.agg #[.int .i64 0, .int .i64 0, .int .i64 0, .int .i64 0, .slice none 0 0]) ∧ Below w.heap.size w w' := by
  have hX : Below w.heap.size w (w.alloc (.cells #[.int .i64 0, .int .i64 0, .int .i64 0, .int .i64 0, .slice none 0 0] 41)) := (Below.refl _ _).alloc (Nat.le_refl _) _
  have HM := Lib.hid (extHead_un (hm.later hX))
  have HX := Lib.hid hX
  have HZ := Lib.hid (zbox w)
  clear hm hX
  go_enter Tryz.func13, Tryz.ntmps13
  go_wp2_with fail
  refine HM.out.mono ?_
  rintro e w1 ⟨rfl, hb1⟩
  have hz1 := (hb1.block w.heap.size (by simp)).trans HZ.out
  have HB := Lib.hid (HX.out.trans (hb1.mono HX.out.size))
  have hf : ∀ i, w1.frozen? ⟨w.heap.size, i, none⟩ = false := fun i => by simp [World.frozen?, hz1]
  have f0 := hf 0
  have f1 := hf 1
  have f2 := hf 2
  have f3 := hf 3
  have f4 := hf 4
  have d0 := cell_of_row _ w.heap.size 0 _ _ (0, 0) hz1
  have d1 := cell_of_row _ w.heap.size 1 _ _ (0, 0) hz1
  have d2 := cell_of_row _ w.heap.size 2 _ _ (0, 0) hz1
  have d3 := cell_of_row _ w.heap.size 3 _ _ (0, 0) hz1
  have d4 := cell_of_row _ w.heap.size 4 _ _ (0, 0) hz1
  have hlt : w.heap.size < w1.heap.size := (Array.getElem?_eq_some_iff.1 hz1).1
  have hz3 := box_five hz1 (.int .i64 0) (.int .i64 0) (.int .i64 0) (.int .i64 0) (.slice none 0 0)
  have hb3 := (((((HB.out.setCell (p := ⟨w.heap.size, 0, none⟩) (Nat.le_refl _) (.int .i64 0)).setCell (p := ⟨w.heap.size, 1, none⟩) (Nat.le_refl _) (.int .i64 0)).setCell (p := ⟨w.heap.size, 2, none⟩) (Nat.le_refl _) (.int .i64 0)).setCell (p := ⟨w.heap.size, 3, none⟩) (Nat.le_refl _) (.int .i64 0)).setCell (p := ⟨w.heap.size, 4, none⟩) (Nat.le_refl _) (.slice none 0 0))
  have hz4 := (Below.heap_alloc _ (.cells #[.int .i64 0, .int .i64 0, .int .i64 0, .int .i64 0, .slice none 0 0] 41) _ (Array.getElem?_eq_some_iff.1 hz3).1).trans hz3
  have HZ4 := Lib.hid hz4
  have HB4 := Lib.hid (hb3.alloc hb3.size (.cells #[.int .i64 0, .int .i64 0, .int .i64 0, .int .i64 0, .slice none 0 0] 41))
  clear hb1 hf hz3 hb3 hz4
  go_wp2
  have hz5 := HZ4.out
  have e0 := cell_of_row _ w.heap.size 0 _ _ (0, 0) hz5
  have e1 := cell_of_row _ w.heap.size 1 _ _ (0, 0) hz5
  have e2 := cell_of_row _ w.heap.size 2 _ _ (0, 0) hz5
  have e3 := cell_of_row _ w.heap.size 3 _ _ (0, 0) hz5
  have e4 := cell_of_row _ w.heap.size 4 _ _ (0, 0) hz5
  have hB := HB4.out
  clear d0 d1 d2 d3 d4 f0 f1 f2 f3 f4 hz1 hz5 HZ4 HB4 HB
  generalize (((((w1.setCell ⟨w.heap.size, 0, none⟩ (.int .i64 0)).setCell ⟨w.heap.size, 1, none⟩ (.int .i64 0)).setCell ⟨w.heap.size, 2, none⟩ (.int .i64 0)).setCell ⟨w.heap.size, 3, none⟩ (.int .i64 0)).setCell ⟨w.heap.size, 4, none⟩ (.slice none 0 0)).alloc (.cells #[.int .i64 0, .int .i64 0, .int .i64 0, .int .i64 0, .slice none 0 0] 41) = X at *
  exact bodyPost_ret (v := .agg #[.int .i64 0, .int .i64 0, .int .i64 0, .int .i64 0, .slice none 0 0]) (by simp [results, Tryz.results13, go_sem, e0, e1, e2, e3, e4]) rfl ⟨rfl, hB⟩
theorem metaCount_run (d f n c : Int) (A : Option Addr) (k cap : Nat) (w : World) : (Instr.field 41 (.agg #[.int .i64 d, .int .i64 f, .int .i64 n, .int .i64 c, .slice A k cap]) 3).run Tryz.prog w = .ok (.int .i64 c) w := by
  kernel_rfl
set_option maxHeartbeats 800000 in
theorem extLen_un (hm : Unmade w v) : Calls Tryz.prog 20 #[v] w fun e w' => e = .returned (.int .i64 0) ∧ Below w.heap.size w w' := by
  have HM := Lib.hid (extMeta_un hm)
  clear hm
  go_enter Tryz.func20, Tryz.ntmps20
  go_wp2_with fail
  refine HM.out.mono ?_
  rintro e w1 ⟨rfl, hb1⟩
  have HB := Lib.hid hb1
  clear hb1 HM
  have hfl := metaCount_run 0 0 0 0 none 0 0 w1
  go_wp2
  go_ret
  exact ⟨rfl, HB.out⟩
set_option maxHeartbeats 800000 in
theorem extOpen_nil (w : World) : Calls Tryz.prog 18 #[.pointer none] w fun e w' => e = .returned (.tuple #[.pointer none, .int .i64 2]) ∧ Below w.heap.size w w' := by
  have hX : Below w.heap.size w (w.alloc (.cells #[.pointer none] 48)) := (Below.refl _ _).alloc (Nat.le_refl _) _
  have hc : (w.alloc (.cells #[.pointer none] 48)).cell? ⟨w.heap.size, 0, none⟩ = some (.pointer none) := by
    rw [cell_of_row _ w.heap.size 0 _ _ (0, 0) (heap_alloc_new _ _)]; rfl
  have HM := Lib.hid (extHead_un (Unmade.zero_ hc (by simp)))
  have HX := Lib.hid hX
  clear hX hc
  go_enter Tryz.func18, Tryz.ntmps18
  go_wp2_with fail
  refine HM.out.mono ?_
  rintro e w1 ⟨rfl, hb1⟩
  have HB := Lib.hid (HX.out.trans (hb1.mono HX.out.size))
  clear hb1 HM
  go_wp2
  go_ret2
  exact ⟨rfl, HB.out.alloc HB.out.size _⟩
end
end Go.Proofs.YtfbljmkjiaklfaaGreatDoor
