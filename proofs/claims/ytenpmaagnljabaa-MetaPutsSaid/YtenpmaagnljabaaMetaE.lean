/-
  Contract of meta's read: what stands in a page where it should. Condition: a page of 240 bytes.
-/
import Derived.Test.YtenpmaagnljabaaMetaD
namespace Go.Proofs.Ytenpmaagnljabaa
open Go.RowKit
set_option maxRecDepth 100000
set_option linter.unusedVariables false

theorem MBox.frozen {w : World} {b : Nat} {d f n c : Int} {v : Value} (h : MBox w b d f n c v) (i : Nat) : w.frozen? ⟨b, i, none⟩ = false := by
  have h' : w.heap[b]? = _ := h
  simp [World.frozen?, h']
theorem MBox.store {w : World} {b : Nat} {d f n c : Int} {v : Value} (h : MBox w b d f n c v) (d' f' n' c' : Int) (v' : Value) :
    MBox (((((w.setCell ⟨b, 0, none⟩ (.int .i64 d')).setCell ⟨b, 1, none⟩ (.int .i64 f')).setCell ⟨b, 2, none⟩ (.int .i64 n')).setCell ⟨b, 3, none⟩ (.int .i64 c')).setCell ⟨b, 4, none⟩ v') b d' f' n' c' v' := by
  have h1 := heap_setCell_same w b 0 _ _ (.int .i64 d') h
  have h2 := heap_setCell_same _ b 1 _ _ (.int .i64 f') h1
  have h3 := heap_setCell_same _ b 2 _ _ (.int .i64 n') h2
  have h4 := heap_setCell_same _ b 3 _ _ (.int .i64 c') h3
  have h5 := heap_setCell_same _ b 4 _ _ v' h4
  exact h5
theorem below_five {B : Nat} {w0 w : World} {b : Nat} {x0 x1 x2 x3 x4 : Value} (h : Below B w0 w) (hb : B ≤ b) : Below B w0 (((((w.setCell ⟨b, 0, none⟩ x0).setCell ⟨b, 1, none⟩ x1).setCell ⟨b, 2, none⟩ x2).setCell ⟨b, 3, none⟩ x3).setCell ⟨b, 4, none⟩ x4) :=
  ((((h.setCell hb _).setCell hb _).setCell hb _).setCell hb _).setCell hb _
theorem block_five {w : World} {b g : Nat} {x0 x1 x2 x3 x4 : Value} (hg : g ≠ b) : (((((w.setCell ⟨b, 0, none⟩ x0).setCell ⟨b, 1, none⟩ x1).setCell ⟨b, 2, none⟩ x2).setCell ⟨b, 3, none⟩ x3).setCell ⟨b, 4, none⟩ x4).heap[g]? = w.heap[g]? := by
  rw [Below.heap_setCell _ _ _ _ hg, Below.heap_setCell _ _ _ _ hg, Below.heap_setCell _ _ _ _ hg, Below.heap_setCell _ _ _ _ hg, Below.heap_setCell _ _ _ _ hg]

theorem cells_five {w : World} {b g i : Nat} {v x0 x1 x2 x3 x4 : Value} (hg : g ≠ b) (h : w.cell? ⟨g, i, none⟩ = some v) : (((((w.setCell ⟨b, 0, none⟩ x0).setCell ⟨b, 1, none⟩ x1).setCell ⟨b, 2, none⟩ x2).setCell ⟨b, 3, none⟩ x3).setCell ⟨b, 4, none⟩ x4).cell? ⟨g, i, none⟩ = some v := (World.cell?_of_block (a := ⟨g, i, none⟩) (block_five hg)).trans h

theorem at_one {data : List Int} (hb : AllBytes data) (hl : data.length = 240) : at_ data 5 1 = ((countM data : Nat) : Int) ∧ countM data ≤ 255 := by
  obtain ⟨h0, h1⟩ := hb.getD 5
  have e : at_ data 5 1 = numOf ((data.drop 5).take 1) := by
    unfold at_ getR
    rw [if_pos ⟨by decide, by decide⟩, if_neg (by rw [hl]; decide)]
    rfl
  have e2 : (data.drop 5).take 1 = [data[5]?.getD 0] := by
    rw [List.drop_eq_getElem_cons (show 5 < data.length by omega), List.getElem?_eq_getElem (show 5 < data.length by omega)]
    rfl
  rw [e, e2]
  unfold countM
  generalize data[5]?.getD 0 = x at h0 h1
  refine ⟨?_, by omega⟩
  rw [numOf_eq _ (fun y hy => by obtain rfl := List.mem_singleton.1 hy; exact ⟨h0, h1⟩)]
  show wrap64 (0 * 256 + x) = _
  unfold wrap64
  omega

set_option maxHeartbeats 3200000 in
theorem read_any {w : World} {B c : Nat} {A : Option Addr} {data : List Int} (hr : RB w B A 240 data) (hc : 240 ≤ c) (hB : B ≤ w.heap.size) :
    Calls Try.prog 20 #[.slice A 240 c] w fun e w' => ∃ g, e = .returned (.agg #[.int .i64 (at_ data 4 1), .int .i64 (at_ data 6 4), .int .i64 (at_ data 10 4), .int .i64 (at_ data 14 4), .slice (some ⟨g, 0, none⟩) (countM data) (countM data)]) ∧ w.heap.size ≤ g ∧ IBlk w' g (cutL data 18 4 (countM data)) ∧ Below w.heap.size w w' := by
  obtain ⟨hK, hK255⟩ := at_one hr.bytes hr.len
  have HR := Lib.hid (fun (w1 : World) (hb : Below w.heap.size w w1) => hr.below (hb.mono hB))
  have hX : Below w.heap.size w (w.alloc (.cells #[.int .i64 0, .int .i64 0, .int .i64 0, .int .i64 0, .slice none 0 0] 24)) := (Below.refl _ _).alloc (Nat.le_refl _) _
  have HC1 := Lib.hid (cut_any (a := 4) (s := 1) (k := 2) (HR.out _ hX) hc (Nat.le_trans hB hX.size) (by decide) (by decide) (by decide))
  have HMB := Lib.hid (MBox.new w 0 0 0 0 (.slice none 0 0))
  have HX := Lib.hid hX
  have hsX : (w.alloc (.cells #[.int .i64 0, .int .i64 0, .int .i64 0, .int .i64 0, .slice none 0 0] 24)).heap.size = w.heap.size + 1 := by simp
  have HK := Lib.hid hK
  clear hX hr hK
  generalize hKK : countM data = K at *
  clear hKK
  go_enter Try.func20, Try.ntmps20
  go_wp2_with fail
  refine HC1.out.mono ?_
  rintro e w1 ⟨g1, rfl, hg1, hi1, hb1⟩
  have hb01 := HX.out.trans (hb1.mono HX.out.size)
  have hmb1 := HMB.out.below hb1
  have HC2 := Lib.hid (cut_any (a := 6) (s := 4) (k := 3) (HR.out _ hb01) hc (Nat.le_trans hB hb01.size) (by decide) (by decide) (by decide))
  have HS1 := Lib.hid (And.intro hb01 (And.intro hmb1 hi1))
  rw [hsX] at hg1
  have hb1s : w.heap.size + 1 ≤ w1.heap.size := by have := hb1.size; rw [hsX] at this; exact this
  clear hb01 hmb1 hi1 hb1 HC1 HMB
  go_wp2_with fail
  refine HC2.out.mono ?_
  rintro e w2 ⟨g2, rfl, hg2, hi2, hb2⟩
  obtain ⟨hb01, hmb1, hi1⟩ := HS1.out
  have hb02 := hb01.trans (hb2.mono hb01.size)
  have hmb2 := hmb1.below hb2
  have hi12 := hi1.keep (hb2.block _ hi1.lt)
  have hg1l := hi1.lt
  have k0 : w2.cell? ⟨g1, 0, none⟩ = some (.int .i64 (at_ data 4 1)) := hi12.cell rfl
  have k1 : w2.cell? ⟨g1, 1, none⟩ = some (.int .i64 (K : Int)) := by rw [← HK.out]; exact hi12.cell rfl
  have k2 : w2.cell? ⟨g2, 0, none⟩ = some (.int .i64 (at_ data 6 4)) := hi2.cell rfl
  have k3 : w2.cell? ⟨g2, 1, none⟩ = some (.int .i64 (at_ data 10 4)) := hi2.cell rfl
  have k4 : w2.cell? ⟨g2, 2, none⟩ = some (.int .i64 (at_ data 14 4)) := hi2.cell rfl
  have hl1 := hi12.lt
  have hl2 := hi2.lt
  have hn1 : g1 ≠ w.heap.size := by omega
  have hn2 : g2 ≠ w.heap.size := by have := hb1s; omega
  have HC3 := Lib.hid (fun (W : World) (hW : Below w2.heap.size w2 W) => cut_any (w := W) (a := 18) (s := 4) (k := K) (HR.out _ (hb02.trans (hW.mono hb02.size))) hc (Nat.le_trans hB (Nat.le_trans hb02.size hW.size)) (by decide) (by decide) hK255)
  have HS2 := Lib.hid (And.intro hb02 hmb2)
  clear hb01 hmb1 hi1 hb02 hmb2 hi12 hi2 hb2 HC2 HS1 HR HX HK
  generalize hq0 : at_ data 4 1 = y0 at *
  generalize hq1 : at_ data 6 4 = y1 at *
  generalize hq2 : at_ data 10 4 = y2 at *
  generalize hq3 : at_ data 14 4 = y3 at *
  go_wp2_with fail
  have c5 : w2.cell? ⟨g1, 0, none⟩ = some (.int .i64 y0) ∧ w2.cell? ⟨g1, 1, none⟩ = some (.int .i64 (K : Int)) ∧ w2.cell? ⟨g2, 0, none⟩ = some (.int .i64 y1) ∧ w2.cell? ⟨g2, 1, none⟩ = some (.int .i64 y2) ∧ w2.cell? ⟨g2, 2, none⟩ = some (.int .i64 y3) := ⟨k0, k1, k2, k3, k4⟩
  go_region_held3 (fun w' => w'.cell? ⟨g1, 0, none⟩ = some (.int .i64 y0) ∧ w'.cell? ⟨g1, 1, none⟩ = some (.int .i64 (K : Int)) ∧ w'.cell? ⟨g2, 0, none⟩ = some (.int .i64 y1) ∧ w'.cell? ⟨g2, 1, none⟩ = some (.int .i64 y2) ∧ w'.cell? ⟨g2, 2, none⟩ = some (.int .i64 y3))
    (first | with_reducible exact c5 | with_reducible exact ⟨cells_five hn1 c5.1, cells_five hn1 c5.2.1, cells_five hn2 c5.2.2.1, cells_five hn2 c5.2.2.2.1, cells_five hn2 c5.2.2.2.2⟩ | exact ⟨k0, k1, k2, k3, k4⟩)
    ((go_at_call 26; refine (HC3.out _ (Below.refl _ _).drew).mono ?_; rintro e w5 ⟨g3, rfl, hg3, hi3, hb3⟩; have hb3' : Below w2.heap.size w2 w5 := (Below.refl _ _).drew.trans hb3; have c5 : w5.cell? ⟨g1, 0, none⟩ = some (.int .i64 y0) ∧ w5.cell? ⟨g1, 1, none⟩ = some (.int .i64 (K : Int)) ∧ w5.cell? ⟨g2, 0, none⟩ = some (.int .i64 y1) ∧ w5.cell? ⟨g2, 1, none⟩ = some (.int .i64 y2) ∧ w5.cell? ⟨g2, 2, none⟩ = some (.int .i64 y3) := ⟨(hb3'.cell (p := ⟨g1, 0, none⟩) hl1).trans k0, (hb3'.cell (p := ⟨g1, 1, none⟩) hl1).trans k1, (hb3'.cell (p := ⟨g2, 0, none⟩) hl2).trans k2, (hb3'.cell (p := ⟨g2, 1, none⟩) hl2).trans k3, (hb3'.cell (p := ⟨g2, 2, none⟩) hl2).trans k4⟩; have hmb5 := HS2.out.2.below hb3'; have f0 := hmb5.frozen 0; have f1 := hmb5.frozen 1; have f2 := hmb5.frozen 2; have f3 := hmb5.frozen 3; have f4 := hmb5.frozen 4; obtain ⟨z0, z1, z2, z3, z4, z5⟩ := hmb5.cells))
  have HX5 := Lib.hid (And.intro (hmb5.store y0 y1 y2 y3 (.slice (some ⟨g3, 0, none⟩) K K)) (And.intro hi3 (below_five (x0 := .int .i64 y0) (x1 := .int .i64 y1) (x2 := .int .i64 y2) (x3 := .int .i64 y3) (x4 := .slice (some ⟨g3, 0, none⟩) K K) (HS2.out.1.trans (hb3'.mono HS2.out.1.size)) (Nat.le_refl _))))
  have hg3' : g3 ≠ w.heap.size ∧ w.heap.size ≤ g3 := by have : w2.heap.size ≤ g3 := hg3; omega
  clear hb3 hb3' hmb5 hi3 c5 f0 f1 f2 f3 f4 z0 z1 z2 z3 z4 z5 HC3
  have hblk := Lib.hid ((block_five (w := w5) (x0 := .int .i64 y0) (x1 := .int .i64 y1) (x2 := .int .i64 y2) (x3 := .int .i64 y3) (x4 := .slice (some ⟨g3, 0, none⟩) K K) hg3'.1))
  generalize hXX : (((((w5.setCell ⟨w.heap.size, 0, none⟩ (Value.int IntKind.i64 y0)).setCell ⟨w.heap.size, 1, none⟩ (Value.int IntKind.i64 y1)).setCell ⟨w.heap.size, 2, none⟩ (Value.int IntKind.i64 y2)).setCell ⟨w.heap.size, 3, none⟩ (Value.int IntKind.i64 y3)).setCell ⟨w.heap.size, 4, none⟩ (Value.slice (some ⟨g3, 0, none⟩) K K)) = X at *
  obtain ⟨hmX, hiX, hbX⟩ := HX5.out
  obtain ⟨d0, d1, d2, d3, d4, _⟩ := hmX.cells
  have HE := Lib.hid (And.intro (hiX.keep hblk.out) hbX)
  clear hmX hiX hbX hXX hblk HX5
  go_wp2
  refine bodyPost_ret (v := .agg #[.int .i64 y0, .int .i64 y1, .int .i64 y2, .int .i64 y3, .slice (some ⟨g3, 0, none⟩) K K]) (by
    simp [results, Try.results20, go_sem, d0, d1, d2, d3, d4]) rfl ?_
  subst hq0 hq1 hq2 hq3
  exact ⟨g3, rfl, hg3'.2, HE.out.1, HE.out.2⟩

end Go.Proofs.Ytenpmaagnljabaa
