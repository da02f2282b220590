/-
  The texts MetaD, MetaE, EqIntsB, MetaF joined. Conditions: those that each part says at its head.
-/
import Derived.Test.YtfbljmkjiaklfaaGreatDoorG29
import Derived.Test.YtfbljmkjiaklfaaGreatDoorG8
import Derived.Test.YtfbljmkjiaklfaaGreatDoorG1
import Derived.BigQuiet
import Derived.ChangeKeysEq

/-
  Contracts of meta's cut and read. Condition: a page of 240 bytes; at most 255 numbers of 1 or 4 bytes.
-/
namespace Go.Proofs.YtfbljmkjiaklfaaGreatDoor
open Go.RowKit
set_option maxRecDepth 100000
set_option linter.unusedVariables false

theorem at_bounds {data : List Int} (hb : AllBytes data) (a s : Int) : -9223372036854775808 ≤ at_ data a s ∧ at_ data a s ≤ 9223372036854775807 := by
  unfold at_ getR
  split
  · split
    · show (-9223372036854775808 : Int) ≤ 0 ∧ (0 : Int) ≤ 9223372036854775807
      omega
    · show -9223372036854775808 ≤ numOf _ ∧ numOf _ ≤ 9223372036854775807
      rw [numOf_eq _ ((hb.drop _).take _)]
      unfold wrap64
      omega
  · show (-9223372036854775808 : Int) ≤ 0 ∧ (0 : Int) ≤ 9223372036854775807
    omega

/-- Block g is a row of ints. -/
def IBlk (w : World) (g : Nat) (l : List Int) : Prop := w.heap[g]? = some (.cells (l.map (Value.int .i64)).toArray 3 (0, 0))
theorem IBlk.lt {w : World} {g : Nat} {l : List Int} (h : IBlk w g l) : g < w.heap.size := (Array.getElem?_eq_some_iff.1 h).1
theorem IBlk.keep {w w' : World} {g : Nat} {l : List Int} (h : IBlk w g l) (e : w'.heap[g]? = w.heap[g]?) : IBlk w' g l := e.trans h
theorem IBlk.ri {w : World} {g n : Nat} {l : List Int} (h : IBlk w g l) (hn : l.length = n) (hb : ∀ x ∈ l, -9223372036854775808 ≤ x ∧ x ≤ 9223372036854775807) : RI w w.heap.size (some ⟨g, 0, none⟩) n l := by
  refine ⟨hn, hb, fun h0 => ⟨g, 0, rfl, h.lt, fun j hj => ?_⟩⟩
  rw [Nat.zero_add, cell_of_row w g j _ _ (0, 0) h]
  simp [List.getElem?_eq_getElem (show j < l.length by omega)]
theorem IBlk.cell {w : World} {g : Nat} {l : List Int} (h : IBlk w g l) {j : Nat} {x : Int} (hj : l[j]? = some x) : w.cell? ⟨g, j, none⟩ = some (.int .i64 x) := by
  rw [cell_of_row w g j _ _ (0, 0) h, List.getElem?_toArray, List.getElem?_map, hj]
  rfl
theorem IBlk.frozen {w : World} {g : Nat} {l : List Int} (h : IBlk w g l) (j : Nat) : w.frozen? ⟨g, j, none⟩ = false := by
  have h' : w.heap[g]? = _ := h
  simp [World.frozen?, h']
theorem IBlk.set {w : World} {g : Nat} {l : List Int} (h : IBlk w g l) (j : Nat) (x : Int) : IBlk (w.setCell ⟨g, j, none⟩ (.int .i64 x)) g (l.set j x) := by
  unfold IBlk
  rw [heap_setCell_same w g j _ _ _ h]
  congr 2
  rw [← Array.toList_inj]
  simp [List.map_set]
theorem made_i64 {w : World} {base e g n : Nat} (h : w.ownsRow base e 1 (.slice (some ⟨g, 0, none⟩) n n) n (madeCells (Value.int .i64 0).cells (n * 1)).toList) : w.heap[g]? = some (.cells ((List.replicate n (0 : Int)).map (Value.int .i64)).toArray e (0, 0)) := by
  have := made_block h
  rw [show (Value.int .i64 0).cells = #[Value.int .i64 0] from rfl, toList_madeCells_one, Nat.mul_one] at this
  rw [List.map_replicate]
  exact this

theorem cut_set {data : List Int} {a s : Int} {i k : Nat} (h : i < k) : (cutL data a s i ++ List.replicate (k - i) 0).set i (at_ data (a + i * s) s) = cutL data a s (i + 1) ++ List.replicate (k - (i + 1)) 0 := by
  obtain ⟨d, rfl⟩ : ∃ d, k = i + 1 + d := ⟨k - (i + 1), by omega⟩
  rw [show i + 1 + d - i = d + 1 by omega, show i + 1 + d - (i + 1) = d by omega, List.replicate_succ, List.set_append_right _ _ (by rw [cutL_length]; omega), cutL_length, Nat.sub_self, List.set_cons_zero]
  show _ = (cutL data a s i ++ [_]) ++ _
  rw [List.append_assoc]
  rfl
theorem cut_bounds {data : List Int} (hb : AllBytes data) (a s : Int) : ∀ k, ∀ x ∈ cutL data a s k, -9223372036854775808 ≤ x ∧ x ≤ 9223372036854775807
  | 0 => fun x hx => by cases hx
  | k + 1 => fun x hx => by
    rcases List.mem_append.1 hx with h | h
    · exact cut_bounds hb a s k x h
    · obtain rfl := List.mem_singleton.1 h
      exact at_bounds hb _ _

set_option maxHeartbeats 1600000 in
theorem cut_any {w : World} {B c k : Nat} {A : Option Addr} {data : List Int} {a s : Int} (hr : RB w B A 240 data) (hc : 240 ≤ c) (hB : B ≤ w.heap.size) (ha : 0 ≤ a ∧ a ≤ 240) (hs : 1 ≤ s ∧ s ≤ 4) (hk : k ≤ 255) :
    Calls Tryz.prog 187 #[.slice A 240 c, .int .i64 a, .int .i64 s, .int .i64 (k : Int)] w fun e w' => ∃ g, e = .returned (.slice (some ⟨g, 0, none⟩) k k) ∧ w.heap.size ≤ g ∧ IBlk w' g (cutL data a s k) ∧ Below w.heap.size w w' := by
  obtain ⟨i0, hi, hz0, hz1, hz2⟩ := info_parts info_int
  have HG := Lib.hid (fun (w1 : World) (hb : Below w.heap.size w w1) (x : Int) => Get_any A 240 c B data x s w1 (hr.below (hb.mono hB)) hc (by decide))
  clear hr
  go_enter Tryz.func187, Tryz.ntmps187
  go_wp2_with (first
    | (refine wpList_make_full w rfl _ _ 39 rfl w.heap.size 3 i0 (.int .i64 0) 1 Tryz.underlying39 hi hz0 hz1 .i64 .i64 _ _ k rfl rfl (by simp) (by simp) (by rw [hz2]; omega) (by unfold maxLen; omega) (Nat.le_refl _) ?_; intro w1 hown1 hg1; have hb1 : Below w.heap.size w w1 := (Below.refl _ _).grown hg1 (Nat.le_refl _) (by simp); have hblk1 := Lib.hid (made_i64 hown1); clear hown1 hg1))
  go_loopw [15] (fun i wr => ∃ j : Nat, j ≤ k ∧ i = .int .i64 j ∧ Hid (IBlk wr w.heap.size (cutL data a s j ++ List.replicate (k - j) 0)) ∧ Hid (Below w.heap.size w wr)) (fun i _ => k - (intOf i).toNat)
  case atStart => exact ⟨0, Nat.zero_le _, rfl, Lib.hid hblk1.out, Lib.hid hb1⟩
  case round =>
    obtain ⟨j, hj, rfl, hblk, hbw⟩ := hrel
    clear hb1 hblk1
    by_cases hlt : j < k
    · have hlt' : (j : Int) < (k : Int) := by omega
      have hm0 : 0 ≤ (j : Int) * s := Int.mul_nonneg (by omega) (by omega)
      have hm1 : (j : Int) * s ≤ 255 * 4 := Int.mul_le_mul (by omega) hs.2 (by omega) (by omega)
      have W1 : IntKind.i64.wrap ((j : Int) * s) = (j : Int) * s := by rw [IntKind.wrap_i64]; omega
      have W2 : IntKind.i64.wrap (a + (j : Int) * s) = a + (j : Int) * s := by rw [IntKind.wrap_i64]; omega
      have HGJ := Lib.hid (HG.out wr hbw.out (a + (j : Int) * s))
      have hlenj : (cutL data a s j ++ List.replicate (k - j) 0).length = k := by rw [List.length_append, cutL_length, List.length_replicate]; omega
      obtain ⟨old, hcell⟩ : ∃ u, wr.cell? ⟨w.heap.size, j, none⟩ = some (.int .i64 u) := ⟨_, hblk.out.cell (j := j) (List.getElem?_eq_getElem (show j < (cutL data a s j ++ List.replicate (k - j) 0).length by omega))⟩
      have hfz := hblk.out.frozen j
      have HSET := Lib.hid (hblk.out.set j (at_ data (a + (j : Int) * s) s))
      rw [cut_set hlt] at HSET
      have HB2 := Lib.hid (hbw.out.setCell (p := ⟨w.heap.size, j, none⟩) (Nat.le_refl _) (.int .i64 (at_ data (a + (j : Int) * s) s)))
      clear hlenj hblk hbw hm0 hm1
      go_wp2_with fail
      refine HGJ.out.mono ?_
      rintro e w2 ⟨rfl, rfl⟩
      go_wp2
      go_roundw
      case rel => exact ⟨j + 1, by omega, by go_num, HSET, HB2⟩
      case measure => simp [intOf]; omega
    · obtain rfl : j = k := by omega
      have HE := Lib.hid (show IBlk wr w.heap.size (cutL data a s j) from by
        have := hblk.out
        rwa [Nat.sub_self, List.replicate_zero, List.append_nil] at this)
      go_wp2
      go_ret
      exact ⟨_, rfl, Nat.le_refl _, HE.out, hbw.out⟩

end Go.Proofs.YtfbljmkjiaklfaaGreatDoor

/-
  Contract of meta's read: what stands in a page where it should. Condition: a page of 240 bytes.
-/
namespace Go.Proofs.YtfbljmkjiaklfaaGreatDoor
open Go.RowKit
set_option maxRecDepth 100000
set_option linter.unusedVariables false

theorem MBox.frozen {w : World} {b : Nat} {d f n c : Int} {v : Value} (h : MBox w b d f n c v) (i : Nat) : w.frozen? ⟨b, i, none⟩ = false := by
  have h' : w.heap[b]? = _ := h
  simp [World.frozen?, h']
theorem MBox.store {w : World} {b : Nat} {d f n c : Int} {v : Value} (h : MBox w b d f n c v) (d' f' n' c' : Int) (v' : Value) :
    MBox (((((w.setCell ⟨b, 0, none⟩ (.int .i64 d')).setCell ⟨b, 1, none⟩ (.int .i64 f')).setCell ⟨b, 2, none⟩ (.int .i64 n')).setCell ⟨b, 3, none⟩ (.int .i64 c')).setCell ⟨b, 4, none⟩ v') b d' f' n' c' v' := by
  have h1 := heap_setCell_same w b 0 _ _ (.int .i64 d') h
  have h2 := heap_setCell_same _ b 1 _ _ (.int .i64 f') h1
  have h3 := heap_setCell_same _ b 2 _ _ (.int .i64 n') h2
  have h4 := heap_setCell_same _ b 3 _ _ (.int .i64 c') h3
  have h5 := heap_setCell_same _ b 4 _ _ v' h4
  exact h5
theorem below_five {B : Nat} {w0 w : World} {b : Nat} {x0 x1 x2 x3 x4 : Value} (h : Below B w0 w) (hb : B ≤ b) : Below B w0 (((((w.setCell ⟨b, 0, none⟩ x0).setCell ⟨b, 1, none⟩ x1).setCell ⟨b, 2, none⟩ x2).setCell ⟨b, 3, none⟩ x3).setCell ⟨b, 4, none⟩ x4) :=
  ((((h.setCell hb _).setCell hb _).setCell hb _).setCell hb _).setCell hb _
theorem block_five {w : World} {b g : Nat} {x0 x1 x2 x3 x4 : Value} (hg : g ≠ b) : (((((w.setCell ⟨b, 0, none⟩ x0).setCell ⟨b, 1, none⟩ x1).setCell ⟨b, 2, none⟩ x2).setCell ⟨b, 3, none⟩ x3).setCell ⟨b, 4, none⟩ x4).heap[g]? = w.heap[g]? := by
  rw [Below.heap_setCell _ _ _ _ hg, Below.heap_setCell _ _ _ _ hg, Below.heap_setCell _ _ _ _ hg, Below.heap_setCell _ _ _ _ hg, Below.heap_setCell _ _ _ _ hg]

theorem cells_five {w : World} {b g i : Nat} {v x0 x1 x2 x3 x4 : Value} (hg : g ≠ b) (h : w.cell? ⟨g, i, none⟩ = some v) : (((((w.setCell ⟨b, 0, none⟩ x0).setCell ⟨b, 1, none⟩ x1).setCell ⟨b, 2, none⟩ x2).setCell ⟨b, 3, none⟩ x3).setCell ⟨b, 4, none⟩ x4).cell? ⟨g, i, none⟩ = some v := (World.cell?_of_block (a := ⟨g, i, none⟩) (block_five hg)).trans h

theorem at_one {data : List Int} (hb : AllBytes data) (hl : data.length = 240) : at_ data 5 1 = ((countM data : Nat) : Int) ∧ countM data ≤ 255 := by
  obtain ⟨h0, h1⟩ := hb.getD 5
  have e : at_ data 5 1 = numOf ((data.drop 5).take 1) := by
    unfold at_ getR
    rw [if_pos ⟨by decide, by decide⟩, if_neg (by rw [hl]; decide)]
    rfl
  have e2 : (data.drop 5).take 1 = [data[5]?.getD 0] := by
    rw [List.drop_eq_getElem_cons (show 5 < data.length by omega), List.getElem?_eq_getElem (show 5 < data.length by omega)]
    rfl
  rw [e, e2]
  unfold countM
  generalize data[5]?.getD 0 = x at h0 h1
  refine ⟨?_, by omega⟩
  rw [numOf_eq _ (fun y hy => by obtain rfl := List.mem_singleton.1 hy; exact ⟨h0, h1⟩)]
  show wrap64 (0 * 256 + x) = _
  unfold wrap64
  omega

set_option maxHeartbeats 3200000 in
theorem read_any {w : World} {B c : Nat} {A : Option Addr} {data : List Int} (hr : RB w B A 240 data) (hc : 240 ≤ c) (hB : B ≤ w.heap.size) :
    Calls Tryz.prog 134 #[.slice A 240 c] w fun e w' => ∃ g, e = .returned (.agg #[.int .i64 (at_ data 4 1), .int .i64 (at_ data 6 4), .int .i64 (at_ data 10 4), .int .i64 (at_ data 14 4), .slice (some ⟨g, 0, none⟩) (countM data) (countM data)]) ∧ w.heap.size ≤ g ∧ IBlk w' g (cutL data 18 4 (countM data)) ∧ Below w.heap.size w w' := by
  obtain ⟨hK, hK255⟩ := at_one hr.bytes hr.len
  have HR := Lib.hid (fun (w1 : World) (hb : Below w.heap.size w w1) => hr.below (hb.mono hB))
  have hX : Below w.heap.size w (w.alloc (.cells #[.int .i64 0, .int .i64 0, .int .i64 0, .int .i64 0, .slice none 0 0] 41)) := (Below.refl _ _).alloc (Nat.le_refl _) _
  have HC1 := Lib.hid (cut_any (a := 4) (s := 1) (k := 2) (HR.out _ hX) hc (Nat.le_trans hB hX.size) (by decide) (by decide) (by decide))
  have HMB := Lib.hid (MBox.new w 0 0 0 0 (.slice none 0 0))
  have HX := Lib.hid hX
  have hsX : (w.alloc (.cells #[.int .i64 0, .int .i64 0, .int .i64 0, .int .i64 0, .slice none 0 0] 41)).heap.size = w.heap.size + 1 := by simp
  have HK := Lib.hid hK
  clear hX hr hK
  generalize hKK : countM data = K at *
  clear hKK
  go_enter Tryz.func134, Tryz.ntmps134
  go_wp2_with fail
  refine HC1.out.mono ?_
  rintro e w1 ⟨g1, rfl, hg1, hi1, hb1⟩
  have hb01 := HX.out.trans (hb1.mono HX.out.size)
  have hmb1 := HMB.out.below hb1
  have HC2 := Lib.hid (cut_any (a := 6) (s := 4) (k := 3) (HR.out _ hb01) hc (Nat.le_trans hB hb01.size) (by decide) (by decide) (by decide))
  have HS1 := Lib.hid (And.intro hb01 (And.intro hmb1 hi1))
  rw [hsX] at hg1
  have hb1s : w.heap.size + 1 ≤ w1.heap.size := by have := hb1.size; rw [hsX] at this; exact this
  clear hb01 hmb1 hi1 hb1 HC1 HMB
  go_wp2_with fail
  refine HC2.out.mono ?_
  rintro e w2 ⟨g2, rfl, hg2, hi2, hb2⟩
  obtain ⟨hb01, hmb1, hi1⟩ := HS1.out
  have hb02 := hb01.trans (hb2.mono hb01.size)
  have hmb2 := hmb1.below hb2
  have hi12 := hi1.keep (hb2.block _ hi1.lt)
  have hg1l := hi1.lt
  have k0 : w2.cell? ⟨g1, 0, none⟩ = some (.int .i64 (at_ data 4 1)) := hi12.cell rfl
  have k1 : w2.cell? ⟨g1, 1, none⟩ = some (.int .i64 (K : Int)) := by rw [← HK.out]; exact hi12.cell rfl
  have k2 : w2.cell? ⟨g2, 0, none⟩ = some (.int .i64 (at_ data 6 4)) := hi2.cell rfl
  have k3 : w2.cell? ⟨g2, 1, none⟩ = some (.int .i64 (at_ data 10 4)) := hi2.cell rfl
  have k4 : w2.cell? ⟨g2, 2, none⟩ = some (.int .i64 (at_ data 14 4)) := hi2.cell rfl
  have hl1 := hi12.lt
  have hl2 := hi2.lt
  have hn1 : g1 ≠ w.heap.size := by omega
  have hn2 : g2 ≠ w.heap.size := by have := hb1s; omega
  have HC3 := Lib.hid (fun (W : World) (hW : Below w2.heap.size w2 W) => cut_any (w := W) (a := 18) (s := 4) (k := K) (HR.out _ (hb02.trans (hW.mono hb02.size))) hc (Nat.le_trans hB (Nat.le_trans hb02.size hW.size)) (by decide) (by decide) hK255)
  have HS2 := Lib.hid (And.intro hb02 hmb2)
  clear hb01 hmb1 hi1 hb02 hmb2 hi12 hi2 hb2 HC2 HS1 HR HX HK
  generalize hq0 : at_ data 4 1 = y0 at *
  generalize hq1 : at_ data 6 4 = y1 at *
  generalize hq2 : at_ data 10 4 = y2 at *
  generalize hq3 : at_ data 14 4 = y3 at *
  go_wp2_with fail
  have c5 : w2.cell? ⟨g1, 0, none⟩ = some (.int .i64 y0) ∧ w2.cell? ⟨g1, 1, none⟩ = some (.int .i64 (K : Int)) ∧ w2.cell? ⟨g2, 0, none⟩ = some (.int .i64 y1) ∧ w2.cell? ⟨g2, 1, none⟩ = some (.int .i64 y2) ∧ w2.cell? ⟨g2, 2, none⟩ = some (.int .i64 y3) := ⟨k0, k1, k2, k3, k4⟩
  go_region_held3 (fun w' => w'.cell? ⟨g1, 0, none⟩ = some (.int .i64 y0) ∧ w'.cell? ⟨g1, 1, none⟩ = some (.int .i64 (K : Int)) ∧ w'.cell? ⟨g2, 0, none⟩ = some (.int .i64 y1) ∧ w'.cell? ⟨g2, 1, none⟩ = some (.int .i64 y2) ∧ w'.cell? ⟨g2, 2, none⟩ = some (.int .i64 y3))
    (first | with_reducible exact c5 | with_reducible exact ⟨cells_five hn1 c5.1, cells_five hn1 c5.2.1, cells_five hn2 c5.2.2.1, cells_five hn2 c5.2.2.2.1, cells_five hn2 c5.2.2.2.2⟩ | exact ⟨k0, k1, k2, k3, k4⟩)
    ((go_at_call 187; refine (HC3.out _ (Below.refl _ _).drew).mono ?_; rintro e w5 ⟨g3, rfl, hg3, hi3, hb3⟩; have hb3' : Below w2.heap.size w2 w5 := (Below.refl _ _).drew.trans hb3; have c5 : w5.cell? ⟨g1, 0, none⟩ = some (.int .i64 y0) ∧ w5.cell? ⟨g1, 1, none⟩ = some (.int .i64 (K : Int)) ∧ w5.cell? ⟨g2, 0, none⟩ = some (.int .i64 y1) ∧ w5.cell? ⟨g2, 1, none⟩ = some (.int .i64 y2) ∧ w5.cell? ⟨g2, 2, none⟩ = some (.int .i64 y3) := ⟨(hb3'.cell (p := ⟨g1, 0, none⟩) hl1).trans k0, (hb3'.cell (p := ⟨g1, 1, none⟩) hl1).trans k1, (hb3'.cell (p := ⟨g2, 0, none⟩) hl2).trans k2, (hb3'.cell (p := ⟨g2, 1, none⟩) hl2).trans k3, (hb3'.cell (p := ⟨g2, 2, none⟩) hl2).trans k4⟩; have hmb5 := HS2.out.2.below hb3'; have f0 := hmb5.frozen 0; have f1 := hmb5.frozen 1; have f2 := hmb5.frozen 2; have f3 := hmb5.frozen 3; have f4 := hmb5.frozen 4; obtain ⟨z0, z1, z2, z3, z4, z5⟩ := hmb5.cells))
  have HX5 := Lib.hid (And.intro (hmb5.store y0 y1 y2 y3 (.slice (some ⟨g3, 0, none⟩) K K)) (And.intro hi3 (below_five (x0 := .int .i64 y0) (x1 := .int .i64 y1) (x2 := .int .i64 y2) (x3 := .int .i64 y3) (x4 := .slice (some ⟨g3, 0, none⟩) K K) (HS2.out.1.trans (hb3'.mono HS2.out.1.size)) (Nat.le_refl _))))
  have hg3' : g3 ≠ w.heap.size ∧ w.heap.size ≤ g3 := by have : w2.heap.size ≤ g3 := hg3; omega
  clear hb3 hb3' hmb5 hi3 c5 f0 f1 f2 f3 f4 z0 z1 z2 z3 z4 z5 HC3
  have hblk := Lib.hid ((block_five (w := w5) (x0 := .int .i64 y0) (x1 := .int .i64 y1) (x2 := .int .i64 y2) (x3 := .int .i64 y3) (x4 := .slice (some ⟨g3, 0, none⟩) K K) hg3'.1))
  generalize hXX : (((((w5.setCell ⟨w.heap.size, 0, none⟩ (Value.int IntKind.i64 y0)).setCell ⟨w.heap.size, 1, none⟩ (Value.int IntKind.i64 y1)).setCell ⟨w.heap.size, 2, none⟩ (Value.int IntKind.i64 y2)).setCell ⟨w.heap.size, 3, none⟩ (Value.int IntKind.i64 y3)).setCell ⟨w.heap.size, 4, none⟩ (Value.slice (some ⟨g3, 0, none⟩) K K)) = X at *
  obtain ⟨hmX, hiX, hbX⟩ := HX5.out
  obtain ⟨d0, d1, d2, d3, d4, _⟩ := hmX.cells
  have HE := Lib.hid (And.intro (hiX.keep hblk.out) hbX)
  clear hmX hiX hbX hXX hblk HX5
  go_wp2
  refine bodyPost_ret (v := .agg #[.int .i64 y0, .int .i64 y1, .int .i64 y2, .int .i64 y3, .slice (some ⟨g3, 0, none⟩) K K]) (by
    simp [results, Tryz.results134, go_sem, d0, d1, d2, d3, d4]) rfl ?_
  subst hq0 hq1 hq2 hq3
  exact ⟨g3, rfl, hg3'.2, HE.out.1, HE.out.2⟩

end Go.Proofs.YtfbljmkjiaklfaaGreatDoor

/-
  slices.Equal on ints by its contract: whether they are the same. Nothing is written. No condition.
-/
namespace Go.Proofs.YtfbljmkjiaklfaaGreatDoor
open Go.RowKit
set_option maxRecDepth 100000
set_option linter.unusedVariables false

theorem same_of {l m : List Int} (h : l.length = m.length) (he : ∀ j, j < l.length → l[j]?.getD 0 = m[j]?.getD 0) : l = m := by
  apply List.ext_getElem h
  intro j h1 h2
  have := he j h1
  rw [List.getElem?_eq_getElem h1, List.getElem?_eq_getElem h2] at this
  exact this

theorem belowI_drewN {B : Nat} {w w' : World} (h : Below B w w') : ∀ n, Below B w (w'.drewN n) := fun n => ⟨h.os, h.tape, h.output, h.size, h.block⟩

set_option maxHeartbeats 800000 in
theorem EqualInts_any {w : World} {B B' n m : Nat} {A A' : Option Addr} {l l' : List Int} (c d : Nat) (hr : RI w B A n l) (hr' : RI w B' A' m l') (hm : n ≤ maxLen) (hm' : m ≤ maxLen) (hB : B ≤ w.heap.size) (hB' : B' ≤ w.heap.size) :
    Calls Tryz.prog 163 #[.slice A n c, .slice A' m d] w fun e w' => e = .returned (.bool (decide (l = l'))) ∧ Below w.heap.size w w' := by
  unfold maxLen at hm hm'
  have hlen := hr.len
  have hlen' := hr'.len
  by_cases hnm : n = m
  · subst hnm
    have hne : ((n : Int) != (n : Int)) = false := by simp
    go_enter Tryz.func163, Tryz.ntmps163
    go_wp2
    go_loopw [13] (fun i wr => ∃ k : Nat, k ≤ n ∧ i = .int .i64 k ∧ Hid (∀ j, j < k → l[j]?.getD 0 = l'[j]?.getD 0) ∧ Below w.heap.size w wr) (fun i _ => n - (intOf i).toNat)
    case atStart => exact ⟨0, Nat.zero_le _, rfl, Lib.hid (fun j hj => absurd hj (by omega)), Below.refl _ _⟩
    case round =>
      obtain ⟨k, hk, rfl, hbef, hbw⟩ := hrel
      by_cases hlt : k < n
      · obtain ⟨b, off, rfl, hb, hcell⟩ := hr.2.2 (by omega)
        obtain ⟨b', off', rfl, hb', hcell'⟩ := hr'.2.2 (by omega)
        have hck := (hbw.cell (p := ⟨b, off + k, none⟩) (Nat.lt_of_lt_of_le hb hB)).trans (hcell k hlt)
        have hck' := (hbw.cell (p := ⟨b', off' + k, none⟩) (Nat.lt_of_lt_of_le hb' hB')).trans (hcell' k hlt)
        clear hcell hcell'
        have hlt' : (k : Int) < (n : Int) := by omega
        by_cases hv : l[k]?.getD 0 = l'[k]?.getD 0
        · have hn := Lib.hid (fun j (hj : j < k + 1) => show l[j]?.getD 0 = l'[j]?.getD 0 by
            rcases Nat.lt_or_ge j k with h | h
            · exact hbef.out j h
            · obtain rfl : j = k := by omega
              exact hv)
          have kv : (l[k]?.getD 0 != l'[k]?.getD 0) = false := by simp [hv]
          clear hv
          generalize l[k]?.getD 0 = u at hck kv
          generalize l'[k]?.getD 0 = u' at hck' kv
          go_wp2_with fail
          go_quiet (fail)
          go_wp2
          go_roundw
          case rel => exact ⟨k + 1, by omega, by go_num, hn, belowI_drewN hbw _⟩
          case measure => simp [intOf]; omega
        · have hd := Lib.hid (show decide (l = l') = false by
            have : ¬ l = l' := fun e => hv (by rw [e])
            simpa using this)
          have kv : (l[k]?.getD 0 != l'[k]?.getD 0) = true := by simpa using hv
          clear hv
          generalize l[k]?.getD 0 = u at hck kv
          generalize l'[k]?.getD 0 = u' at hck' kv
          go_wp2_with fail
          go_quiet (fail)
          go_wp2
          go_ret
          rw [hd.out]
          exact ⟨rfl, belowI_drewN hbw _⟩
      · obtain rfl : k = n := by omega
        have hd := Lib.hid (show decide (l = l') = true by
          have : l = l' := same_of (by omega) (fun j hj => hbef.out j (by omega))
          simpa using this)
        go_wp2
        go_ret
        rw [hd.out]
        exact ⟨rfl, hbw⟩
  · have hne : ((n : Int) != (m : Int)) = true := by simp; omega
    have hd : decide (l = l') = false := by
      have : ¬ l = l' := fun e => hnm (by rw [← hlen, ← hlen', e])
      simpa using this
    rw [hd]
    clear hd hnm
    go_enter Tryz.func163, Tryz.ntmps163
    go_wp2
    go_ret
    exact ⟨rfl, Below.refl _ _⟩

end Go.Proofs.YtfbljmkjiaklfaaGreatDoor

/-
  Contracts of meta.Parse and meta.Same. Condition: lengths and numbers are ints.
-/
namespace Go.Proofs.YtfbljmkjiaklfaaGreatDoor
open Go.RowKit
set_option maxRecDepth 100000
set_option linter.unusedVariables false

/-! ### arrays of whole numbers -/
theorem eq_items {P : Program} (w : World) (d : Nat) (e : TypeId) (k : IntKind) (he : P.underlying e = some (.int k)) (xs ys : List Int) : ∀ is : List Nat, (∀ i ∈ is, i < xs.length ∧ i < ys.length) →
    (Op.eqItems (d + 1) e 1 (xs.map (Value.int k)).toArray (ys.map (Value.int k)).toArray is).run P w = .ok (decide (∀ i ∈ is, xs[i]? = ys[i]?)) w
  | [], _ => by simp [Op.eqItems]
  | i :: is, h => by
    obtain ⟨h1, h2⟩ := h i (List.mem_cons_self ..)
    have hk : P.plainKey e = true := by simp [Program.plainKey, he]
    have p1 := run_part_plain (P := P) w hk (xs := (xs.map (Value.int k)).toArray) (off := i) (v := .int k xs[i]) (by simp [h1])
    have p2 := run_part_plain (P := P) w hk (xs := (ys.map (Value.int k)).toArray) (off := i) (v := .int k ys[i]) (by simp [h2])
    simp only [Op.eqItems, Nat.mul_one, Sem.run_bind, p1, p2, Result.andThen_ok, run_equalIn_int w d e k k xs[i] ys[i] he]
    have ih := eq_items w d e k he xs ys is (fun j hj => h j (List.mem_cons_of_mem _ hj))
    have g1 : xs[i]? = some xs[i] := List.getElem?_eq_getElem h1
    have g2 : ys[i]? = some ys[i] := List.getElem?_eq_getElem h2
    by_cases hxy : xs[i] = ys[i]
    · have hb : (xs[i] == ys[i]) = true := by simpa using hxy
      rw [hb]
      simp only [Bool.not_true, Bool.false_eq_true, if_false, ih]
      congr 2
      apply propext
      constructor
      · intro h' j hj
        rcases List.mem_cons.1 hj with rfl | hj
        · rw [g1, g2, hxy]
        · exact h' j hj
      · intro h' j hj
        exact h' j (List.mem_cons_of_mem _ hj)
    · have hb : (xs[i] == ys[i]) = false := by simpa using hxy
      rw [hb]
      simp only [Bool.not_false, if_true, Sem.run_pure]
      congr 1
      symm
      rw [decide_eq_false_iff_not]
      intro h'
      have := h' i (List.mem_cons_self ..)
      rw [g1, g2] at this
      exact hxy (Option.some.inj this)
theorem eq_array {P : Program} (w : World) (t e : TypeId) (k : IntKind) {i0 : TypeInfo} (n : Nat) (xs ys : List Int) (hu : P.underlying t = some (.array n e)) (he : P.underlying e = some (.int k)) (hi : P.info? e = some i0) (hc : P.cellsOf e = 1) (hx : xs.length = n) (hy : ys.length = n) (d : Nat) :
    (Op.equalIn (d + 2) t (.agg (xs.map (Value.int k)).toArray) (.agg (ys.map (Value.int k)).toArray)).run P w = .ok (decide (xs = ys)) w := by
  rw [run_equalIn_array w (d + 1) _ _ hu hi, hc, eq_items w d e k he xs ys _ (fun i hi => by
    have := List.mem_range.1 hi
    omega)]
  congr 1
  rw [decide_eq_decide]
  constructor
  · intro h
    apply List.ext_getElem?
    intro j
    rcases Nat.lt_or_ge j n with hj | hj
    · exact h j (List.mem_range.2 hj)
    · rw [List.getElem?_eq_none (by omega), List.getElem?_eq_none (by omega)]
  · rintro rfl i _
    rfl
theorem neq_array {P : Program} (w : World) (t e : TypeId) (k : IntKind) {i0 : TypeInfo} (n : Nat) (xs ys : List Int) (hu : P.underlying t = some (.array n e)) (he : P.underlying e = some (.int k)) (hi : P.info? e = some i0) (hc : P.cellsOf e = 1) (hx : xs.length = n) (hy : ys.length = n) :
    (binOp .neq t (.agg (xs.map (Value.int k)).toArray) (.agg (ys.map (Value.int k)).toArray)).run P w = .ok (.bool (!decide (xs = ys))) w := by
  rw [run_neq_struct, eq_array w t e k n xs ys hu he hi hc hx hy 9998]
  rfl
theorem eql_array {P : Program} (w : World) (t e : TypeId) (k : IntKind) {i0 : TypeInfo} (n : Nat) (xs ys : List Int) (hu : P.underlying t = some (.array n e)) (he : P.underlying e = some (.int k)) (hi : P.info? e = some i0) (hc : P.cellsOf e = 1) (hx : xs.length = n) (hy : ys.length = n) :
    (binOp .eql t (.agg (xs.map (Value.int k)).toArray) (.agg (ys.map (Value.int k)).toArray)).run P w = .ok (.bool (decide (xs = ys))) w := by
  rw [run_eql_struct, eq_array w t e k n xs ys hu he hi hc hx hy 9998]
  rfl

theorem MBox.five (w : World) (d f n c d' f' n' c' : Int) (v v' : Value) : MBox ((w.alloc (.cells #[.int .i64 d, .int .i64 f, .int .i64 n, .int .i64 c, v] 41)).alloc (.cells #[.int .i64 d', .int .i64 f', .int .i64 n', .int .i64 c', v'] 41)) w.heap.size d f n c v :=
  (MBox.new w d f n c v).below ((Below.refl _ _).alloc (Nat.le_refl _) _)

set_option maxHeartbeats 400000 in
theorem numbers_any (d f n c : Int) (v : Value) (w : World) : Calls Tryz.prog 162 #[.agg #[.int .i64 d, .int .i64 f, .int .i64 n, .int .i64 c, v]] w fun e w' => e = .returned (.agg #[.int .i64 d, .int .i64 f, .int .i64 n, .int .i64 c]) ∧ Below w.heap.size w w' := by
  have hX : Below w.heap.size w (w.alloc (.cells #[.int .i64 d, .int .i64 f, .int .i64 n, .int .i64 c, v] 41)) := (Below.refl _ _).alloc (Nat.le_refl _) _
  have HM := Lib.hid (MBox.new w d f n c v)
  go_enter Tryz.func162, Tryz.ntmps162
  have hb : ((w.alloc (.cells #[.int .i64 d, .int .i64 f, .int .i64 n, .int .i64 c, v] 41)).alloc (.cells #[.int .i64 d, .int .i64 f, .int .i64 n, .int .i64 c] 211)).heap[w.heap.size + 1]? = some (.cells #[.int .i64 d, .int .i64 f, .int .i64 n, .int .i64 c] 211 (0, 0)) := by
    have := heap_alloc_new (w.alloc (.cells #[.int .i64 d, .int .i64 f, .int .i64 n, .int .i64 c, v] 41)) (.cells #[.int .i64 d, .int .i64 f, .int .i64 n, .int .i64 c] 211)
    simpa using this
  have d0 : _ = some (Value.int .i64 d) := cell_of_row _ (w.heap.size + 1) 0 _ _ (0, 0) hb
  have d1 : _ = some (Value.int .i64 f) := cell_of_row _ (w.heap.size + 1) 1 _ _ (0, 0) hb
  have d2 : _ = some (Value.int .i64 n) := cell_of_row _ (w.heap.size + 1) 2 _ _ (0, 0) hb
  have d3 : _ = some (Value.int .i64 c) := cell_of_row _ (w.heap.size + 1) 3 _ _ (0, 0) hb
  have HX := Lib.hid (hX.alloc hX.size (.cells #[.int .i64 d, .int .i64 f, .int .i64 n, .int .i64 c] 211))
  clear hX hb
  go_wp2
  refine bodyPost_ret (v := .agg #[.int .i64 d, .int .i64 f, .int .i64 n, .int .i64 c]) (by
    simp [results, Tryz.results162, go_sem, d0, d1, d2, d3]) rfl ?_
  exact ⟨rfl, HX.out⟩

/-- Two Metas in variables' blocks. -/
def Boxes (w : World) (b : Nat) (x y : Int × Int × Int × Int) (u v : Value) : Prop := MBox w b x.1 x.2.1 x.2.2.1 x.2.2.2 u ∧ MBox w (b + 1) y.1 y.2.1 y.2.2.1 y.2.2.2 v
theorem Boxes.below {w w' : World} {b : Nat} {x y : Int × Int × Int × Int} {u v : Value} (h : Boxes w b x y u v) (hb : Below w.heap.size w w') : Boxes w' b x y u v := ⟨h.1.below hb, h.2.below hb⟩
theorem Boxes.cells {w : World} {b : Nat} {x y : Int × Int × Int × Int} {u v : Value} (h : Boxes w b x y u v) :
    w.cell? ⟨b, 0, none⟩ = some (.int .i64 x.1) ∧ w.cell? ⟨b, 1, none⟩ = some (.int .i64 x.2.1) ∧ w.cell? ⟨b, 2, none⟩ = some (.int .i64 x.2.2.1) ∧ w.cell? ⟨b, 3, none⟩ = some (.int .i64 x.2.2.2) ∧ w.cell? ⟨b, 4, none⟩ = some u ∧
    w.cell? ⟨b + 1, 0, none⟩ = some (.int .i64 y.1) ∧ w.cell? ⟨b + 1, 1, none⟩ = some (.int .i64 y.2.1) ∧ w.cell? ⟨b + 1, 2, none⟩ = some (.int .i64 y.2.2.1) ∧ w.cell? ⟨b + 1, 3, none⟩ = some (.int .i64 y.2.2.2) ∧ w.cell? ⟨b + 1, 4, none⟩ = some v := by
  obtain ⟨a0, a1, a2, a3, a4, _⟩ := h.1.cells
  obtain ⟨b0, b1, b2, b3, b4, _⟩ := h.2.cells
  exact ⟨a0, a1, a2, a3, a4, b0, b1, b2, b3, b4⟩

theorem info_int4 : (Tryz.prog.info? 3).map (·.size) = some 1 := by kernel_rfl
set_option maxHeartbeats 3200000 in
theorem same_any {w : World} {A A' : Option Addr} {k m cap cap' B : Nat} (d f n c d' f' n' c' : Int) {l l' : List Int} (hr : RI w B A k l) (hr' : RI w B A' m l') (hB : B ≤ w.heap.size) (hk : k ≤ maxLen) (hm : m ≤ maxLen) :
    Calls Tryz.prog 104 #[.agg #[.int .i64 d, .int .i64 f, .int .i64 n, .int .i64 c, .slice A k cap], .agg #[.int .i64 d', .int .i64 f', .int .i64 n', .int .i64 c', .slice A' m cap']] w fun e w' => e = .returned (.bool (sameB ⟨d, f, n, c, l⟩ ⟨d', f', n', c', l'⟩)) ∧ Below w.heap.size w w' := by
  obtain ⟨i0, hi, _⟩ : ∃ i0, Tryz.prog.info? 3 = some i0 ∧ True := by
    cases hq : Tryz.prog.info? 3 with
    | none => have := info_int4; rw [hq] at this; cases this
    | some i0 => exact ⟨i0, rfl, trivial⟩
  have qeq : ∀ W : World, (binOp .eql 211 (.agg #[.int .i64 d, .int .i64 f, .int .i64 n, .int .i64 c]) (.agg #[.int .i64 d', .int .i64 f', .int .i64 n', .int .i64 c'])).run Tryz.prog W = .ok (.bool (decide ([d, f, n, c] = [d', f', n', c']))) W := fun W => eql_array W 211 3 .i64 4 [d, f, n, c] [d', f', n', c'] Tryz.underlying211 Tryz.underlying3 hi (by kernel_rfl) rfl rfl
  have hX : Below w.heap.size w ((w.alloc (.cells #[.int .i64 d, .int .i64 f, .int .i64 n, .int .i64 c, .slice A k cap] 41)).alloc (.cells #[.int .i64 d', .int .i64 f', .int .i64 n', .int .i64 c', .slice A' m cap'] 41)) := ((Below.refl _ _).alloc (Nat.le_refl _) _).alloc (by simp) _
  have hbx : Boxes ((w.alloc (.cells #[.int .i64 d, .int .i64 f, .int .i64 n, .int .i64 c, .slice A k cap] 41)).alloc (.cells #[.int .i64 d', .int .i64 f', .int .i64 n', .int .i64 c', .slice A' m cap'] 41)).drew w.heap.size (d, f, n, c) (d', f', n', c') (.slice A k cap) (.slice A' m cap') := by
    refine ⟨MBox.five w d f n c d' f' n' c' _ _, ?_⟩
    have := heap_alloc_new (w.alloc (.cells #[.int .i64 d, .int .i64 f, .int .i64 n, .int .i64 c, .slice A k cap] 41)) (.cells #[.int .i64 d', .int .i64 f', .int .i64 n', .int .i64 c', .slice A' m cap'] 41)
    show (World.alloc _ _).heap[w.heap.size + 1]? = _
    simpa using this
  have hT := hX.drew
  have c5 := hbx.cells
  have HR := Lib.hid (fun (w1 : World) (hb : Below w.heap.size w w1) => (hr.below (hb.mono hB)))
  have HR' := Lib.hid (fun (w1 : World) (hb : Below w.heap.size w w1) => (hr'.below (hb.mono hB)))
  have hsame : sameB ⟨d, f, n, c, l⟩ ⟨d', f', n', c', l'⟩ = (decide ([d, f, n, c] = [d', f', n', c']) && decide (l = l')) := by
    unfold sameB
    by_cases a : d = d' <;> by_cases b : f = f' <;> by_cases e : n = n' <;> by_cases g : c = c' <;> simp [a, b, e, g]
  rw [hsame]
  clear hsame hr hr' hX
  cases hq : decide ([d, f, n, c] = [d', f', n', c']) with
  | false =>
    rw [hq] at qeq
    clear hq
    go_enter Tryz.func104, Tryz.ntmps104
    go_wp2_with fail
    obtain ⟨x0, x1, x2, x3, x4, x5, x6, x7, x8, x9⟩ := c5
    first
      | (go_region_with
          (go_at_call 162; refine (numbers_any _ _ _ _ _ _).mono ?_; rintro e wN ⟨rfl, hbN⟩; have hbx := hbx.below hbN; have hT := hT.trans (hbN.mono hT.size); obtain ⟨x0, x1, x2, x3, x4, x5, x6, x7, x8, x9⟩ := hbx.cells))
      | fail
    all_goals go_wp2
    all_goals go_ret
    all_goals exact ⟨rfl, hT⟩
  | true =>
    rw [hq] at qeq
    clear hq
    go_enter Tryz.func104, Tryz.ntmps104
    go_wp2_with fail
    go_region_held3 (fun w' => w'.cell? ⟨w.heap.size, 0, none⟩ = some (.int .i64 d) ∧ w'.cell? ⟨w.heap.size, 1, none⟩ = some (.int .i64 f) ∧ w'.cell? ⟨w.heap.size, 2, none⟩ = some (.int .i64 n) ∧ w'.cell? ⟨w.heap.size, 3, none⟩ = some (.int .i64 c) ∧ w'.cell? ⟨w.heap.size, 4, none⟩ = some (.slice A k cap) ∧ w'.cell? ⟨w.heap.size + 1, 0, none⟩ = some (.int .i64 d') ∧ w'.cell? ⟨w.heap.size + 1, 1, none⟩ = some (.int .i64 f') ∧ w'.cell? ⟨w.heap.size + 1, 2, none⟩ = some (.int .i64 n') ∧ w'.cell? ⟨w.heap.size + 1, 3, none⟩ = some (.int .i64 c') ∧ w'.cell? ⟨w.heap.size + 1, 4, none⟩ = some (.slice A' m cap'))
      (first | with_reducible exact c5 | exact c5)
      (first | (go_at_call 162; refine (numbers_any _ _ _ _ _ _).mono ?_; rintro e wN ⟨rfl, hbN⟩; have hbx := hbx.below hbN; have hT := hT.trans (hbN.mono hT.size); have c5 := hbx.cells) | (go_at_call 163; refine (EqualInts_any cap cap' (HR.out _ hT) (HR'.out _ hT) hk hm (Nat.le_trans hB hT.size) (Nat.le_trans hB hT.size)).mono ?_; rintro e wE ⟨rfl, hbE⟩; have hbx := hbx.below hbE; have hT := hT.trans (hbE.mono hT.size); have c5 := hbx.cells))
    all_goals go_wp2
    all_goals go_ret
    all_goals exact ⟨rfl, hT⟩

end Go.Proofs.YtfbljmkjiaklfaaGreatDoor
