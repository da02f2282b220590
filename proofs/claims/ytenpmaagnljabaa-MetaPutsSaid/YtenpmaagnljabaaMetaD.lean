/-
  Contracts of meta's cut and read. Condition: a page of 240 bytes; at most 255 numbers of 1 or 4 bytes.
-/
import Derived.Test.YtenpmaagnljabaaMetaC
import Derived.Test.YtenpmaagnljabaaIntApp
namespace Go.Proofs.Ytenpmaagnljabaa
open Go.RowKit
set_option maxRecDepth 100000
set_option linter.unusedVariables false

theorem at_bounds {data : List Int} (hb : AllBytes data) (a s : Int) : -9223372036854775808 ≤ at_ data a s ∧ at_ data a s ≤ 9223372036854775807 := by
  unfold at_ getR
  split
  · split
    · show (-9223372036854775808 : Int) ≤ 0 ∧ (0 : Int) ≤ 9223372036854775807
      omega
    · show -9223372036854775808 ≤ numOf _ ∧ numOf _ ≤ 9223372036854775807
      rw [numOf_eq _ ((hb.drop _).take _)]
      unfold wrap64
      omega
  · show (-9223372036854775808 : Int) ≤ 0 ∧ (0 : Int) ≤ 9223372036854775807
    omega

/-- Block g is a row of ints. -/
def IBlk (w : World) (g : Nat) (l : List Int) : Prop := w.heap[g]? = some (.cells (l.map (Value.int .i64)).toArray 3 (0, 0))
theorem IBlk.lt {w : World} {g : Nat} {l : List Int} (h : IBlk w g l) : g < w.heap.size := (Array.getElem?_eq_some_iff.1 h).1
theorem IBlk.keep {w w' : World} {g : Nat} {l : List Int} (h : IBlk w g l) (e : w'.heap[g]? = w.heap[g]?) : IBlk w' g l := e.trans h
theorem IBlk.ri {w : World} {g n : Nat} {l : List Int} (h : IBlk w g l) (hn : l.length = n) (hb : ∀ x ∈ l, -9223372036854775808 ≤ x ∧ x ≤ 9223372036854775807) : RI w w.heap.size (some ⟨g, 0, none⟩) n l := by
  refine ⟨hn, hb, fun h0 => ⟨g, 0, rfl, h.lt, fun j hj => ?_⟩⟩
  rw [Nat.zero_add, cell_of_row w g j _ _ (0, 0) h]
  simp [List.getElem?_eq_getElem (show j < l.length by omega)]
theorem IBlk.cell {w : World} {g : Nat} {l : List Int} (h : IBlk w g l) {j : Nat} {x : Int} (hj : l[j]? = some x) : w.cell? ⟨g, j, none⟩ = some (.int .i64 x) := by
  rw [cell_of_row w g j _ _ (0, 0) h, List.getElem?_toArray, List.getElem?_map, hj]
  rfl
theorem IBlk.frozen {w : World} {g : Nat} {l : List Int} (h : IBlk w g l) (j : Nat) : w.frozen? ⟨g, j, none⟩ = false := by
  have h' : w.heap[g]? = _ := h
  simp [World.frozen?, h']
theorem IBlk.set {w : World} {g : Nat} {l : List Int} (h : IBlk w g l) (j : Nat) (x : Int) : IBlk (w.setCell ⟨g, j, none⟩ (.int .i64 x)) g (l.set j x) := by
  unfold IBlk
  rw [heap_setCell_same w g j _ _ _ h]
  congr 2
  rw [← Array.toList_inj]
  simp [List.map_set]
theorem made_i64 {w : World} {base e g n : Nat} (h : w.ownsRow base e 1 (.slice (some ⟨g, 0, none⟩) n n) n (madeCells (Value.int .i64 0).cells (n * 1)).toList) : w.heap[g]? = some (.cells ((List.replicate n (0 : Int)).map (Value.int .i64)).toArray e (0, 0)) := by
  have := made_block h
  rw [show (Value.int .i64 0).cells = #[Value.int .i64 0] from rfl, toList_madeCells_one, Nat.mul_one] at this
  rw [List.map_replicate]
  exact this

theorem cut_set {data : List Int} {a s : Int} {i k : Nat} (h : i < k) : (cutL data a s i ++ List.replicate (k - i) 0).set i (at_ data (a + i * s) s) = cutL data a s (i + 1) ++ List.replicate (k - (i + 1)) 0 := by
  obtain ⟨d, rfl⟩ : ∃ d, k = i + 1 + d := ⟨k - (i + 1), by omega⟩
  rw [show i + 1 + d - i = d + 1 by omega, show i + 1 + d - (i + 1) = d by omega, List.replicate_succ, List.set_append_right _ _ (by rw [cutL_length]; omega), cutL_length, Nat.sub_self, List.set_cons_zero]
  show _ = (cutL data a s i ++ [_]) ++ _
  rw [List.append_assoc]
  rfl
theorem cut_bounds {data : List Int} (hb : AllBytes data) (a s : Int) : ∀ k, ∀ x ∈ cutL data a s k, -9223372036854775808 ≤ x ∧ x ≤ 9223372036854775807
  | 0 => fun x hx => by cases hx
  | k + 1 => fun x hx => by
    rcases List.mem_append.1 hx with h | h
    · exact cut_bounds hb a s k x h
    · obtain rfl := List.mem_singleton.1 h
      exact at_bounds hb _ _

set_option maxHeartbeats 1600000 in
theorem cut_any {w : World} {B c k : Nat} {A : Option Addr} {data : List Int} {a s : Int} (hr : RB w B A 240 data) (hc : 240 ≤ c) (hB : B ≤ w.heap.size) (ha : 0 ≤ a ∧ a ≤ 240) (hs : 1 ≤ s ∧ s ≤ 4) (hk : k ≤ 255) :
    Calls Try.prog 26 #[.slice A 240 c, .int .i64 a, .int .i64 s, .int .i64 (k : Int)] w fun e w' => ∃ g, e = .returned (.slice (some ⟨g, 0, none⟩) k k) ∧ w.heap.size ≤ g ∧ IBlk w' g (cutL data a s k) ∧ Below w.heap.size w w' := by
  obtain ⟨i0, hi, hz0, hz1, hz2⟩ := info_parts info_int
  have HG := Lib.hid (fun (w1 : World) (hb : Below w.heap.size w w1) (x : Int) => Get_any A 240 c B data x s w1 (hr.below (hb.mono hB)) hc (by decide))
  clear hr
  go_enter Try.func26, Try.ntmps26
  go_wp2_with (first
    | (refine wpList_make_full w rfl _ _ 22 rfl w.heap.size 3 i0 (.int .i64 0) 1 Try.underlying22 hi hz0 hz1 .i64 .i64 _ _ k rfl rfl (by simp) (by simp) (by rw [hz2]; omega) (by unfold maxLen; omega) (Nat.le_refl _) ?_; intro w1 hown1 hg1; have hb1 : Below w.heap.size w w1 := (Below.refl _ _).grown hg1 (Nat.le_refl _) (by simp); have hblk1 := Lib.hid (made_i64 hown1); clear hown1 hg1))
  go_loopw [15] (fun i wr => ∃ j : Nat, j ≤ k ∧ i = .int .i64 j ∧ Hid (IBlk wr w.heap.size (cutL data a s j ++ List.replicate (k - j) 0)) ∧ Hid (Below w.heap.size w wr)) (fun i _ => k - (intOf i).toNat)
  case atStart => exact ⟨0, Nat.zero_le _, rfl, Lib.hid hblk1.out, Lib.hid hb1⟩
  case round =>
    obtain ⟨j, hj, rfl, hblk, hbw⟩ := hrel
    clear hb1 hblk1
    by_cases hlt : j < k
    · have hlt' : (j : Int) < (k : Int) := by omega
      have hm0 : 0 ≤ (j : Int) * s := Int.mul_nonneg (by omega) (by omega)
      have hm1 : (j : Int) * s ≤ 255 * 4 := Int.mul_le_mul (by omega) hs.2 (by omega) (by omega)
      have W1 : IntKind.i64.wrap ((j : Int) * s) = (j : Int) * s := by rw [IntKind.wrap_i64]; omega
      have W2 : IntKind.i64.wrap (a + (j : Int) * s) = a + (j : Int) * s := by rw [IntKind.wrap_i64]; omega
      have HGJ := Lib.hid (HG.out wr hbw.out (a + (j : Int) * s))
      have hlenj : (cutL data a s j ++ List.replicate (k - j) 0).length = k := by rw [List.length_append, cutL_length, List.length_replicate]; omega
      obtain ⟨old, hcell⟩ : ∃ u, wr.cell? ⟨w.heap.size, j, none⟩ = some (.int .i64 u) := ⟨_, hblk.out.cell (j := j) (List.getElem?_eq_getElem (show j < (cutL data a s j ++ List.replicate (k - j) 0).length by omega))⟩
      have hfz := hblk.out.frozen j
      have HSET := Lib.hid (hblk.out.set j (at_ data (a + (j : Int) * s) s))
      rw [cut_set hlt] at HSET
      have HB2 := Lib.hid (hbw.out.setCell (p := ⟨w.heap.size, j, none⟩) (Nat.le_refl _) (.int .i64 (at_ data (a + (j : Int) * s) s)))
      clear hlenj hblk hbw hm0 hm1
      go_wp2_with fail
      refine HGJ.out.mono ?_
      rintro e w2 ⟨rfl, rfl⟩
      go_wp2
      go_roundw
      case rel => exact ⟨j + 1, by omega, by go_num, HSET, HB2⟩
      case measure => simp [intOf]; omega
    · obtain rfl : j = k := by omega
      have HE := Lib.hid (show IBlk wr w.heap.size (cutL data a s j) from by
        have := hblk.out
        rwa [Nat.sub_self, List.replicate_zero, List.append_nil] at this)
      go_wp2
      go_ret
      exact ⟨_, rfl, Nat.le_refl _, HE.out, hbw.out⟩

end Go.Proofs.Ytenpmaagnljabaa
