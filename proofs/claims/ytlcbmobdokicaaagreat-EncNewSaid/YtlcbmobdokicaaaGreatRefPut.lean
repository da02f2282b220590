/-
  The texts Put, NumBackP, RefPut joined. Conditions: those that each part says at its head.
-/
import Derived.Test.YtlcbmobdokicaaaGreatEqual
import Derived.Test.YtlcbmobdokicaaaGreatGet
import Derived.Laws.CopyOwn
import Derived.OwnWalk

/-
  Contracts of num.Put and of the plain Put: for any slice of bytes, any number and any size the answer is a new slice of these bytes, behind them the number's bytes, or nothing more where the number does not fit; nothing that was there is written. Condition: fewer than 2^47 - 8 bytes.
-/
namespace Go.Proofs.YtlcbmobdokicaaaGreat
open Go.RowKit
set_option maxRecDepth 100000
set_option linter.unusedVariables false


theorem made_block {w : World} {base e g n : Nat} {xs : List Value} (h : w.ownsRow base e 1 (.slice (some ⟨g, 0, none⟩) n n) n xs) : w.heap[g]? = some (.cells xs.toArray e (0, 0)) := by
  rcases h.2 with ⟨h', _⟩ | ⟨g', cap', cur, h', _, hg, _, _, hcs, htake⟩
  · simp at h'
  · simp only [Value.slice.injEq, Option.some.injEq, Addr.mk.injEq, and_true, true_and] at h'
    obtain ⟨rfl, rfl⟩ := h'
    rw [← htake, List.take_of_length_le (by simp; omega)]
    simpa using hg

theorem made_u8 {w : World} {base e g n : Nat} (h : w.ownsRow base e 1 (.slice (some ⟨g, 0, none⟩) n n) n (madeCells (Value.int .u8 0).cells (n * 1)).toList) : w.heap[g]? = some (.cells (List.replicate n (Value.int .u8 0)).toArray e (0, 0)) := by
  have := made_block h
  rw [show (Value.int .u8 0).cells = #[Value.int .u8 0] from rfl, toList_madeCells_one, Nat.mul_one] at this
  exact this

theorem copy_src {w : World} {B n : Nat} {A : Option Addr} {l : List Int} (h : RB w B A n l) (hp : 0 < (l.map (Value.int .u8)).length) : ∃ ad, A = some ad ∧ ∀ j v, (l.map (Value.int .u8))[j]? = some v → w.cell? (ad.add j) = some v := by
  obtain ⟨ad, rfl, _⟩ := h.src 0 _ (List.getElem?_eq_getElem hp)
  refine ⟨ad, rfl, fun j v hv => ?_⟩
  obtain ⟨ad', e, hc⟩ := h.src j v hv
  cases e
  exact hc

/-- The block while it is filled: j of k bytes stand already, the last ones. -/
def fill (l : List Int) (x : Int) (k j : Nat) (e : TypeId) : Obj := .cells ((l ++ (List.replicate (k - j) 0 ++ putB x j)).map (Value.int .u8)).toArray e (0, 0)

theorem fill_start {w : World} {g n k : Nat} {e : TypeId} {l : List Int} {x : Int} (hl : l.length = n) (h : w.heap[g]? = some (.cells (splice (List.replicate (n + k) (Value.int .u8 0)) 0 (l.map (Value.int .u8))).toArray e (0, 0))) : w.heap[g]? = some (fill l x k 0 e) := by
  rw [h]
  subst hl
  simp [fill, splice, putB, List.drop_replicate]
theorem fill_frozen {w : World} {g : Nat} {e : TypeId} {l : List Int} {x : Int} {k j m : Nat} (h : w.heap[g]? = some (fill l x k j e)) : w.frozen? ⟨g, m, none⟩ = false := by
  unfold fill at h
  simp [World.frozen?, h]
theorem fill_length (l : List Int) (x : Int) {k j : Nat} (hj : j ≤ k) : (l ++ (List.replicate (k - j) 0 ++ putB x j)).length = l.length + k := by
  simp [putB_length]; omega
theorem fill_cell {w : World} {g n : Nat} {e : TypeId} {l : List Int} {x : Int} {k j : Nat} (hl : l.length = n) (h : w.heap[g]? = some (fill l x k j e)) (m : Nat) (hm : m < n + k ∧ j ≤ k) : ∃ u, w.cell? ⟨g, m, none⟩ = some u := by
  unfold fill at h
  rw [cell_of_row w g m _ e (0, 0) h]
  have := fill_length l x hm.2
  exact ⟨_, Array.getElem?_eq_getElem (by simp only [List.size_toArray, List.length_map]; omega)⟩

theorem fill_step {w : World} {g n : Nat} {e : TypeId} {l : List Int} {x : Int} {k j m : Nat} (hl : l.length = n) (h : w.heap[g]? = some (fill l x k j e)) (hj : j < k) (hm : m + j + 1 = n + k) :
    (w.setCell ⟨g, m, none⟩ (.int .u8 (shN x j % 256))).heap[g]? = some (fill l x k (j + 1) e) := by
  unfold fill at h ⊢
  rw [heap_setCell_same w g m _ e _ h]
  subst hl
  obtain ⟨d, rfl⟩ : ∃ d, k = j + 1 + d := ⟨k - (j + 1), by omega⟩
  have e1 : j + 1 + d - j = d + 1 := by omega
  have e2 : j + 1 + d - (j + 1) = d := by omega
  obtain rfl : m = l.length + d := by omega
  rw [e1, e2, putB_front]
  congr 2
  rw [← Array.toList_inj]
  simp only [Array.toList_setIfInBounds, List.map_append, List.map_cons, List.map_replicate]
  rw [List.replicate_succ', List.append_assoc, List.set_append_right _ _ (by simp), List.set_append_right _ _ (by simp)]
  simp
theorem fill_end {w : World} {g : Nat} {e : TypeId} {l : List Int} {x : Int} {k : Nat} (h : w.heap[g]? = some (fill l x k k e)) : w.heap[g]? = some (.cells ((l ++ putB x k).map (Value.int .u8)).toArray e (0, 0)) := by
  rw [h]; simp [fill]

set_option maxHeartbeats 800000 in
theorem Put_yes (A : Option Addr) (n c B : Nat) (l : List Int) (x : Int) (k : Nat) (w : World) (hr : RB w B A n l) (hB : B ≤ w.heap.size) (hc : n ≤ c) (hm : n ≤ 140737488355000) (hs : rightB x (k : Int) = true) (hk8 : k ≤ 8) (hxl : -9223372036854775808 ≤ x) (hxh : x ≤ 9223372036854775807) :
    Calls Tryz.prog 136 #[.slice A n c, .int .i64 x, .int .i64 (k : Int)] w fun e w' => ∃ g, e = .returned (.slice (some ⟨g, 0, none⟩) (n + k) (n + k)) ∧ w.heap.size ≤ g ∧ w'.heap[g]? = some (.cells ((l ++ putB x k).map (Value.int .u8)).toArray 5 (0, 0)) ∧ Below w.heap.size w w' := by
  obtain ⟨i0, hi, hz0, hz1, hz2⟩ := info_parts info_u8
  have HS := Lib.hid hs
  clear hs
  go_enter Tryz.func136, Tryz.ntmps136
  go_wp2_with (first
    | (go_at_call 162; refine (Right_yes _ _ _ HS.out).mono ?_; rintro e w' ⟨rfl, rfl⟩)
    | (refine wpList_make_full w rfl _ _ 109 rfl w.heap.size 5 i0 (.int .u8 0) 1 Tryz.underlying109 hi hz0 hz1 .i64 .i64 _ _ (n + k) rfl rfl (by simp) (by simp) (by rw [hz2]; omega) (by unfold maxLen; omega) (Nat.le_refl _) ?_; intro w1 hown1 hg1; have hb1 : Below w.heap.size w w1 := (Below.refl _ _).grown hg1 (Nat.le_refl _) (by simp); have hblk1 := Lib.hid (made_u8 hown1); clear hown1 hg1)
    | (with_reducible refine wpList_copy_splice rfl (.tmp 18) (.tmp 19) 109 109 rfl 5 Tryz.underlying109 size_u8 _ _ _ _ _ _ rfl rfl w.heap.size 0 (List.replicate (n + k) (Value.int .u8 0)) 5 hblk1.out (l.map (Value.int .u8)) (by rw [List.length_map, hr.len]; exact (Nat.min_eq_left (by omega)).symm) (fun hp => ⟨rfl, copy_src (hr.below (hb1.mono hB)) hp⟩) (by rw [List.length_map, List.length_replicate, hr.len]; omega) (oneCell_bytes l) w.heap.size w hb1 (Nat.le_refl _) ?_; intro w2 hblk2 hb2))
  have hblk := Lib.hid (fill_start (x := x) hr.len hblk2.out)
  clear hblk2 hblk1 hb1
  go_loopw [1, 8] (fun xn i wr => ∃ (j : Nat) (z : Int), j ≤ k ∧ z + j + 1 ≤ n + k ∧ (n : Int) + k ≤ z + j + 1 ∧ i = .int .i64 z ∧ xn = .int .i64 (shN x j) ∧ Hid (wr.heap[w.heap.size]? = some (fill l x k j 5)) ∧ Below w.heap.size w wr)
    (fun _ i _ => (intOf i + 1 - (n : Int)).toNat)
  case atStart => exact ⟨0, _, Nat.zero_le _, by omega, by omega, rfl, rfl, hblk, hb2⟩
  case round =>
    obtain ⟨j, z, hj, hz1, hz2, rfl, rfl, hblkj, hbj⟩ := hrel
    clear hblk
    by_cases hlt : j < k
    · obtain ⟨m, rfl⟩ := Int.eq_ofNat_of_zero_le (show 0 ≤ z by omega)
      have hfz : wr.frozen? ⟨w.heap.size, m, none⟩ = false := fill_frozen hblkj.out
      obtain ⟨u, hu⟩ := fill_cell hr.len hblkj.out m ⟨by omega, by omega⟩
      obtain ⟨hx0, hx1⟩ := shN_bounds x hxl hxh j
      have hnm : n ≤ m := by omega
      have hmk : m < n + k := by omega
      go_wp2
      have hstep := Lib.hid (fill_step hr.len hblkj.out hlt (m := m) (by omega))
      clear hu hfz hblkj
      go_roundw
      case rel => exact ⟨j + 1, _, by omega, by omega, by omega, rfl, rfl, hstep, hbj.setCell (Nat.le_refl _) _⟩
      case measure => simp [intOf]; omega
    · have hjk : j = k := by omega
      subst hjk
      have hend := Lib.hid (fill_end hblkj.out)
      have hzn : z < n := by omega
      clear hblkj
      go_wp2
      go_ret
      exact ⟨_, rfl, Nat.le_refl _, hend.out, hbj⟩

theorem fill_start0 {w : World} {g n : Nat} {e : TypeId} {l : List Int} (hl : l.length = n) (h : w.heap[g]? = some (.cells (splice (List.replicate n (Value.int .u8 0)) 0 (l.map (Value.int .u8))).toArray e (0, 0))) : w.heap[g]? = some (.cells (l.map (Value.int .u8)).toArray e (0, 0)) := by
  rw [h]
  subst hl
  simp [splice]

set_option maxHeartbeats 800000 in
theorem Put_no (A : Option Addr) (n c B : Nat) (l : List Int) (x s : Int) (w : World) (hr : RB w B A n l) (hB : B ≤ w.heap.size) (hc : n ≤ c) (hm : n ≤ 140737488355000) (hs : rightB x s = false) :
    Calls Tryz.prog 136 #[.slice A n c, .int .i64 x, .int .i64 s] w fun e w' => ∃ g, e = .returned (.slice (some ⟨g, 0, none⟩) n n) ∧ w.heap.size ≤ g ∧ w'.heap[g]? = some (.cells (l.map (Value.int .u8)).toArray 5 (0, 0)) ∧ Below w.heap.size w w' := by
  obtain ⟨i0, hi, hz0, hz1, hz2⟩ := info_parts info_u8
  have HS := Lib.hid hs
  clear hs
  go_enter Tryz.func136, Tryz.ntmps136
  go_wp2_with (first
    | (go_at_call 162; refine (Right_no _ _ _ HS.out).mono ?_; rintro e w' ⟨rfl, rfl⟩)
    | (refine wpList_make_full w rfl _ _ 109 rfl w.heap.size 5 i0 (.int .u8 0) 1 Tryz.underlying109 hi hz0 hz1 .i64 .i64 _ _ n rfl rfl (by simp) (by simp) (by rw [hz2]; omega) (by unfold maxLen; omega) (Nat.le_refl _) ?_; intro w1 hown1 hg1; have hb1 : Below w.heap.size w w1 := (Below.refl _ _).grown hg1 (Nat.le_refl _) (by simp); have hblk1 := Lib.hid (made_u8 hown1); clear hown1 hg1)
    | (with_reducible refine wpList_copy_splice rfl (.tmp 18) (.tmp 19) 109 109 rfl 5 Tryz.underlying109 size_u8 _ _ _ _ _ _ rfl rfl w.heap.size 0 (List.replicate n (Value.int .u8 0)) 5 hblk1.out (l.map (Value.int .u8)) (by rw [List.length_map, hr.len]; exact (Nat.min_eq_left (by omega)).symm) (fun hp => ⟨rfl, copy_src (hr.below (hb1.mono hB)) hp⟩) (by rw [List.length_map, List.length_replicate, hr.len]; omega) (oneCell_bytes l) w.heap.size w hb1 (Nat.le_refl _) ?_; intro w2 hblk2 hb2))
  have hblk := Lib.hid (fill_start0 hr.len hblk2.out)
  clear hblk2 hblk1 hb1
  refine wp_loop_rounds 1 ?_
  rw [rounds_succ]
  go_wp2
  go_ret
  exact ⟨_, rfl, Nat.le_refl _, hblk.out, hb2⟩

/-- What Put answers. -/
def putR (l : List Int) (x s : Int) : List Int := if rightB x s = true then l ++ putB x s.toNat else l

theorem right_size {x s : Int} (h : rightB x s = true) : s = 1 ∨ s = 2 ∨ s = 4 ∨ s = 8 := by
  by_cases hs : sizeB s = true
  · exact size_cases hs
  · rw [rightB_none (by simpa using hs)] at h; cases h

/-- A new slice that is just these bytes. -/
def Fresh (w w' : World) (e : TypeId) (v : Value) (l : List Int) : Prop := ∃ g, v = .slice (some ⟨g, 0, none⟩) l.length l.length ∧ w.heap.size ≤ g ∧ w'.heap[g]? = some (.cells (l.map (Value.int .u8)).toArray e (0, 0))

theorem Put_any (A : Option Addr) (n c B : Nat) (l : List Int) (x s : Int) (w : World) (hr : RB w B A n l) (hB : B ≤ w.heap.size) (hc : n ≤ c) (hm : n ≤ 140737488355000) (hxl : -9223372036854775808 ≤ x) (hxh : x ≤ 9223372036854775807) :
    Calls Tryz.prog 136 #[.slice A n c, .int .i64 x, .int .i64 s] w fun e w' => ∃ v, e = .returned v ∧ Fresh w w' 5 v (putR l x s) ∧ Below w.heap.size w w' := by
  unfold putR
  by_cases h : rightB x s = true
  · rw [if_pos h]
    have hc4 := right_size h
    obtain ⟨k, rfl⟩ := Int.eq_ofNat_of_zero_le (show 0 ≤ s by omega)
    refine (Put_yes A n c B l x k w hr hB hc hm h (by omega) hxl hxh).mono ?_
    rintro e w' ⟨g, rfl, h1, h2, h3⟩
    refine ⟨_, rfl, ⟨g, ?_, h1, h2⟩, h3⟩
    simp [putB_length, hr.len]
  · rw [if_neg h]
    refine (Put_no A n c B l x s w hr hB hc hm (by simpa using h)).mono ?_
    rintro e w' ⟨g, rfl, h1, h2, h3⟩
    exact ⟨_, rfl, ⟨g, by rw [hr.len], h1, h2⟩, h3⟩

theorem Fresh.own {w w' : World} {e : TypeId} {v : Value} {l : List Int} (h : Fresh w w' e v l) (hm : l.length ≤ maxLen) : w'.ownsRow w.heap.size e 1 v l.length (l.map (Value.int .u8)) := by
  obtain ⟨g, rfl, hb, hg⟩ := h
  exact ⟨by simp, .inr ⟨g, l.length, _, rfl, hb, hg, Nat.le_refl _, hm, by simp, by rw [Nat.mul_one]; exact List.take_of_length_le (by simp)⟩⟩

theorem putR_length (l : List Int) (x s : Int) : (putR l x s).length ≤ l.length + 8 := by
  unfold putR
  by_cases h : rightB x s = true
  · rw [if_pos h, List.length_append, putB_length]
    have := right_size h
    omega
  · rw [if_neg h]; omega

/-- num.Put answers a row of its own. -/
theorem Put_own (A : Option Addr) (n c B : Nat) (l : List Int) (x s : Int) (w : World) (hr : RB w B A n l) (hB : B ≤ w.heap.size) (hc : n ≤ c) (hm : n ≤ 140737488355000) (hxl : -9223372036854775808 ≤ x) (hxh : x ≤ 9223372036854775807) :
    Calls Tryz.prog 136 #[.slice A n c, .int .i64 x, .int .i64 s] w fun e w' => ∃ v, e = .returned v ∧ w'.ownsRow w.heap.size 5 1 v (putR l x s).length ((putR l x s).map (Value.int .u8)) ∧ Below w.heap.size w w' := by
  refine (Put_any A n c B l x s w hr hB hc hm hxl hxh).mono ?_
  rintro e w' ⟨v, rfl, hf, hb⟩
  have := putR_length l x s
  have := hr.len
  exact ⟨v, rfl, hf.own (by unfold maxLen; omega), hb⟩

end Go.Proofs.YtlcbmobdokicaaaGreat

/-
  Plain: a number that Put put is what Get gets. Condition: the number is an int.
-/
namespace Go.Proofs.YtlcbmobdokicaaaGreat
open Go.RowKit
set_option maxRecDepth 100000
set_option linter.unusedVariables false

theorem wrap_putB {x s : Int} (h : rightB x s = true) (hxl : -9223372036854775808 ≤ x) (hxh : x ≤ 9223372036854775807) : numOf (putB x s.toNat) = x := by
  rw [numOf_eq _ (putB_bytes _ _), beOf_putB]
  rcases right_size h with rfl | rfl | rfl | rfl
  · have hb : 0 ≤ x ∧ x < 256 := by simpa [rightB] using h
    rw [show (256 : Int) ^ (1 : Int).toNat = 256 from rfl]
    unfold wrap64; omega
  · have hb : 0 ≤ x ∧ x < 65536 := by simpa [rightB] using h
    rw [show (256 : Int) ^ (2 : Int).toNat = 65536 from rfl]
    unfold wrap64; omega
  · have hb : 0 ≤ x ∧ x < 4294967296 := by simpa [rightB] using h
    rw [show (256 : Int) ^ (4 : Int).toNat = 4294967296 from rfl]
    unfold wrap64; omega
  · rw [show (256 : Int) ^ (8 : Int).toNat = 18446744073709551616 from rfl]
    unfold wrap64; omega

theorem get_put {l : List Int} {x s : Int} (h : rightB x s = true) (hxl : -9223372036854775808 ≤ x) (hxh : x ≤ 9223372036854775807) : getR (putR l x s) (l.length : Int) s = (x, 0) := by
  have hs : sizeB s = true := by
    rcases right_size h with rfl | rfl | rfl | rfl <;> decide
  obtain ⟨k, rfl⟩ := Int.eq_ofNat_of_zero_le (show 0 ≤ s by rcases right_size h with h | h | h | h <;> omega)
  have hn := wrap_putB h hxl hxh
  unfold getR putR
  rw [if_pos h, if_pos ⟨hs, by omega⟩, if_neg (by simp [putB_length])]
  simp only [Int.toNat_natCast] at hn ⊢
  rw [List.drop_left, List.take_of_length_le (by rw [putB_length]; exact Nat.le_refl _), hn]

end Go.Proofs.YtlcbmobdokicaaaGreat

/-
  Contract of the plain Put: for any slice of bytes, any number and any size the answer is a new slice of these bytes, behind them the number's bytes, or nothing more where the number does not fit. Condition: fewer than 2^47 - 8 bytes.
-/
namespace Go.Proofs.YtlcbmobdokicaaaGreat
open Go.RowKit
set_option maxRecDepth 100000
set_option linter.unusedVariables false

theorem refFill_start {w : World} {base e n k : Nat} {v : Value} {l : List Int} {x : Int} (h : w.ownsRow base e 1 v n (l.map (Value.int .u8))) : w.ownsRow base e 1 v (n + 0) ((l ++ putB (shN x (k - 0)) 0).map (Value.int .u8)) := by
  simpa [putB] using h

theorem shN_eq (x : Int) (m : Nat) : shN x m = x / 2 ^ (8 * m) := by
  induction m with
  | zero => simp [shN]
  | succ m ih =>
    rw [shN, ih, Int.ediv_ediv_of_nonneg (Int.le_of_lt (Int.pow_pos (by decide)))]
    congr 1
    rw [show 8 * (m + 1) = 8 * m + 8 from by omega, Int.pow_add]
    rfl
theorem refFill_step {w : World} {base e n k j m : Nat} {v : Value} {l : List Int} {x : Int} (hk : m + j + 1 = k) (h : w.ownsRow base e 1 v (n + j + 1) ((l ++ putB (shN x (k - j)) j ++ [x / 2 ^ (8 * m) % 256]).map (Value.int .u8))) :
    w.ownsRow base e 1 v (n + (j + 1)) ((l ++ putB (shN x (k - (j + 1))) (j + 1)).map (Value.int .u8)) := by
  subst hk
  have e1 : m + j + 1 - j = m + 1 := by omega
  have e2 : m + j + 1 - (j + 1) = m := by omega
  rw [e1] at h
  rw [e2]
  rw [← shN_eq] at h
  rw [putB, ← List.append_assoc]
  exact h

set_option maxHeartbeats 800000 in
theorem refPut_yes (A : Option Addr) (n c B : Nat) (l : List Int) (x : Int) (k : Nat) (w : World) (hr : RB w B A n l) (hB : B ≤ w.heap.size) (hm : n ≤ 140737488355000) (hs : rightB x (k : Int) = true) (hk1 : 1 ≤ k) (hk8 : k ≤ 8) (hxl : -9223372036854775808 ≤ x) (hxh : x ≤ 9223372036854775807) :
    Calls Tryz.prog 138 #[.slice A n c, .int .i64 x, .int .i64 (k : Int)] w fun e w' => ∃ v, e = .returned v ∧ w'.ownsRow w.heap.size 5 1 v (n + k) ((l ++ putB x k).map (Value.int .u8)) ∧ Below w.heap.size w w' := by
  have HS := Lib.hid hs
  clear hs
  go_enter Tryz.func138, Tryz.ntmps138
  go_wp2_with (first
    | (go_at_call 163; refine (refRight_yes _ _ _ HS.out).mono ?_; rintro e w' ⟨rfl, rfl⟩)
    | (at_builtin; refine wpList_append_bytes rfl _ (.tmp 9) rfl w.heap.size _ 0 [] rfl (World.ownsRow_nil _ _ _ _) B A n c l rfl hr (by omega) (Nat.le_refl _) ?_; intro v1 w1 hown1 _ hb1))
  simp only [Nat.zero_add, List.nil_append] at hown1
  have hown := Lib.hid (refFill_start (x := x) (k := k) hown1)
  clear hown1
  go_loopw [7, 8] (fun v i wr => ∃ (j : Nat) (z : Int), j ≤ k ∧ z + j + 1 ≤ k ∧ (k : Int) ≤ z + j + 1 ∧ i = .int .i64 z ∧ Hid (wr.ownsRow w.heap.size 5 1 v (n + j) ((l ++ putB (shN x (k - j)) j).map (Value.int .u8))) ∧ Below w.heap.size w wr)
    (fun _ i _ => (intOf i + 1).toNat)
  case atStart => exact ⟨0, _, Nat.zero_le _, by omega, by omega, rfl, hown, hb1⟩
  case round =>
    obtain ⟨j, z, hj, hz1, hz2, rfl, hownj, hbj⟩ := hrel
    clear hown
    by_cases hlt : j < k
    · obtain ⟨m, rfl⟩ := Int.eq_ofNat_of_zero_le (show 0 ≤ z by omega)
      have hm7 : m ≤ 7 := by omega
      go_wp2_with (at_builtin; refine wpList_append_bytes rfl (.tmp 22) (.tmp 28) rfl w.heap.size _ (n + j) _ rfl (hownj.out.alloc _) (wr.heap.size + 1) (some ⟨wr.heap.size, 0, none⟩) 1 1 [_] rfl (RB.one wr 5 (by omega)) (by omega) (by have := hbj.size; simp; omega) ?_; intro v2 w2 hown2 _ hb2)
      have hstep := Lib.hid (refFill_step (j := j) (m := m) (k := k) (by omega) hown2)
      clear hown2 hownj
      go_roundw
      case rel => exact ⟨j + 1, _, by omega, by omega, by omega, rfl, hstep, (hbj.alloc hbj.size _).trans hb2⟩
      case measure => simp [intOf]
    · have hjk : j = k := by omega
      subst hjk
      have hzn : z < 0 := by omega
      go_wp2
      go_ret
      exact ⟨_, rfl, by simpa [shN] using hownj.out, hbj⟩

set_option maxHeartbeats 800000 in
theorem refPut_no (A : Option Addr) (n c B : Nat) (l : List Int) (x s : Int) (w : World) (hr : RB w B A n l) (hm : n ≤ 140737488355000) (hs : rightB x s = false) :
    Calls Tryz.prog 138 #[.slice A n c, .int .i64 x, .int .i64 s] w fun e w' => ∃ v, e = .returned v ∧ w'.ownsRow w.heap.size 5 1 v n (l.map (Value.int .u8)) ∧ Below w.heap.size w w' := by
  have HS := Lib.hid hs
  clear hs
  go_enter Tryz.func138, Tryz.ntmps138
  go_wp2_with (first
    | (go_at_call 163; refine (refRight_no _ _ _ HS.out).mono ?_; rintro e w' ⟨rfl, rfl⟩)
    | (at_builtin; refine wpList_append_bytes rfl _ (.tmp 9) rfl w.heap.size _ 0 [] rfl (World.ownsRow_nil _ _ _ _) B A n c l rfl hr (by omega) (Nat.le_refl _) ?_; intro v1 w1 hown1 _ hb1))
  simp only [Nat.zero_add, List.nil_append] at hown1
  go_ret
  exact ⟨_, rfl, hown1, hb1⟩

theorem putR_bytes {l : List Int} (h : AllBytes l) (x s : Int) : AllBytes (putR l x s) := by
  unfold putR
  split
  · exact h.append (putB_bytes _ _)
  · exact h

/-- The plain Put answers a row of its own. -/
theorem refPut_own (A : Option Addr) (n c B : Nat) (l : List Int) (x s : Int) (w : World) (hr : RB w B A n l) (hB : B ≤ w.heap.size) (hm : n ≤ 140737488355000) (hxl : -9223372036854775808 ≤ x) (hxh : x ≤ 9223372036854775807) :
    Calls Tryz.prog 138 #[.slice A n c, .int .i64 x, .int .i64 s] w fun e w' => ∃ v, e = .returned v ∧ w'.ownsRow w.heap.size 5 1 v (putR l x s).length ((putR l x s).map (Value.int .u8)) ∧ Below w.heap.size w w' := by
  unfold putR
  by_cases h : rightB x s = true
  · rw [if_pos h]
    have hc4 := right_size h
    obtain ⟨k, rfl⟩ := Int.eq_ofNat_of_zero_le (show 0 ≤ s by omega)
    refine (refPut_yes A n c B l x k w hr hB hm h (by omega) (by omega) hxl hxh).mono ?_
    rintro e w' ⟨v, rfl, h1, h2⟩
    refine ⟨v, rfl, ?_, h2⟩
    rw [List.length_append, putB_length, hr.len]
    exact h1
  · rw [if_neg h]
    refine (refPut_no A n c B l x s w hr hm (by simpa using h)).mono ?_
    rintro e w' ⟨v, rfl, h1, h2⟩
    refine ⟨v, rfl, ?_, h2⟩
    rw [hr.len]
    exact h1

theorem refPut_any (A : Option Addr) (n c B : Nat) (l : List Int) (x s : Int) (w : World) (hr : RB w B A n l) (hB : B ≤ w.heap.size) (hm : n ≤ 140737488355000) (hxl : -9223372036854775808 ≤ x) (hxh : x ≤ 9223372036854775807) :
    Calls Tryz.prog 138 #[.slice A n c, .int .i64 x, .int .i64 s] w fun e w' => ∃ A' n' c', e = .returned (.slice A' n' c') ∧ n' ≤ c' ∧ RB w' w'.heap.size A' n' (putR l x s) ∧ Below w.heap.size w w' := by
  unfold putR
  by_cases h : rightB x s = true
  · rw [if_pos h]
    have hc4 := right_size h
    obtain ⟨k, rfl⟩ := Int.eq_ofNat_of_zero_le (show 0 ≤ s by omega)
    refine (refPut_yes A n c B l x k w hr hB hm h (by omega) (by omega) hxl hxh).mono ?_
    rintro e w' ⟨v, rfl, h1, h2⟩
    obtain ⟨A', c', rfl, hc', hr'⟩ := read_own h1 (hr.bytes.append (putB_bytes _ _))
    exact ⟨A', _, c', rfl, hc', hr', h2⟩
  · rw [if_neg h]
    refine (refPut_no A n c B l x s w hr hm (by simpa using h)).mono ?_
    rintro e w' ⟨v, rfl, h1, h2⟩
    obtain ⟨A', c', rfl, hc', hr'⟩ := read_own h1 hr.bytes
    exact ⟨A', _, c', rfl, hc', hr', h2⟩

theorem Fresh.read {w w' : World} {e : TypeId} {v : Value} {l : List Int} (h : Fresh w w' e v l) (hl : AllBytes l) : ∃ A, v = .slice A l.length l.length ∧ RB w' w'.heap.size A l.length l := by
  obtain ⟨g, rfl, _, hg⟩ := h
  refine ⟨_, rfl, rfl, hl, fun hn => ⟨g, 0, rfl, ?_, fun j hj => ?_⟩⟩
  · rcases Nat.lt_or_ge g w'.heap.size with h' | h'
    · exact h'
    · rw [Array.getElem?_eq_none h'] at hg; cases hg
  · rw [Nat.zero_add, cell_of_row w' g j _ e (0, 0) hg]
    simp [List.getElem?_eq_getElem hj]

end Go.Proofs.YtlcbmobdokicaaaGreat
