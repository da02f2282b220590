/-
  Contracts of num.Put and of the plain Put: for any slice of bytes, any number and any size the answer is a new slice of these bytes, behind them the number's bytes, or nothing more where the number does not fit; nothing that was there is written. Condition: fewer than 2^47 - 8 bytes.
-/
import Derived.Test.YtombdkebjbhacaaApp
import Derived.Test.YtombdkebjbhacaaNumA
import Derived.Test.YtombdkebjbhacaaNumP
import Derived.Laws.CopyOwn
import Derived.OwnWalk
namespace Go.Proofs.Ytombdkebjbhacaa
open Go.RowKit
set_option maxRecDepth 100000
set_option linter.unusedVariables false


theorem made_block {w : World} {base e g n : Nat} {xs : List Value} (h : w.ownsRow base e 1 (.slice (some ⟨g, 0, none⟩) n n) n xs) : w.heap[g]? = some (.cells xs.toArray e (0, 0)) := by
  rcases h.2 with ⟨h', _⟩ | ⟨g', cap', cur, h', _, hg, _, _, hcs, htake⟩
  · simp at h'
  · simp only [Value.slice.injEq, Option.some.injEq, Addr.mk.injEq, and_true, true_and] at h'
    obtain ⟨rfl, rfl⟩ := h'
    rw [← htake, List.take_of_length_le (by simp; omega)]
    simpa using hg

theorem made_u8 {w : World} {base e g n : Nat} (h : w.ownsRow base e 1 (.slice (some ⟨g, 0, none⟩) n n) n (madeCells (Value.int .u8 0).cells (n * 1)).toList) : w.heap[g]? = some (.cells (List.replicate n (Value.int .u8 0)).toArray e (0, 0)) := by
  have := made_block h
  rw [show (Value.int .u8 0).cells = #[Value.int .u8 0] from rfl, toList_madeCells_one, Nat.mul_one] at this
  exact this

theorem copy_src {w : World} {B n : Nat} {A : Option Addr} {l : List Int} (h : RB w B A n l) (hp : 0 < (l.map (Value.int .u8)).length) : ∃ ad, A = some ad ∧ ∀ j v, (l.map (Value.int .u8))[j]? = some v → w.cell? (ad.add j) = some v := by
  obtain ⟨ad, rfl, _⟩ := h.src 0 _ (List.getElem?_eq_getElem hp)
  refine ⟨ad, rfl, fun j v hv => ?_⟩
  obtain ⟨ad', e, hc⟩ := h.src j v hv
  cases e
  exact hc

/-- The block while it is filled: j of k bytes stand already, the last ones. -/
def fill (l : List Int) (x : Int) (k j : Nat) (e : TypeId) : Obj := .cells ((l ++ (List.replicate (k - j) 0 ++ putB x j)).map (Value.int .u8)).toArray e (0, 0)

theorem fill_start {w : World} {g n k : Nat} {e : TypeId} {l : List Int} {x : Int} (hl : l.length = n) (h : w.heap[g]? = some (.cells (splice (List.replicate (n + k) (Value.int .u8 0)) 0 (l.map (Value.int .u8))).toArray e (0, 0))) : w.heap[g]? = some (fill l x k 0 e) := by
  rw [h]
  subst hl
  simp [fill, splice, putB, List.drop_replicate]
theorem fill_frozen {w : World} {g : Nat} {e : TypeId} {l : List Int} {x : Int} {k j m : Nat} (h : w.heap[g]? = some (fill l x k j e)) : w.frozen? ⟨g, m, none⟩ = false := by
  unfold fill at h
  simp [World.frozen?, h]
theorem fill_length (l : List Int) (x : Int) {k j : Nat} (hj : j ≤ k) : (l ++ (List.replicate (k - j) 0 ++ putB x j)).length = l.length + k := by
  simp [putB_length]; omega
theorem fill_cell {w : World} {g n : Nat} {e : TypeId} {l : List Int} {x : Int} {k j : Nat} (hl : l.length = n) (h : w.heap[g]? = some (fill l x k j e)) (m : Nat) (hm : m < n + k ∧ j ≤ k) : ∃ u, w.cell? ⟨g, m, none⟩ = some u := by
  unfold fill at h
  rw [cell_of_row w g m _ e (0, 0) h]
  have := fill_length l x hm.2
  exact ⟨_, Array.getElem?_eq_getElem (by simp only [List.size_toArray, List.length_map]; omega)⟩

theorem fill_step {w : World} {g n : Nat} {e : TypeId} {l : List Int} {x : Int} {k j m : Nat} (hl : l.length = n) (h : w.heap[g]? = some (fill l x k j e)) (hj : j < k) (hm : m + j + 1 = n + k) :
    (w.setCell ⟨g, m, none⟩ (.int .u8 (shN x j % 256))).heap[g]? = some (fill l x k (j + 1) e) := by
  unfold fill at h ⊢
  rw [heap_setCell_same w g m _ e _ h]
  subst hl
  obtain ⟨d, rfl⟩ : ∃ d, k = j + 1 + d := ⟨k - (j + 1), by omega⟩
  have e1 : j + 1 + d - j = d + 1 := by omega
  have e2 : j + 1 + d - (j + 1) = d := by omega
  obtain rfl : m = l.length + d := by omega
  rw [e1, e2, putB_front]
  congr 2
  rw [← Array.toList_inj]
  simp only [Array.toList_setIfInBounds, List.map_append, List.map_cons, List.map_replicate]
  rw [List.replicate_succ', List.append_assoc, List.set_append_right _ _ (by simp), List.set_append_right _ _ (by simp)]
  simp
theorem fill_end {w : World} {g : Nat} {e : TypeId} {l : List Int} {x : Int} {k : Nat} (h : w.heap[g]? = some (fill l x k k e)) : w.heap[g]? = some (.cells ((l ++ putB x k).map (Value.int .u8)).toArray e (0, 0)) := by
  rw [h]; simp [fill]

set_option maxHeartbeats 800000 in
theorem Put_yes (A : Option Addr) (n c B : Nat) (l : List Int) (x : Int) (k : Nat) (w : World) (hr : RB w B A n l) (hB : B ≤ w.heap.size) (hc : n ≤ c) (hm : n ≤ 140737488355000) (hs : rightB x (k : Int) = true) (hk8 : k ≤ 8) (hxl : -9223372036854775808 ≤ x) (hxh : x ≤ 9223372036854775807) :
    Calls Try.prog 31 #[.slice A n c, .int .i64 x, .int .i64 (k : Int)] w fun e w' => ∃ g, e = .returned (.slice (some ⟨g, 0, none⟩) (n + k) (n + k)) ∧ w.heap.size ≤ g ∧ w'.heap[g]? = some (.cells ((l ++ putB x k).map (Value.int .u8)).toArray 5 (0, 0)) ∧ Below w.heap.size w w' := by
  obtain ⟨i0, hi, hz0, hz1, hz2⟩ := info_parts info_u8
  have HS := Lib.hid hs
  clear hs
  go_enter Try.func31, Try.ntmps31
  go_wp2_with (first
    | (go_at_call 30; refine (Right_yes _ _ _ HS.out).mono ?_; rintro e w' ⟨rfl, rfl⟩)
    | (refine wpList_make_full w rfl _ _ 28 rfl w.heap.size 5 i0 (.int .u8 0) 1 Try.underlying28 hi hz0 hz1 .i64 .i64 _ _ (n + k) rfl rfl (by simp) (by simp) (by rw [hz2]; omega) (by unfold maxLen; omega) (Nat.le_refl _) ?_; intro w1 hown1 hg1; have hb1 : Below w.heap.size w w1 := (Below.refl _ _).grown hg1 (Nat.le_refl _) (by simp); have hblk1 := Lib.hid (made_u8 hown1); clear hown1 hg1)
    | (with_reducible refine wpList_copy_splice rfl (.tmp 18) (.tmp 19) 28 28 rfl 5 Try.underlying28 size_u8 _ _ _ _ _ _ rfl rfl w.heap.size 0 (List.replicate (n + k) (Value.int .u8 0)) 5 hblk1.out (l.map (Value.int .u8)) (by rw [List.length_map, hr.len]; exact (Nat.min_eq_left (by omega)).symm) (fun hp => ⟨rfl, copy_src (hr.below (hb1.mono hB)) hp⟩) (by rw [List.length_map, List.length_replicate, hr.len]; omega) (oneCell_bytes l) w.heap.size w hb1 (Nat.le_refl _) ?_; intro w2 hblk2 hb2))
  have hblk := Lib.hid (fill_start (x := x) hr.len hblk2.out)
  clear hblk2 hblk1 hb1
  go_loopw [1, 8] (fun xn i wr => ∃ (j : Nat) (z : Int), j ≤ k ∧ z + j + 1 ≤ n + k ∧ (n : Int) + k ≤ z + j + 1 ∧ i = .int .i64 z ∧ xn = .int .i64 (shN x j) ∧ Hid (wr.heap[w.heap.size]? = some (fill l x k j 5)) ∧ Below w.heap.size w wr)
    (fun _ i _ => (intOf i + 1 - (n : Int)).toNat)
  case atStart => exact ⟨0, _, Nat.zero_le _, by omega, by omega, rfl, rfl, hblk, hb2⟩
  case round =>
    obtain ⟨j, z, hj, hz1, hz2, rfl, rfl, hblkj, hbj⟩ := hrel
    clear hblk
    by_cases hlt : j < k
    · obtain ⟨m, rfl⟩ := Int.eq_ofNat_of_zero_le (show 0 ≤ z by omega)
      have hfz : wr.frozen? ⟨w.heap.size, m, none⟩ = false := fill_frozen hblkj.out
      obtain ⟨u, hu⟩ := fill_cell hr.len hblkj.out m ⟨by omega, by omega⟩
      obtain ⟨hx0, hx1⟩ := shN_bounds x hxl hxh j
      have hnm : n ≤ m := by omega
      have hmk : m < n + k := by omega
      go_wp2
      have hstep := Lib.hid (fill_step hr.len hblkj.out hlt (m := m) (by omega))
      clear hu hfz hblkj
      go_roundw
      case rel => exact ⟨j + 1, _, by omega, by omega, by omega, rfl, rfl, hstep, hbj.setCell (Nat.le_refl _) _⟩
      case measure => simp [intOf]; omega
    · have hjk : j = k := by omega
      subst hjk
      have hend := Lib.hid (fill_end hblkj.out)
      have hzn : z < n := by omega
      clear hblkj
      go_wp2
      go_ret
      exact ⟨_, rfl, Nat.le_refl _, hend.out, hbj⟩

theorem fill_start0 {w : World} {g n : Nat} {e : TypeId} {l : List Int} (hl : l.length = n) (h : w.heap[g]? = some (.cells (splice (List.replicate n (Value.int .u8 0)) 0 (l.map (Value.int .u8))).toArray e (0, 0))) : w.heap[g]? = some (.cells (l.map (Value.int .u8)).toArray e (0, 0)) := by
  rw [h]
  subst hl
  simp [splice]

set_option maxHeartbeats 800000 in
theorem Put_no (A : Option Addr) (n c B : Nat) (l : List Int) (x s : Int) (w : World) (hr : RB w B A n l) (hB : B ≤ w.heap.size) (hc : n ≤ c) (hm : n ≤ 140737488355000) (hs : rightB x s = false) :
    Calls Try.prog 31 #[.slice A n c, .int .i64 x, .int .i64 s] w fun e w' => ∃ g, e = .returned (.slice (some ⟨g, 0, none⟩) n n) ∧ w.heap.size ≤ g ∧ w'.heap[g]? = some (.cells (l.map (Value.int .u8)).toArray 5 (0, 0)) ∧ Below w.heap.size w w' := by
  obtain ⟨i0, hi, hz0, hz1, hz2⟩ := info_parts info_u8
  have HS := Lib.hid hs
  clear hs
  go_enter Try.func31, Try.ntmps31
  go_wp2_with (first
    | (go_at_call 30; refine (Right_no _ _ _ HS.out).mono ?_; rintro e w' ⟨rfl, rfl⟩)
    | (refine wpList_make_full w rfl _ _ 28 rfl w.heap.size 5 i0 (.int .u8 0) 1 Try.underlying28 hi hz0 hz1 .i64 .i64 _ _ n rfl rfl (by simp) (by simp) (by rw [hz2]; omega) (by unfold maxLen; omega) (Nat.le_refl _) ?_; intro w1 hown1 hg1; have hb1 : Below w.heap.size w w1 := (Below.refl _ _).grown hg1 (Nat.le_refl _) (by simp); have hblk1 := Lib.hid (made_u8 hown1); clear hown1 hg1)
    | (with_reducible refine wpList_copy_splice rfl (.tmp 18) (.tmp 19) 28 28 rfl 5 Try.underlying28 size_u8 _ _ _ _ _ _ rfl rfl w.heap.size 0 (List.replicate n (Value.int .u8 0)) 5 hblk1.out (l.map (Value.int .u8)) (by rw [List.length_map, hr.len]; exact (Nat.min_eq_left (by omega)).symm) (fun hp => ⟨rfl, copy_src (hr.below (hb1.mono hB)) hp⟩) (by rw [List.length_map, List.length_replicate, hr.len]; omega) (oneCell_bytes l) w.heap.size w hb1 (Nat.le_refl _) ?_; intro w2 hblk2 hb2))
  have hblk := Lib.hid (fill_start0 hr.len hblk2.out)
  clear hblk2 hblk1 hb1
  refine wp_loop_rounds 1 ?_
  rw [rounds_succ]
  go_wp2
  go_ret
  exact ⟨_, rfl, Nat.le_refl _, hblk.out, hb2⟩

/-- What Put answers. -/
def putR (l : List Int) (x s : Int) : List Int := if rightB x s = true then l ++ putB x s.toNat else l

theorem right_size {x s : Int} (h : rightB x s = true) : s = 1 ∨ s = 2 ∨ s = 4 ∨ s = 8 := by
  by_cases hs : sizeB s = true
  · exact size_cases hs
  · rw [rightB_none (by simpa using hs)] at h; cases h

/-- A new slice that is just these bytes. -/
def Fresh (w w' : World) (e : TypeId) (v : Value) (l : List Int) : Prop := ∃ g, v = .slice (some ⟨g, 0, none⟩) l.length l.length ∧ w.heap.size ≤ g ∧ w'.heap[g]? = some (.cells (l.map (Value.int .u8)).toArray e (0, 0))

theorem Put_any (A : Option Addr) (n c B : Nat) (l : List Int) (x s : Int) (w : World) (hr : RB w B A n l) (hB : B ≤ w.heap.size) (hc : n ≤ c) (hm : n ≤ 140737488355000) (hxl : -9223372036854775808 ≤ x) (hxh : x ≤ 9223372036854775807) :
    Calls Try.prog 31 #[.slice A n c, .int .i64 x, .int .i64 s] w fun e w' => ∃ v, e = .returned v ∧ Fresh w w' 5 v (putR l x s) ∧ Below w.heap.size w w' := by
  unfold putR
  by_cases h : rightB x s = true
  · rw [if_pos h]
    have hc4 := right_size h
    obtain ⟨k, rfl⟩ := Int.eq_ofNat_of_zero_le (show 0 ≤ s by omega)
    refine (Put_yes A n c B l x k w hr hB hc hm h (by omega) hxl hxh).mono ?_
    rintro e w' ⟨g, rfl, h1, h2, h3⟩
    refine ⟨_, rfl, ⟨g, ?_, h1, h2⟩, h3⟩
    simp [putB_length, hr.len]
  · rw [if_neg h]
    refine (Put_no A n c B l x s w hr hB hc hm (by simpa using h)).mono ?_
    rintro e w' ⟨g, rfl, h1, h2, h3⟩
    exact ⟨_, rfl, ⟨g, by rw [hr.len], h1, h2⟩, h3⟩

theorem Fresh.own {w w' : World} {e : TypeId} {v : Value} {l : List Int} (h : Fresh w w' e v l) (hm : l.length ≤ maxLen) : w'.ownsRow w.heap.size e 1 v l.length (l.map (Value.int .u8)) := by
  obtain ⟨g, rfl, hb, hg⟩ := h
  exact ⟨by simp, .inr ⟨g, l.length, _, rfl, hb, hg, Nat.le_refl _, hm, by simp, by rw [Nat.mul_one]; exact List.take_of_length_le (by simp)⟩⟩

theorem putR_length (l : List Int) (x s : Int) : (putR l x s).length ≤ l.length + 8 := by
  unfold putR
  by_cases h : rightB x s = true
  · rw [if_pos h, List.length_append, putB_length]
    have := right_size h
    omega
  · rw [if_neg h]; omega

/-- num.Put answers a row of its own. -/
theorem Put_own (A : Option Addr) (n c B : Nat) (l : List Int) (x s : Int) (w : World) (hr : RB w B A n l) (hB : B ≤ w.heap.size) (hc : n ≤ c) (hm : n ≤ 140737488355000) (hxl : -9223372036854775808 ≤ x) (hxh : x ≤ 9223372036854775807) :
    Calls Try.prog 31 #[.slice A n c, .int .i64 x, .int .i64 s] w fun e w' => ∃ v, e = .returned v ∧ w'.ownsRow w.heap.size 5 1 v (putR l x s).length ((putR l x s).map (Value.int .u8)) ∧ Below w.heap.size w w' := by
  refine (Put_any A n c B l x s w hr hB hc hm hxl hxh).mono ?_
  rintro e w' ⟨v, rfl, hf, hb⟩
  have := putR_length l x s
  have := hr.len
  exact ⟨v, rfl, hf.own (by unfold maxLen; omega), hb⟩

end Go.Proofs.Ytombdkebjbhacaa
