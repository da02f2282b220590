/-
  Contract of the plain Put: for any slice of bytes, any number and any size the answer is a new slice of these bytes, behind them the number's bytes, or nothing more where the number does not fit. Condition: fewer than 2^47 - 8 bytes.
-/
import Derived.Test.YtombdkebjbhacaaPut
namespace Go.Proofs.Ytombdkebjbhacaa
open Go.RowKit
set_option maxRecDepth 100000
set_option linter.unusedVariables false

theorem refFill_start {w : World} {base e n k : Nat} {v : Value} {l : List Int} {x : Int} (h : w.ownsRow base e 1 v n (l.map (Value.int .u8))) : w.ownsRow base e 1 v (n + 0) ((l ++ putB (shN x (k - 0)) 0).map (Value.int .u8)) := by
  simpa [putB] using h

theorem shN_eq (x : Int) (m : Nat) : shN x m = x / 2 ^ (8 * m) := by
  induction m with
  | zero => simp [shN]
  | succ m ih =>
    rw [shN, ih, Int.ediv_ediv_of_nonneg (Int.le_of_lt (Int.pow_pos (by decide)))]
    congr 1
    rw [show 8 * (m + 1) = 8 * m + 8 from by omega, Int.pow_add]
    rfl
theorem refFill_step {w : World} {base e n k j m : Nat} {v : Value} {l : List Int} {x : Int} (hk : m + j + 1 = k) (h : w.ownsRow base e 1 v (n + j + 1) ((l ++ putB (shN x (k - j)) j ++ [x / 2 ^ (8 * m) % 256]).map (Value.int .u8))) :
    w.ownsRow base e 1 v (n + (j + 1)) ((l ++ putB (shN x (k - (j + 1))) (j + 1)).map (Value.int .u8)) := by
  subst hk
  have e1 : m + j + 1 - j = m + 1 := by omega
  have e2 : m + j + 1 - (j + 1) = m := by omega
  rw [e1] at h
  rw [e2]
  rw [← shN_eq] at h
  rw [putB, ← List.append_assoc]
  exact h

set_option maxHeartbeats 800000 in
theorem refPut_yes (A : Option Addr) (n c B : Nat) (l : List Int) (x : Int) (k : Nat) (w : World) (hr : RB w B A n l) (hB : B ≤ w.heap.size) (hm : n ≤ 140737488355000) (hs : rightB x (k : Int) = true) (hk1 : 1 ≤ k) (hk8 : k ≤ 8) (hxl : -9223372036854775808 ≤ x) (hxh : x ≤ 9223372036854775807) :
    Calls Try.prog 33 #[.slice A n c, .int .i64 x, .int .i64 (k : Int)] w fun e w' => ∃ v, e = .returned v ∧ w'.ownsRow w.heap.size 5 1 v (n + k) ((l ++ putB x k).map (Value.int .u8)) ∧ Below w.heap.size w w' := by
  have HS := Lib.hid hs
  clear hs
  go_enter Try.func33, Try.ntmps33
  go_wp2_with (first
    | (go_at_call 38; refine (refRight_yes _ _ _ HS.out).mono ?_; rintro e w' ⟨rfl, rfl⟩)
    | (at_builtin; refine wpList_append_bytes rfl _ (.tmp 9) rfl w.heap.size _ 0 [] rfl (World.ownsRow_nil _ _ _ _) B A n c l rfl hr (by omega) (Nat.le_refl _) ?_; intro v1 w1 hown1 _ hb1))
  simp only [Nat.zero_add, List.nil_append] at hown1
  have hown := Lib.hid (refFill_start (x := x) (k := k) hown1)
  clear hown1
  go_loopw [7, 8] (fun v i wr => ∃ (j : Nat) (z : Int), j ≤ k ∧ z + j + 1 ≤ k ∧ (k : Int) ≤ z + j + 1 ∧ i = .int .i64 z ∧ Hid (wr.ownsRow w.heap.size 5 1 v (n + j) ((l ++ putB (shN x (k - j)) j).map (Value.int .u8))) ∧ Below w.heap.size w wr)
    (fun _ i _ => (intOf i + 1).toNat)
  case atStart => exact ⟨0, _, Nat.zero_le _, by omega, by omega, rfl, hown, hb1⟩
  case round =>
    obtain ⟨j, z, hj, hz1, hz2, rfl, hownj, hbj⟩ := hrel
    clear hown
    by_cases hlt : j < k
    · obtain ⟨m, rfl⟩ := Int.eq_ofNat_of_zero_le (show 0 ≤ z by omega)
      have hm7 : m ≤ 7 := by omega
      go_wp2_with (at_builtin; refine wpList_append_bytes rfl (.tmp 22) (.tmp 28) rfl w.heap.size _ (n + j) _ rfl (hownj.out.alloc _) (wr.heap.size + 1) (some ⟨wr.heap.size, 0, none⟩) 1 1 [_] rfl (RB.one wr 5 (by omega)) (by omega) (by have := hbj.size; simp; omega) ?_; intro v2 w2 hown2 _ hb2)
      have hstep := Lib.hid (refFill_step (j := j) (m := m) (k := k) (by omega) hown2)
      clear hown2 hownj
      go_roundw
      case rel => exact ⟨j + 1, _, by omega, by omega, by omega, rfl, hstep, (hbj.alloc hbj.size _).trans hb2⟩
      case measure => simp [intOf]
    · have hjk : j = k := by omega
      subst hjk
      have hzn : z < 0 := by omega
      go_wp2
      go_ret
      exact ⟨_, rfl, by simpa [shN] using hownj.out, hbj⟩

set_option maxHeartbeats 800000 in
theorem refPut_no (A : Option Addr) (n c B : Nat) (l : List Int) (x s : Int) (w : World) (hr : RB w B A n l) (hm : n ≤ 140737488355000) (hs : rightB x s = false) :
    Calls Try.prog 33 #[.slice A n c, .int .i64 x, .int .i64 s] w fun e w' => ∃ v, e = .returned v ∧ w'.ownsRow w.heap.size 5 1 v n (l.map (Value.int .u8)) ∧ Below w.heap.size w w' := by
  have HS := Lib.hid hs
  clear hs
  go_enter Try.func33, Try.ntmps33
  go_wp2_with (first
    | (go_at_call 38; refine (refRight_no _ _ _ HS.out).mono ?_; rintro e w' ⟨rfl, rfl⟩)
    | (at_builtin; refine wpList_append_bytes rfl _ (.tmp 9) rfl w.heap.size _ 0 [] rfl (World.ownsRow_nil _ _ _ _) B A n c l rfl hr (by omega) (Nat.le_refl _) ?_; intro v1 w1 hown1 _ hb1))
  simp only [Nat.zero_add, List.nil_append] at hown1
  go_ret
  exact ⟨_, rfl, hown1, hb1⟩

theorem putR_bytes {l : List Int} (h : AllBytes l) (x s : Int) : AllBytes (putR l x s) := by
  unfold putR
  split
  · exact h.append (putB_bytes _ _)
  · exact h

/-- The plain Put answers a row of its own. -/
theorem refPut_own (A : Option Addr) (n c B : Nat) (l : List Int) (x s : Int) (w : World) (hr : RB w B A n l) (hB : B ≤ w.heap.size) (hm : n ≤ 140737488355000) (hxl : -9223372036854775808 ≤ x) (hxh : x ≤ 9223372036854775807) :
    Calls Try.prog 33 #[.slice A n c, .int .i64 x, .int .i64 s] w fun e w' => ∃ v, e = .returned v ∧ w'.ownsRow w.heap.size 5 1 v (putR l x s).length ((putR l x s).map (Value.int .u8)) ∧ Below w.heap.size w w' := by
  unfold putR
  by_cases h : rightB x s = true
  · rw [if_pos h]
    have hc4 := right_size h
    obtain ⟨k, rfl⟩ := Int.eq_ofNat_of_zero_le (show 0 ≤ s by omega)
    refine (refPut_yes A n c B l x k w hr hB hm h (by omega) (by omega) hxl hxh).mono ?_
    rintro e w' ⟨v, rfl, h1, h2⟩
    refine ⟨v, rfl, ?_, h2⟩
    rw [List.length_append, putB_length, hr.len]
    exact h1
  · rw [if_neg h]
    refine (refPut_no A n c B l x s w hr hm (by simpa using h)).mono ?_
    rintro e w' ⟨v, rfl, h1, h2⟩
    refine ⟨v, rfl, ?_, h2⟩
    rw [hr.len]
    exact h1

theorem refPut_any (A : Option Addr) (n c B : Nat) (l : List Int) (x s : Int) (w : World) (hr : RB w B A n l) (hB : B ≤ w.heap.size) (hm : n ≤ 140737488355000) (hxl : -9223372036854775808 ≤ x) (hxh : x ≤ 9223372036854775807) :
    Calls Try.prog 33 #[.slice A n c, .int .i64 x, .int .i64 s] w fun e w' => ∃ A' n' c', e = .returned (.slice A' n' c') ∧ n' ≤ c' ∧ RB w' w'.heap.size A' n' (putR l x s) ∧ Below w.heap.size w w' := by
  unfold putR
  by_cases h : rightB x s = true
  · rw [if_pos h]
    have hc4 := right_size h
    obtain ⟨k, rfl⟩ := Int.eq_ofNat_of_zero_le (show 0 ≤ s by omega)
    refine (refPut_yes A n c B l x k w hr hB hm h (by omega) (by omega) hxl hxh).mono ?_
    rintro e w' ⟨v, rfl, h1, h2⟩
    obtain ⟨A', c', rfl, hc', hr'⟩ := read_own h1 (hr.bytes.append (putB_bytes _ _))
    exact ⟨A', _, c', rfl, hc', hr', h2⟩
  · rw [if_neg h]
    refine (refPut_no A n c B l x s w hr hm (by simpa using h)).mono ?_
    rintro e w' ⟨v, rfl, h1, h2⟩
    obtain ⟨A', c', rfl, hc', hr'⟩ := read_own h1 hr.bytes
    exact ⟨A', _, c', rfl, hc', hr', h2⟩

theorem Fresh.read {w w' : World} {e : TypeId} {v : Value} {l : List Int} (h : Fresh w w' e v l) (hl : AllBytes l) : ∃ A, v = .slice A l.length l.length ∧ RB w' w'.heap.size A l.length l := by
  obtain ⟨g, rfl, _, hg⟩ := h
  refine ⟨_, rfl, rfl, hl, fun hn => ⟨g, 0, rfl, ?_, fun j hj => ?_⟩⟩
  · rcases Nat.lt_or_ge g w'.heap.size with h' | h'
    · exact h'
    · rw [Array.getElem?_eq_none h'] at hg; cases hg
  · rw [Nat.zero_add, cell_of_row w' g j _ e (0, 0) hg]
    simp [List.getElem?_eq_getElem hj]

end Go.Proofs.Ytombdkebjbhacaa
