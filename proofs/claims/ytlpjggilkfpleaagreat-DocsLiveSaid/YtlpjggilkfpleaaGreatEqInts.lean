/-
  The texts Idx, EqInts joined. Conditions: those that each part says at its head.
-/
import Derived.Test.YtlpjggilkfpleaaGreatIntApp
import Derived.BigQuiet

/-
  slices.Index and slices.Contains on ints by their contracts: the first place of a number, or -1; whether it is there. Nothing is written. No condition.
-/
namespace Go.Proofs.YtlpjggilkfpleaaGreat
open Go.RowKit
set_option maxRecDepth 100000
set_option linter.unusedVariables false

/-- The first place of a number, or -1. -/
def idxI (l : List Int) (v : Int) : Int := match l.findIdx? (· == v) with | some i => (i : Int) | none => -1

theorem idxI_hit {l : List Int} {v : Int} {k : Nat} (hk : k < l.length) (hbefore : ∀ j, j < k → l[j]?.getD 0 ≠ v) (h : l[k]?.getD 0 = v) : idxI l v = k := by
  have e : l.findIdx? (· == v) = some k := by
    rw [List.findIdx?_eq_some_iff_getElem]
    refine ⟨hk, by simpa [List.getElem?_eq_getElem hk] using h, fun j hj => ?_⟩
    have := hbefore j hj
    simpa [List.getElem?_eq_getElem (show j < l.length by omega)] using this
  unfold idxI
  rw [e]
theorem idxI_miss {l : List Int} {v : Int} (h : ∀ j, j < l.length → l[j]?.getD 0 ≠ v) : idxI l v = -1 := by
  have e : l.findIdx? (· == v) = none := by
    rw [List.findIdx?_eq_none_iff]
    intro x hx
    obtain ⟨j, hj, rfl⟩ := List.getElem_of_mem hx
    have := h j hj
    simpa [List.getElem?_eq_getElem hj] using this
  unfold idxI
  rw [e]

theorem idxI_mem (l : List Int) (v : Int) : (0 ≤ idxI l v ↔ v ∈ l) := by
  unfold idxI
  cases h : l.findIdx? (· == v) with
  | none =>
    rw [List.findIdx?_eq_none_iff] at h
    constructor
    · intro h0; simp at h0
    · intro hm; exact absurd (h v hm) (by simp)
  | some i =>
    rw [List.findIdx?_eq_some_iff_getElem] at h
    obtain ⟨hi, hv, _⟩ := h
    constructor
    · intro _
      have : l[i] = v := by simpa using hv
      rw [← this]; exact List.getElem_mem hi
    · intro _; simp

set_option maxHeartbeats 400000 in
theorem Index_any {w : World} {B n : Nat} {A : Option Addr} {l : List Int} (c : Nat) (v : Int) (hr : RI w B A n l) (hm : n ≤ maxLen) :
    Calls Tryz.prog 73 #[.slice A n c, .int .i64 v] w fun e w' => e = .returned (.int .i64 (idxI l v)) ∧ w = w' := by
  unfold maxLen at hm
  have hlen := hr.len
  go_enter Tryz.func73, Tryz.ntmps73
  go_wp2
  go_loop [8] (fun i => ∃ k : Nat, k ≤ n ∧ i = .int .i64 k ∧ Hid (∀ j, j < k → l[j]?.getD 0 ≠ v)) (fun i => n - (intOf i).toNat)
  case atStart => exact ⟨0, Nat.zero_le _, rfl, Lib.hid (fun j hj => absurd hj (by omega))⟩
  case round =>
    obtain ⟨k, hk, rfl, hbef⟩ := hrel
    by_cases hlt : k < n
    · obtain ⟨b, off, rfl, hb, hcell⟩ := hr.2.2 (by omega)
      have hck := hcell k hlt
      clear hcell
      by_cases hv : l[k]?.getD 0 = v
      · have hi := Lib.hid (idxI_hit (show k < l.length by omega) hbef.out hv)
        have kv : (v == l[k]?.getD 0) = true := by simp [hv]
        clear hv
        generalize l[k]?.getD 0 = u at hck kv
        go_wp2
        go_ret
        rw [hi.out]
        exact ⟨rfl, rfl⟩
      · have kv : (v == l[k]?.getD 0) = false := by simpa using fun h => hv h.symm
        have hn := Lib.hid (fun j (hj : j < k + 1) => show l[j]?.getD 0 ≠ v by
          rcases Nat.lt_or_ge j k with h | h
          · exact hbef.out j h
          · obtain rfl : j = k := by omega
            exact hv)
        clear hv
        generalize l[k]?.getD 0 = u at hck kv
        go_wp2
        go_round
        case rel => exact ⟨k + 1, by omega, by go_num, hn⟩
        case measure => simp [intOf]; omega
    · obtain rfl : k = n := by omega
      have hi := Lib.hid (idxI_miss (l := l) (v := v) (fun j hj => hbef.out j (by omega)))
      go_wp2
      go_ret
      rw [hi.out]
      exact ⟨rfl, rfl⟩

set_option maxHeartbeats 400000 in
theorem Contains_any {w : World} {B n : Nat} {A : Option Addr} {l : List Int} (c : Nat) (v : Int) (hr : RI w B A n l) (hm : n ≤ maxLen) :
    Calls Tryz.prog 36 #[.slice A n c, .int .i64 v] w fun e w' => e = .returned (.bool (decide (v ∈ l))) ∧ w = w' := by
  have hd : decide (v ∈ l) = decide (0 ≤ idxI l v) := by rw [decide_eq_decide]; exact (idxI_mem l v).symm
  rw [hd]
  clear hd
  go_enter Tryz.func36, Tryz.ntmps36
  go_wp2_with fail
  refine (Index_any c v hr hm).mono ?_
  rintro e w1 ⟨rfl, rfl⟩
  go_wp2
  go_ret
  exact ⟨rfl, rfl⟩

end Go.Proofs.YtlpjggilkfpleaaGreat

/-
  slices.Equal on ints by its contract: whether they are the same. Nothing is written. No condition.
-/
namespace Go.Proofs.YtlpjggilkfpleaaGreat
open Go.RowKit
set_option maxRecDepth 100000
set_option linter.unusedVariables false

theorem same_of {l m : List Int} (h : l.length = m.length) (he : ∀ j, j < l.length → l[j]?.getD 0 = m[j]?.getD 0) : l = m := by
  apply List.ext_getElem h
  intro j h1 h2
  have := he j h1
  rw [List.getElem?_eq_getElem h1, List.getElem?_eq_getElem h2] at this
  exact this

theorem below_drewI {B : Nat} {w w' : World} (h : Below B w w') : ∀ n, Below B w (w'.drewN n) := fun n => ⟨h.os, h.tape, h.output, h.size, h.block⟩

set_option maxHeartbeats 800000 in
theorem EqualInts_any {w : World} {B B' n m : Nat} {A A' : Option Addr} {l l' : List Int} (c d : Nat) (hr : RI w B A n l) (hr' : RI w B' A' m l') (hm : n ≤ maxLen) (hm' : m ≤ maxLen) (hB : B ≤ w.heap.size) (hB' : B' ≤ w.heap.size) :
    Calls Tryz.prog 32 #[.slice A n c, .slice A' m d] w fun e w' => e = .returned (.bool (decide (l = l'))) ∧ Below w.heap.size w w' := by
  unfold maxLen at hm hm'
  have hlen := hr.len
  have hlen' := hr'.len
  by_cases hnm : n = m
  · subst hnm
    have hne : ((n : Int) != (n : Int)) = false := by simp
    go_enter Tryz.func32, Tryz.ntmps32
    go_wp2
    go_loopw [13] (fun i wr => ∃ k : Nat, k ≤ n ∧ i = .int .i64 k ∧ Hid (∀ j, j < k → l[j]?.getD 0 = l'[j]?.getD 0) ∧ Below w.heap.size w wr) (fun i _ => n - (intOf i).toNat)
    case atStart => exact ⟨0, Nat.zero_le _, rfl, Lib.hid (fun j hj => absurd hj (by omega)), Below.refl _ _⟩
    case round =>
      obtain ⟨k, hk, rfl, hbef, hbw⟩ := hrel
      by_cases hlt : k < n
      · obtain ⟨b, off, rfl, hb, hcell⟩ := hr.2.2 (by omega)
        obtain ⟨b', off', rfl, hb', hcell'⟩ := hr'.2.2 (by omega)
        have hck := (hbw.cell (p := ⟨b, off + k, none⟩) (Nat.lt_of_lt_of_le hb hB)).trans (hcell k hlt)
        have hck' := (hbw.cell (p := ⟨b', off' + k, none⟩) (Nat.lt_of_lt_of_le hb' hB')).trans (hcell' k hlt)
        clear hcell hcell'
        have hlt' : (k : Int) < (n : Int) := by omega
        by_cases hv : l[k]?.getD 0 = l'[k]?.getD 0
        · have hn := Lib.hid (fun j (hj : j < k + 1) => show l[j]?.getD 0 = l'[j]?.getD 0 by
            rcases Nat.lt_or_ge j k with h | h
            · exact hbef.out j h
            · obtain rfl : j = k := by omega
              exact hv)
          have kv : (l[k]?.getD 0 != l'[k]?.getD 0) = false := by simp [hv]
          clear hv
          generalize l[k]?.getD 0 = u at hck kv
          generalize l'[k]?.getD 0 = u' at hck' kv
          go_wp2_with fail
          go_quiet (fail)
          go_wp2
          go_roundw
          case rel => exact ⟨k + 1, by omega, by go_num, hn, below_drewI hbw _⟩
          case measure => simp [intOf]; omega
        · have hd := Lib.hid (show decide (l = l') = false by
            have : ¬ l = l' := fun e => hv (by rw [e])
            simpa using this)
          have kv : (l[k]?.getD 0 != l'[k]?.getD 0) = true := by simpa using hv
          clear hv
          generalize l[k]?.getD 0 = u at hck kv
          generalize l'[k]?.getD 0 = u' at hck' kv
          go_wp2_with fail
          go_quiet (fail)
          go_wp2
          go_ret
          rw [hd.out]
          exact ⟨rfl, below_drewI hbw _⟩
      · obtain rfl : k = n := by omega
        have hd := Lib.hid (show decide (l = l') = true by
          have : l = l' := same_of (by omega) (fun j hj => hbef.out j (by omega))
          simpa using this)
        go_wp2
        go_ret
        rw [hd.out]
        exact ⟨rfl, hbw⟩
  · have hne : ((n : Int) != (m : Int)) = true := by simp; omega
    have hd : decide (l = l') = false := by
      have : ¬ l = l' := fun e => hnm (by rw [← hlen, ← hlen', e])
      simpa using this
    rw [hd]
    clear hd hnm
    go_enter Tryz.func32, Tryz.ntmps32
    go_wp2
    go_ret
    exact ⟨rfl, Below.refl _ _⟩

end Go.Proofs.YtlpjggilkfpleaaGreat
