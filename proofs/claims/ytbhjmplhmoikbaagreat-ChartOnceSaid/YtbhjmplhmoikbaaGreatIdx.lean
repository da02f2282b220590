/-
  slices.Index and slices.Contains on ints by their contracts: the first place of a number, or -1; whether it is there. Nothing is written. No condition.
-/
import Derived.Test.YtbhjmplhmoikbaaGreatInts
namespace Go.Proofs.YtbhjmplhmoikbaaGreat
open Go.RowKit
set_option maxRecDepth 100000
set_option linter.unusedVariables false

/-- The first place of a number, or -1. -/
def idxI (l : List Int) (v : Int) : Int := match l.findIdx? (· == v) with | some i => (i : Int) | none => -1

theorem idxI_hit {l : List Int} {v : Int} {k : Nat} (hk : k < l.length) (hbefore : ∀ j, j < k → l[j]?.getD 0 ≠ v) (h : l[k]?.getD 0 = v) : idxI l v = k := by
  have e : l.findIdx? (· == v) = some k := by
    rw [List.findIdx?_eq_some_iff_getElem]
    refine ⟨hk, by simpa [List.getElem?_eq_getElem hk] using h, fun j hj => ?_⟩
    have := hbefore j hj
    simpa [List.getElem?_eq_getElem (show j < l.length by omega)] using this
  unfold idxI
  rw [e]
theorem idxI_miss {l : List Int} {v : Int} (h : ∀ j, j < l.length → l[j]?.getD 0 ≠ v) : idxI l v = -1 := by
  have e : l.findIdx? (· == v) = none := by
    rw [List.findIdx?_eq_none_iff]
    intro x hx
    obtain ⟨j, hj, rfl⟩ := List.getElem_of_mem hx
    have := h j hj
    simpa [List.getElem?_eq_getElem hj] using this
  unfold idxI
  rw [e]

theorem idxI_mem (l : List Int) (v : Int) : (0 ≤ idxI l v ↔ v ∈ l) := by
  unfold idxI
  cases h : l.findIdx? (· == v) with
  | none =>
    rw [List.findIdx?_eq_none_iff] at h
    constructor
    · intro h0; simp at h0
    · intro hm; exact absurd (h v hm) (by simp)
  | some i =>
    rw [List.findIdx?_eq_some_iff_getElem] at h
    obtain ⟨hi, hv, _⟩ := h
    constructor
    · intro _
      have : l[i] = v := by simpa using hv
      rw [← this]; exact List.getElem_mem hi
    · intro _; simp

set_option maxHeartbeats 400000 in
theorem Index_any {w : World} {B n : Nat} {A : Option Addr} {l : List Int} (c : Nat) (v : Int) (hr : RI w B A n l) (hm : n ≤ maxLen) :
    Calls Tryz.prog 36 #[.slice A n c, .int .i64 v] w fun e w' => e = .returned (.int .i64 (idxI l v)) ∧ w = w' := by
  unfold maxLen at hm
  have hlen := hr.len
  go_enter Tryz.func36, Tryz.ntmps36
  go_wp2
  go_loop [8] (fun i => ∃ k : Nat, k ≤ n ∧ i = .int .i64 k ∧ Hid (∀ j, j < k → l[j]?.getD 0 ≠ v)) (fun i => n - (intOf i).toNat)
  case atStart => exact ⟨0, Nat.zero_le _, rfl, Lib.hid (fun j hj => absurd hj (by omega))⟩
  case round =>
    obtain ⟨k, hk, rfl, hbef⟩ := hrel
    by_cases hlt : k < n
    · obtain ⟨b, off, rfl, hb, hcell⟩ := hr.2.2 (by omega)
      have hck := hcell k hlt
      clear hcell
      by_cases hv : l[k]?.getD 0 = v
      · have hi := Lib.hid (idxI_hit (show k < l.length by omega) hbef.out hv)
        have kv : (v == l[k]?.getD 0) = true := by simp [hv]
        clear hv
        generalize l[k]?.getD 0 = u at hck kv
        go_wp2
        go_ret
        rw [hi.out]
        exact ⟨rfl, rfl⟩
      · have kv : (v == l[k]?.getD 0) = false := by simpa using fun h => hv h.symm
        have hn := Lib.hid (fun j (hj : j < k + 1) => show l[j]?.getD 0 ≠ v by
          rcases Nat.lt_or_ge j k with h | h
          · exact hbef.out j h
          · obtain rfl : j = k := by omega
            exact hv)
        clear hv
        generalize l[k]?.getD 0 = u at hck kv
        go_wp2
        go_round
        case rel => exact ⟨k + 1, by omega, by go_num, hn⟩
        case measure => simp [intOf]; omega
    · obtain rfl : k = n := by omega
      have hi := Lib.hid (idxI_miss (l := l) (v := v) (fun j hj => hbef.out j (by omega)))
      go_wp2
      go_ret
      rw [hi.out]
      exact ⟨rfl, rfl⟩

set_option maxHeartbeats 400000 in
theorem Contains_any {w : World} {B n : Nat} {A : Option Addr} {l : List Int} (c : Nat) (v : Int) (hr : RI w B A n l) (hm : n ≤ maxLen) :
    Calls Tryz.prog 8 #[.slice A n c, .int .i64 v] w fun e w' => e = .returned (.bool (decide (v ∈ l))) ∧ w = w' := by
  have hd : decide (v ∈ l) = decide (0 ≤ idxI l v) := by rw [decide_eq_decide]; exact (idxI_mem l v).symm
  rw [hd]
  clear hd
  go_enter Tryz.func8, Tryz.ntmps8
  go_wp2_with fail
  refine (Index_any c v hr hm).mono ?_
  rintro e w1 ⟨rfl, rfl⟩
  go_wp2
  go_ret
  exact ⟨rfl, rfl⟩

end Go.Proofs.YtbhjmplhmoikbaaGreat
