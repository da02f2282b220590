/-
  The texts Idx, EqInts joined. Conditions: those that each part says at its head.
-/
import Derived.Test.YtccibahlcpkiaaaGreatInts
import Derived.BigQuiet

/-
  slices.Index and slices.Contains on ints by their contracts: the first place of a number, or -1; whether it is there. Nothing is written. No condition.
-/
namespace Go.Proofs.YtccibahlcpkiaaaGreat
open Go.RowKit
set_option maxRecDepth 100000
set_option linter.unusedVariables false

/-- The first place of a number, or -1. -/
def idxI (l : List Int) (v : Int) : Int := match l.findIdx? (· == v) with | some i => (i : Int) | none => -1

theorem idxI_hit {l : List Int} {v : Int} {k : Nat} (hk : k < l.length) (hbefore : ∀ j, j < k → l[j]?.getD 0 ≠ v) (h : l[k]?.getD 0 = v) : idxI l v = k := by
  have e : l.findIdx? (· == v) = some k := by
    rw [List.findIdx?_eq_some_iff_getElem]
    refine ⟨hk, by simpa [List.getElem?_eq_getElem hk] using h, fun j hj => ?_⟩
    have := hbefore j hj
    simpa [List.getElem?_eq_getElem (show j < l.length by omega)] using this
  unfold idxI
  rw [e]
theorem idxI_miss {l : List Int} {v : Int} (h : ∀ j, j < l.length → l[j]?.getD 0 ≠ v) : idxI l v = -1 := by
  have e : l.findIdx? (· == v) = none := by
    rw [List.findIdx?_eq_none_iff]
    intro x hx
    obtain ⟨j, hj, rfl⟩ := List.getElem_of_mem hx
    have := h j hj
    simpa [List.getElem?_eq_getElem hj] using this
  unfold idxI
  rw [e]

theorem idxI_mem (l : List Int) (v : Int) : (0 ≤ idxI l v ↔ v ∈ l) := by
  unfold idxI
  cases h : l.findIdx? (· == v) with
  | none =>
    rw [List.findIdx?_eq_none_iff] at h
    constructor
    · intro h0; simp at h0
    · intro hm; exact absurd (h v hm) (by simp)
  | some i =>
    rw [List.findIdx?_eq_some_iff_getElem] at h
    obtain ⟨hi, hv, _⟩ := h
    constructor
    · intro _
      have : l[i] = v := by simpa using hv
      rw [← this]; exact List.getElem_mem hi
    · intro _; simp

end Go.Proofs.YtccibahlcpkiaaaGreat

/-
  slices.Equal on ints by its contract: whether they are the same. Nothing is written. No condition.
-/
namespace Go.Proofs.YtccibahlcpkiaaaGreat
open Go.RowKit
set_option maxRecDepth 100000
set_option linter.unusedVariables false

theorem same_of {l m : List Int} (h : l.length = m.length) (he : ∀ j, j < l.length → l[j]?.getD 0 = m[j]?.getD 0) : l = m := by
  apply List.ext_getElem h
  intro j h1 h2
  have := he j h1
  rw [List.getElem?_eq_getElem h1, List.getElem?_eq_getElem h2] at this
  exact this

theorem below_drewI {B : Nat} {w w' : World} (h : Below B w w') : ∀ n, Below B w (w'.drewN n) := fun n => ⟨h.os, h.tape, h.output, h.size, h.block⟩

end Go.Proofs.YtccibahlcpkiaaaGreat
