/-
  Contract of the plain Put: for any slice of bytes, any number and any size the answer is a new slice of these bytes, behind them the number's bytes, or nothing more where the number does not fit. Condition: fewer than 2^47 - 8 bytes.
-/
import Derived.Test.YtihjlhegcoceoaaGreatPut
namespace Go.Proofs.YtihjlhegcoceoaaGreat
open Go.RowKit
set_option maxRecDepth 100000
set_option linter.unusedVariables false

theorem refFill_start {w : World} {base e n k : Nat} {v : Value} {l : List Int} {x : Int} (h : w.ownsRow base e 1 v n (l.map (Value.int .u8))) : w.ownsRow base e 1 v (n + 0) ((l ++ putB (shN x (k - 0)) 0).map (Value.int .u8)) := by
  simpa [putB] using h

theorem shN_eq (x : Int) (m : Nat) : shN x m = x / 2 ^ (8 * m) := by
  induction m with
  | zero => simp [shN]
  | succ m ih =>
    rw [shN, ih, Int.ediv_ediv_of_nonneg (Int.le_of_lt (Int.pow_pos (by decide)))]
    congr 1
    rw [show 8 * (m + 1) = 8 * m + 8 from by omega, Int.pow_add]
    rfl
theorem refFill_step {w : World} {base e n k j m : Nat} {v : Value} {l : List Int} {x : Int} (hk : m + j + 1 = k) (h : w.ownsRow base e 1 v (n + j + 1) ((l ++ putB (shN x (k - j)) j ++ [x / 2 ^ (8 * m) % 256]).map (Value.int .u8))) :
    w.ownsRow base e 1 v (n + (j + 1)) ((l ++ putB (shN x (k - (j + 1))) (j + 1)).map (Value.int .u8)) := by
  subst hk
  have e1 : m + j + 1 - j = m + 1 := by omega
  have e2 : m + j + 1 - (j + 1) = m := by omega
  rw [e1] at h
  rw [e2]
  rw [← shN_eq] at h
  rw [putB, ← List.append_assoc]
  exact h

theorem putR_bytes {l : List Int} (h : AllBytes l) (x s : Int) : AllBytes (putR l x s) := by
  unfold putR
  split
  · exact h.append (putB_bytes _ _)
  · exact h

theorem Fresh.read {w w' : World} {e : TypeId} {v : Value} {l : List Int} (h : Fresh w w' e v l) (hl : AllBytes l) : ∃ A, v = .slice A l.length l.length ∧ RB w' w'.heap.size A l.length l := by
  obtain ⟨g, rfl, _, hg⟩ := h
  refine ⟨_, rfl, rfl, hl, fun hn => ⟨g, 0, rfl, ?_, fun j hj => ?_⟩⟩
  · rcases Nat.lt_or_ge g w'.heap.size with h' | h'
    · exact h'
    · rw [Array.getElem?_eq_none h'] at hg; cases hg
  · rw [Nat.zero_add, cell_of_row w' g j _ e (0, 0) hg]
    simp [List.getElem?_eq_getElem hj]

end Go.Proofs.YtihjlhegcoceoaaGreat
