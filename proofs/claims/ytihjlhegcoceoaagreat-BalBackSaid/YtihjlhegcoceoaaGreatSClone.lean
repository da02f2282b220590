/-
  slices.Clone on bytes by its contract: a new slice of the same bytes, or nil; nothing that was there is written. Condition: at most 2^47 bytes.
-/
import Derived.Test.YtihjlhegcoceoaaGreatApp
namespace Go.Proofs.YtihjlhegcoceoaaGreat
open Go.RowKit
set_option maxRecDepth 100000
set_option linter.unusedVariables false

set_option maxHeartbeats 400000 in
theorem SClone_any {w : World} {B n : Nat} {A : Option Addr} {l : List Int} (c : Nat) (h : RB w B A n l) (hB : B ≤ w.heap.size) (hn : n ≤ 140737488355328) :
    Calls Tryz.prog 36 #[.slice A n c] w fun e w' => ∃ A' c', e = .returned (.slice A' n c') ∧ n ≤ c' ∧ RB w' w'.heap.size A' n l ∧ Below w.heap.size w w' := by
  have q22 : ∀ (w : World) (a : Option Addr) (n c n' c' : Nat), (binOp .eql 54 (.slice a n c) (.slice none n' c')).run Tryz.prog w = .ok (.bool a.isNone) w := fun w a n c n' c' => Lib.run_eql_slice_nil w _ _ a n c n' c' Tryz.underlying54
  rcases A with _ | ad
  · have hm : n = 0 := by
      rcases Nat.eq_zero_or_pos n with h0 | h0
      · exact h0
      · obtain ⟨b, off, e, _⟩ := h.at_ h0; cases e
    subst hm
    obtain rfl : l = [] := List.eq_nil_of_length_eq_zero h.len
    go_enter Tryz.func36, Tryz.ntmps36
    go_wp2
    go_ret
    exact ⟨none, 0, rfl, Nat.le_refl _, RB.nil_, Below.refl _ _⟩
  · go_enter Tryz.func36, Tryz.ntmps36
    go_wp2_with (at_builtin; refine wpList_append_bytes rfl _ _ rfl w.heap.size _ 0 [] rfl (World.ownsRow_made w #[] 0 (Nat.le_refl _) (Nat.zero_le _) rfl) B (some ad) n c l rfl (h.alloc hB _) (by omega) (by simp) ?_; intro v1 w1 hown1 _ hb1)
    simp only [Nat.zero_add, List.nil_append] at hown1
    obtain ⟨A', c', rfl, hc'⟩ := own_shape hown1
    go_ret
    exact ⟨A', c', rfl, hc', RB.of_own hown1 h.bytes, ((Below.refl w.heap.size w).alloc (Nat.le_refl _) _).trans hb1⟩

end Go.Proofs.YtihjlhegcoceoaaGreat
