/-
  The library's Clone, Reverse and IsSortedFunc over lines by their contracts. Condition: fewer than 2^31 lines.
-/
import Derived.Test.YtilhcchnlbdlhaaGreatLinD
import Derived.Deep.RegionHeld3
namespace Go.Proofs.YtilhcchnlbdlhaaGreat
open Go.RowKit Go.Maps Go.Sort Go.Shelf
set_option maxRecDepth 100000
set_option linter.unusedVariables false

section
variable {w w' : World} {A : Option Addr} {n k B base : Nat} {l : List Ln}
/-- A block of lines, as a slice of them reads. -/
theorem RL.of_block {g : Nat} {cs : Array Value} {T : TypeId} {fr : Nat × Nat} (hb : w.heap[g]? = some (.cells cs T fr)) (hcs : cs = (lnsV l).toArray) (hl : ∀ x ∈ l, LnOk x) : RL w w.heap.size (some ⟨g, 0, none⟩) l.length l := by
  subst hcs
  refine ⟨rfl, hl, fun _ => ⟨g, 0, rfl, (Array.getElem?_eq_some_iff.1 hb).1, fun j x hx => ?_⟩⟩
  obtain ⟨g0, g1, g2, g3⟩ := lnsV_at hx
  have at_ : ∀ k u, (lnsV l)[k]? = some u → w.cell? ⟨g, k, none⟩ = some u := fun k u hu => by
    rw [cell_of_row _ _ k _ _ fr hb, ← hu]
    simp
  rw [Nat.zero_add]
  exact ⟨at_ _ _ g0, at_ _ _ g1, at_ _ _ g2, at_ _ _ g3⟩
set_option maxHeartbeats 400000 in
theorem cloneLn_any (c : Nat) (h : RL w B A n l) (hB : B ≤ w.heap.size) (hn : n ≤ 2147483647) :
    Calls Tryz.prog 9 #[.slice A n c] w fun e w' => ∃ u, e = .returned u ∧ LOwn w' w.heap.size u l ∧ Below w.heap.size w w' := by
  have q22 : ∀ (w : World) (a : Option Addr) (n c n' c' : Nat), (binOp .eql 28 (.slice a n c) (.slice none n' c')).run Tryz.prog w = .ok (.bool a.isNone) w := fun w a n c n' c' => Lib.run_eql_slice_nil w _ _ a n c n' c' Tryz.underlying28
  rcases A with _ | ad
  · have hm : n = 0 := by
      rcases Nat.eq_zero_or_pos n with h0 | h0
      · exact h0
      · obtain ⟨b, off, e, _⟩ := h.2.2 h0; cases e
    subst hm
    obtain rfl : l = [] := List.eq_nil_of_length_eq_zero h.len
    go_enter Tryz.func9, Tryz.ntmps9
    go_wp2
    go_ret
    exact ⟨_, rfl, LOwn.start _ _, Below.refl _ _⟩
  · have hX : Below w.heap.size w (w.alloc (.cells #[] 30 (0, 0))) := (Below.refl _ _).alloc (Nat.le_refl _) _
    have hO : LOwn (w.alloc (.cells #[] 30 (0, 0))) w.heap.size (.slice (some ⟨w.heap.size, 0, none⟩) 0 0) [] := World.ownsRow_made w #[] 0 (Nat.le_refl _) (Nat.zero_le _) rfl
    obtain ⟨v', w2, hrun, hown, hb2, _⟩ := hO.appendL (c := c) (h.below (hX.mono hB)) (by simp) hn hX.size 28
    rw [List.nil_append] at hown
    have HRUN := Lib.hid hrun
    have HE := Lib.hid (And.intro hown (hX.trans hb2))
    clear hrun hown hb2 hX hO h
    go_enter Tryz.func9, Tryz.ntmps9
    go_wp2_with (at_builtin; refine Lib.wpList_append_run _ rfl _ _ _ _ rfl _ _ rfl rfl _ _ HRUN.out ?_)
    go_ret
    exact ⟨_, rfl, HE.out⟩
end
end Go.Proofs.YtilhcchnlbdlhaaGreat
