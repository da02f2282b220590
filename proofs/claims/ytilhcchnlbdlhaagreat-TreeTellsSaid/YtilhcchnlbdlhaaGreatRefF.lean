/-
  The texts EqF, RefE, RefF joined. Conditions: those that each part says at its head.
-/
import Derived.Test.YtilhcchnlbdlhaaGreatTabD
import Derived.Test.YtilhcchnlbdlhaaGreatRefD

/-
  The library's EqualFunc over pairs, and over texts, and the laws' Pairs and Bytes, by contract: whether two lists are the same. Condition: lengths are ints.
-/
namespace Go.Proofs.YtilhcchnlbdlhaaGreat
open Go.RowKit Go.Maps
set_option maxRecDepth 100000
set_option linter.unusedVariables false

section
variable {w w' : World}
theorem list_eq_upto {α : Type} {l m : List α} (hl : l.length = m.length) (h : ∀ (a : Nat) (x y : α), l[a]? = some x → m[a]? = some y → x = y) : l = m := by
  apply List.ext_getElem hl
  intro a h1 h2
  exact h a _ _ (List.getElem?_eq_getElem h1) (List.getElem?_eq_getElem h2)

end

end Go.Proofs.YtilhcchnlbdlhaaGreat

/-
  The law's last look, at both views' whole scans, by contract. Conditions: fewer than 32,768 changes, fewer than 2^31 pairs, keys of at most 2^47 bytes.
-/
namespace Go.Proofs.YtilhcchnlbdlhaaGreat
open Go.RowKit Go.Maps
set_option maxRecDepth 100000
set_option linter.unusedVariables false

section
variable {w w' : World} {X : Nat → Prop} {v m c x p q r : Nat} {a b d : TL} {S : VS}
end

end Go.Proofs.YtilhcchnlbdlhaaGreat

/-
  Both views in one memory: what a call of the one leaves of the other. No condition.
-/
namespace Go.Proofs.YtilhcchnlbdlhaaGreat
open Go.RowKit Go.Maps
set_option linter.unusedVariables false

/-- No block of the program's view is one of the document's. -/
def FarBV (v m c x p q r : Nat) : Prop := ∀ i, (i = v ∨ i = m ∨ i = c) → i ≠ x ∧ i ≠ p ∧ i ≠ q ∧ i ≠ r
/-- The program's view and the document's, both in one memory, saying the same. -/
structure Both (w : World) (X : Nat → Prop) (v m c x p q r : Nat) (S : VS) (a b d : TL) : Prop where
  view : ViewAt w X v m c S
  ref : RefAt w X x p q r a b d
  link : Link S a b d
  far : FarBV v m c x p q r
section
variable {w w' : World} {X X' : Nat → Prop} {v m c x p q r p' q' r' : Nat} {S S' : VS} {a b d a' b' d' : TL}
theorem RefAt.keep (h : RefAt w X x p q r a b d) (hs : w.heap.size ≤ w'.heap.size) (hX : ∀ k, k < w.heap.size → ¬ X k → ¬ X' k) (hx : ∀ k, X k → X' k) (hlt : ∀ k, X' k → k < w'.heap.size) (hk : ∀ k, k < w.heap.size → (k = x ∨ k = p ∨ k = q ∨ k = r ∨ ¬ X k) → w'.heap[k]? = w.heap[k]?) : RefAt w' X' x p q r a b d := by
  have hk' : ∀ k, k < w.heap.size → ¬ X k → w'.heap[k]? = w.heap[k]? := fun k h1 h2 => hk k h1 (.inr (.inr (.inr (.inr h2))))
  exact ⟨(hk x h.lt (.inl rfl)).trans h.me, hx x h.own, h.was.keep hs hX hx hk' (hk p h.was.lt (.inr (.inl rfl))), h.now.keep hs hX hx hk' (hk q h.now.lt (.inr (.inr (.inl rfl)))), h.told.keep hs hX hx hk' (hk r h.told.lt (.inr (.inr (.inr (.inl rfl))))), h.apart, hlt⟩
/-- A call of the program's view leaves the document's. -/
theorem Both.afterView (h : Both w X v m c x p q r S a b d) (ht : Touch (fun k => k = m ∨ k = c) w w') : RefAt w' X x p q r a b d := by
  have hmc : ∀ k, (k = x ∨ k = p ∨ k = q ∨ k = r ∨ ¬ X k) → ¬ (k = m ∨ k = c) := fun k hk e => by
    obtain ⟨f1, f2, f3, f4⟩ := h.far k (.inr e)
    rcases hk with hk | hk | hk | hk | hk
    · exact f1 hk
    · exact f2 hk
    · exact f3 hk
    · exact f4 hk
    · rcases e with e | e
      · exact hk (by rw [e]; exact h.view.xm)
      · exact hk (by rw [e]; exact h.view.xc)
  exact h.ref.keep ht.size (fun _ _ h => h) (fun _ h => h) (fun k hk => Nat.lt_of_lt_of_le (h.ref.old k hk) ht.size) (fun k hk hh => ht.block k hk (hmc k hh))
/-- A call of the document's view leaves the program's. -/
theorem viewKept {F : Nat → Prop} (hv : ViewAt w X v m c S) (hr : RefAt w X x p q r a b d) (hfar : FarBV v m c x p q r) (ht : Touch F w w') (hF : ∀ k, F k → k = x ∨ k = p ∨ k = q ∨ k = r) (hX : ∀ k, k < w.heap.size → ¬ X k → ¬ X' k) (hx : ∀ k, X k → X' k) (hlt : ∀ k, X' k → k < w'.heap.size) : ViewAt w' X' v m c S := by
  refine hv.keep ht.size hX hx hlt fun k hk hh => ht.block k hk fun hf => ?_
  have e := hF k hf
  have hXk : X k := by
    rcases e with e | e | e | e
    · rw [e]; exact hr.own
    · rw [e]; exact hr.was.own
    · rw [e]; exact hr.now.own
    · rw [e]; exact hr.told.own
  have hh' : k = v ∨ k = m ∨ k = c := by
    rcases hh with hh | hh | hh | hh
    · exact .inl hh
    · exact .inr (.inl hh)
    · exact .inr (.inr hh)
    · exact absurd hXk hh
  obtain ⟨f1, f2, f3, f4⟩ := hfar k hh'
  rcases e with e | e | e | e
  · exact f1 e
  · exact f2 e
  · exact f3 e
  · exact f4 e
theorem Both.below (h : Both w X v m c x p q r S a b d) (hb : RowKit.Below w.heap.size w w') : Both w' X v m c x p q r S a b d := ⟨h.view.below hb, h.ref.below hb, h.link, h.far⟩
/-- Put or Delete at both. -/
theorem Both.turn {w1 : World} (h : Both w X v m c x p q r S a b d) (hv : ViewAt w1 X v m c S') (hr : RefAt w' X x p q r a b' d') (ht : Touch (fun k => k = m ∨ k = c) w w1) (ht' : Touch (fun k => k = q ∨ k = r) w1 w') (hl : Link S' a b' d') : Both w' X v m c x p q r S' a b' d' :=
  ⟨viewKept hv (h.afterView ht) h.far ht' (fun k hk => by rcases hk with e | e; exact .inr (.inr (.inl e)); exact .inr (.inr (.inr e))) (fun _ _ h => h) (fun _ h => h) (fun k hk => Nat.lt_of_lt_of_le (hv.lt k hk) ht'.size), hr, hl, h.far⟩
/-- Commit or Abort at both. -/
theorem Both.renew {w1 : World} (h : Both w X v m c x p q r S a b d) (hv : ViewAt w1 X v m c S') (hr : RefAt w' (And_ X w1 w') x p' q' r' a' b' d') (ht : Touch (fun k => k = m ∨ k = c) w w1) (ht' : Touch (fun k => k = x) w1 w') (hl : Link S' a' b' d')
    (hp : p' = p ∨ w1.heap.size ≤ p') (hq : q' = q ∨ w1.heap.size ≤ q') (hr' : w1.heap.size ≤ r') : Both w' (And_ X w1 w') v m c x p' q' r' S' a' b' d' := by
  refine ⟨viewKept hv (h.afterView ht) h.far ht' (fun k hk => .inl hk) (fun k hk hx hy => ?_) (fun k hk => .inl hk) (fun k hk => ?_), hr, hl, fun i hi => ?_⟩
  · rcases hy with e | e
    · exact hx e
    · omega
  · rcases hk with e | e
    · exact Nat.lt_of_lt_of_le (hv.lt k e) ht'.size
    · exact e.2
  · obtain ⟨f1, f2, f3, f4⟩ := h.far i hi
    have hil : i < w1.heap.size := by
      rcases hi with e | e | e
      · rw [e]; exact hv.lt _ hv.xv
      · rw [e]; exact hv.lt _ hv.xm
      · rw [e]; exact hv.lt _ hv.xc
    refine ⟨f1, ?_, ?_, by omega⟩
    · rcases hp with e | e
      · rw [e]; exact f2
      · omega
    · rcases hq with e | e
      · rw [e]; exact f3
      · omega
end

end Go.Proofs.YtilhcchnlbdlhaaGreat
