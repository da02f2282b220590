/-
  Both views behind j calls of the view law's play; their whole scans, and their changes, are the same. No condition beyond what each says.
-/
import Derived.Test.YteogpohhnnjbmaaGreatRefG
import Derived.Test.YteogpohhnnjbmaaGreatViewF
namespace Go.Proofs.YteogpohhnnjbmaaGreat
open Go.RowKit Go.Maps
set_option maxRecDepth 100000
set_option linter.unusedVariables false

/-- Both views behind j calls. -/
def PlayInv (w0 : World) (B j : Nat) (v m c x : Nat) (w : World) : Prop :=
  ∃ (X : Nat → Prop) (p q r : Nat) (S : VS) (a b d : TL), Both w X v m c x p q r S a b d ∧ Small S a b d j ∧ (∀ k, X k → B ≤ k) ∧ RowKit.Below B w0 w
section
variable {w w0 : World} {v m c x B j : Nat}
theorem PlayInv.same (h : PlayInv w0 B j v m c x w) (hj : j ≤ 60) (hB : B ≤ w.heap.size) : Calls Tryz.prog 25 #[.pointer (some ⟨v, 0, none⟩), .pointer (some ⟨x, 0, none⟩)] w fun e w' => e = .returned (.bool true) ∧ RowKit.Below B w0 w' := by
  obtain ⟨X, p, q, r, S, a, b, d, hb, hs, hX, hw⟩ := h
  refine (same_any hb.view hb.ref hb.link (by rw [← hb.link.was]; exact Nat.le_trans hs.a (by omega)) (fun p hp => Nat.le_trans (hs.kw p hp) (by decide)) (Nat.le_trans hs.c (by omega)) (fun p hp => Nat.le_trans (hs.kc p hp) (by decide)) (Nat.le_trans hs.b (by omega))).mono ?_
  rintro e w' ⟨rfl, hb'⟩
  exact ⟨rfl, hw.trans (hb'.mono hB)⟩
theorem PlayInv.tail (h : PlayInv w0 B j v m c x w) (hj : j ≤ 60) : Calls Tryz.prog 22 #[.pointer (some ⟨v, 0, none⟩)] w fun e w1 => ∃ A n k A' n' k', e = .returned (.tuple #[.slice A n k, .slice A' n' k']) ∧ RowKit.Below w.heap.size w w1 ∧
    Calls Tryz.prog 23 #[.pointer (some ⟨x, 0, none⟩)] w1 fun e w2 => ∃ C l i C' l' i', e = .returned (.tuple #[.slice C l i, .slice C' l' i']) ∧ RowKit.Below w.heap.size w w2 ∧
      Calls Tryz.prog 15 #[.slice A n k, .slice C l i] w2 (fun e w3 => e = .returned (.bool true) ∧ RowKit.Below w2.heap.size w2 w3) ∧
      ∀ w3, RowKit.Below w2.heap.size w2 w3 → Calls Tryz.prog 24 #[.slice A' n' k', .slice C' l' i'] w3 fun e w4 => e = .returned (.bool true) ∧ RowKit.Below w3.heap.size w3 w4 := by
  obtain ⟨X, p, q, r, S, a, b, d, hb, hs, hX, hw⟩ := h
  have hpl : (S.puts.map kvOf).length ≤ maxLen := by
    rw [List.length_map]
    exact Nat.le_trans (List.length_filterMap_le _ _) (Nat.le_trans hs.c (by unfold maxLen; omega))
  have hdl : (S.dels.map by_).length ≤ maxLen := by
    rw [List.length_map]
    exact Nat.le_trans (List.length_filterMap_le _ _) (Nat.le_trans hs.c (by unfold maxLen; omega))
  refine (vChangesP_any hb.view (Nat.le_trans hs.c (by omega)) (fun p hp => Nat.le_trans (hs.kc p hp) (by decide))).mono ?_
  rintro e w1 ⟨A, n, k, A', n', k', rfl, _, h1, _, h2, hb1⟩
  refine ⟨A, n, k, A', n', k', rfl, hb1, ?_⟩
  refine (bothChanges_any (hb.below hb1) (Nat.le_trans hs.a (by omega)) (Nat.le_trans hs.b (by omega)) (Nat.le_trans hs.d (by omega))).mono ?_
  rintro e w2 ⟨C, l, i, C', l', i', rfl, _, h3, _, h4, hb2⟩
  refine ⟨C, l, i, C', l', i', rfl, hb1.trans (hb2.mono hb1.size), ?_, fun w3 hb3 => ?_⟩
  · have := plPairs_any (k := k) (k' := i) (h1.below hb2) h3 hb2.size (Nat.le_refl _) (by rw [← h1.1]; exact hpl) (by rw [← h3.1]; exact hpl)
    simpa using this
  · have := plBytes_any (k := k') (k' := i') (h2.below (hb2.trans (hb3.mono hb2.size))) (h4.below hb3) (Nat.le_trans hb2.size hb3.size) hb3.size (by rw [← h2.1]; exact hdl) (by rw [← h4.1]; exact hdl)
    refine this.mono ?_
    rintro e w' ⟨rfl, rfl⟩
    exact ⟨by simp, RowKit.Below.refl _ _⟩
end

end Go.Proofs.YteogpohhnnjbmaaGreat
