/-
  One call of the view law's play at both views: Get, Scan. Conditions: the call's bytes lie below the views' blocks, its key is of at most 60 bytes.
-/
import Derived.Test.YteogpohhnnjbmaaGreatPlayU
namespace Go.Proofs.YteogpohhnnjbmaaGreat
open Go.RowKit Go.Maps
set_option maxRecDepth 100000
set_option linter.unusedVariables false

section
variable {w w0 : World} {v m c x B j : Nat}
theorem PlayInv.more (h : PlayInv w0 B j v m c x w) : PlayInv w0 B (j + 1) v m c x w := by
  obtain ⟨X, p, q, r, S, a, b, d, hb, hs, hX, hw⟩ := h
  exact ⟨X, p, q, r, S, a, b, d, hb, hs.more, hX, hw⟩
theorem PlayInv.get (h : PlayInv w0 B j v m c x w) (hj : j ≤ 60) (hB : B ≤ w.heap.size) {A : Option Addr} {n k : Nat} {l : List Int} (hr : RB w B A n l) (hn : n ≤ 60) :
    ∃ is : Bool, Calls Tryz.prog 12 #[.pointer (some ⟨v, 0, none⟩), .slice A n k] w fun e w1 => ∃ A1 n1 k1, e = .returned (.tuple #[.slice A1 n1 k1, .bool is]) ∧ RowKit.Below w.heap.size w w1 ∧
    Calls Tryz.prog 13 #[.pointer (some ⟨x, 0, none⟩), .slice A n k] w1 fun e w2 => ∃ A2 n2 k2, e = .returned (.tuple #[.slice A2 n2 k2, .bool is]) ∧ RowKit.Below B w w2 ∧ PlayInv w0 B (j + 1) v m c x w2 ∧
      Calls Tryz.prog 14 #[.slice A1 n1 k1, .slice A2 n2 k2] w2 fun e w3 => e = .returned (.bool true) ∧ w2 = w3 := by
  obtain ⟨X, p, q, r, S, a, b, d, hb, hs, hX, hw⟩ := h
  refine ⟨(S.now (tx l)).isSome, (vGet_any hb.view hr hB (by unfold maxLen; omega)).mono ?_⟩
  rintro e w1 ⟨u1, rfl, hs1, hb1⟩
  obtain ⟨A1, n1, k1, rfl⟩ := hs1.slice
  have hB1 := hb1.mono hB
  refine ⟨A1, n1, k1, rfl, hb1, (refGet_any (hb.ref.below hb1) (Nat.le_trans hs.b (by omega)) (hr.below hB1) (Nat.le_trans hB hb1.size)).mono ?_⟩
  rintro e w2 ⟨u2, rfl, hs2, hb2⟩
  obtain ⟨A2, n2, k2, rfl⟩ := hs2.slice
  have hb12 := hb1.trans (hb2.mono hb1.size)
  have hbB := hb12.mono hB
  refine ⟨A2, n2, k2, by rw [hb.link.now], hbB, ⟨X, p, q, r, S, a, b, d, hb.below hb12, hs.more, hX, hw.trans hbB⟩, ?_⟩
  have := Equal_any k1 k2 (hs1.parts.1.below hb2) hs2.parts.1
  rw [hb.link.now] at this
  refine this.mono ?_
  rintro e w3 ⟨rfl, h3⟩
  exact ⟨by simp, h3⟩
theorem PlayInv.scan (h : PlayInv w0 B j v m c x w) (hj : j ≤ 60) (hB : B ≤ w.heap.size) {A : Option Addr} {n k : Nat} {l : List Int} (hr : RB w B A n l) (hn : n ≤ 60) (hk : n ≤ k) :
    Calls Tryz.prog 16 #[.pointer (some ⟨v, 0, none⟩), .slice A n k] w fun e w1 => ∃ A1 n1 k1, e = .returned (.slice A1 n1 k1) ∧ RowKit.Below w.heap.size w w1 ∧
    Calls Tryz.prog 17 #[.pointer (some ⟨x, 0, none⟩), .slice A n k] w1 fun e w2 => ∃ A2 n2 k2, e = .returned (.slice A2 n2 k2) ∧ RowKit.Below w.heap.size w w2 ∧
      Calls Tryz.prog 15 #[.slice A1 n1 k1, .slice A2 n2 k2] w2 fun e w3 => e = .returned (.bool true) ∧ RowKit.Below w.heap.size w w3 ∧ RowKit.Below B w w3 ∧ PlayInv w0 B (j + 1) v m c x w3 := by
  obtain ⟨X, p, q, r, S, a, b, d, hb, hs, hX, hw⟩ := h
  refine (vScan_any hb.view (by rw [← hb.link.was]; exact Nat.le_trans hs.a (by omega)) (fun p hp => Nat.le_trans (hs.kw p hp) (by decide)) (Nat.le_trans hs.c (by omega)) (fun p hp => Nat.le_trans (hs.kc p hp) (by decide)) hr hB).mono ?_
  rintro e w1 ⟨A1, n1, k1, rfl, _, h1, hb1⟩
  have hB1 := hb1.mono hB
  refine ⟨A1, n1, k1, rfl, hb1, (refScan_any (hb.ref.below hb1) (Nat.le_trans hs.b (by omega)) (hr.below hB1) (Nat.le_trans hB hb1.size) (by unfold maxLen; omega) hk).mono ?_⟩
  rintro e w2 ⟨A2, n2, k2, rfl, h2, hb2⟩
  have hb12 := hb1.trans (hb2.mono hb1.size)
  have hq := h2.pairs
  have hlen : ((b.filter fun q => (tx l).isPrefixOf q.1).map kvOf).length ≤ maxLen := by
    rw [List.length_map]
    exact Nat.le_trans (List.length_filter_le _ _) (Nat.le_trans hs.b (by unfold maxLen; omega))
  have he : S.scan (tx l) = b.filter fun q => (tx l).isPrefixOf q.1 := by unfold VS.scan; rw [hb.link.nowL]
  rw [he] at h1
  refine ⟨A2, n2, k2, rfl, hb12, (plPairs_any (k := k1) (k' := k2) (h1.below hb2) hq hb2.size (Nat.le_refl _) (by rw [← h1.1]; exact hlen) (by rw [← hq.1]; exact hlen)).mono ?_⟩
  rintro e w3 ⟨rfl, hb3⟩
  have hb13 := hb12.trans (hb3.mono hb12.size)
  have hbB := hb13.mono hB
  exact ⟨by simp, hb13, hbB, X, p, q, r, S, a, b, d, hb.below hb13, hs.more, hX, hw.trans hbB⟩
end

end Go.Proofs.YteogpohhnnjbmaaGreat
