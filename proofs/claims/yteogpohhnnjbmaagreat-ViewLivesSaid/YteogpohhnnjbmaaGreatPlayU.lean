/-
  One call of the view law's play at both views: Put, Delete, Commit, Abort. Conditions: the call's bytes lie below the views' blocks, its key is of at most 60 bytes.
-/
import Derived.Test.YteogpohhnnjbmaaGreatPlayT
namespace Go.Proofs.YteogpohhnnjbmaaGreat
open Go.RowKit Go.Maps
set_option maxRecDepth 100000
set_option linter.unusedVariables false

section
variable {w w0 : World} {v m c x B j : Nat}
theorem PlayInv.below {w' : World} (h : PlayInv w0 B j v m c x w) (h1 : RowKit.Below B w w') (h2 : RowKit.Below w.heap.size w w') : PlayInv w0 B j v m c x w' := by
  obtain ⟨X, p, q, r, S, a, b, d, hb, hs, hX, hw⟩ := h
  exact ⟨X, p, q, r, S, a, b, d, hb.below h2, hs, hX, hw.trans h1⟩
theorem sv_of {X : Nat → Prop} {A : Option Addr} {n k : Nat} {l : List Int} (hr : RB w B A n l) (hB : B ≤ w.heap.size) (hX : ∀ k, X k → B ≤ k) (hk : n ≤ k) (hn : n ≤ 140737488355328) : SV w X (.slice A n k) l :=
  ⟨A, n, k, rfl, hk, hn, ⟨hr.1, hr.2.1, fun hn => by
    obtain ⟨b, o, e, hb, h⟩ := hr.2.2 hn
    exact ⟨b, o, e, Nat.lt_of_lt_of_le hb hB, h⟩⟩, fun a ha hp hx => by
    obtain ⟨b, o, e, hb, _⟩ := hr.2.2 hp
    rw [ha] at e
    cases e
    exact absurd (hX b hx) (Nat.not_le.2 hb)⟩
theorem PlayInv.c_lt (h : PlayInv w0 B j v m c x w) : c < w.heap.size := by
  obtain ⟨X, p, q, r, S, a, b, d, hb, hs, hX, hw⟩ := h
  exact hb.view.lt c hb.view.xc
theorem PlayInv.abort (h : PlayInv w0 B j v m c x w) (hB : B ≤ w.heap.size) : Calls Tryz.prog 20 #[.pointer (some ⟨v, 0, none⟩)] w fun e w1 => e = .returned (.tuple #[]) ∧
    Calls Tryz.prog 21 #[.pointer (some ⟨x, 0, none⟩)] w1 fun e w2 => e = .returned (.tuple #[]) ∧ RowKit.Below B w w2 ∧ PlayInv w0 B (j + 1) v m c x w2 := by
  obtain ⟨X, p, q, r, S, a, b, d, hb, hs, hX, hw⟩ := h
  refine (vAbort_any hb.view).mono ?_
  rintro e w1 ⟨rfl, hv1, ht1⟩
  have ht1' : Touch (fun k => k = m ∨ k = c) w w1 := ⟨ht1.os, ht1.tape, ht1.output, ht1.size, fun k hk hn => ht1.block k hk fun e => hn (.inr e)⟩
  refine ⟨rfl, (refAbort_any (hb.afterView ht1')).mono ?_⟩
  rintro e w2 ⟨rfl, hr2, ht2⟩
  have hb2 := hb.renew hv1 hr2 ht1' ht2 hb.link.abort (.inl rfl) (.inr (Nat.le_refl _)) (Nat.le_succ _)
  have hbel : RowKit.Below B w w2 := (ht1.below (fun k hk => by rw [hk]; exact hX _ hb.view.xc) hB).trans (ht2.below (fun k hk => by rw [hk]; exact hX _ hb.ref.own) (Nat.le_trans hB ht1.size))
  exact ⟨rfl, hbel, _, _, _, _, _, _, _, _, hb2, hs.abort, fun k hk => by rcases hk with e | e; exact hX k e; have := ht1.size; omega, hw.trans hbel⟩
theorem PlayInv.commit (h : PlayInv w0 B j v m c x w) (hj : j ≤ 60) (hB : B ≤ w.heap.size) : Calls Tryz.prog 18 #[.pointer (some ⟨v, 0, none⟩)] w fun e w1 => e = .returned (.int .i64 0) ∧
    Calls Tryz.prog 19 #[.pointer (some ⟨x, 0, none⟩)] w1 fun e w2 => e = .returned (.tuple #[]) ∧ RowKit.Below B w w2 ∧ PlayInv w0 B (j + 1) v m c x w2 := by
  obtain ⟨X, p, q, r, S, a, b, d, hb, hs, hX, hw⟩ := h
  refine (vCommit_any hb.view (Nat.le_trans hs.c (by omega)) (fun p hp => Nat.le_trans (hs.kc p hp) (by decide)) (by rw [← hb.link.was]; exact Nat.le_trans hs.a (by omega))).mono ?_
  rintro e w1 ⟨rfl, hv1, ht1⟩
  refine ⟨rfl, (refCommit_any (hb.afterView ht1)).mono ?_⟩
  rintro e w2 ⟨rfl, hr2, ht2⟩
  have hb2 := hb.renew hv1 hr2 ht1 ht2 hb.link.commit (.inr (Nat.le_refl _)) (.inl rfl) (Nat.le_succ _)
  have hbel : RowKit.Below B w w2 := (ht1.below (fun k hk => by rcases hk with e | e; rw [e]; exact hX _ hb.view.xm; rw [e]; exact hX _ hb.view.xc) hB).trans (ht2.below (fun k hk => by rw [hk]; exact hX _ hb.ref.own) (Nat.le_trans hB ht1.size))
  exact ⟨rfl, hbel, _, _, _, _, _, _, _, _, hb2, hs.commit hb.link, fun k hk => by rcases hk with e | e; exact hX k e; have := ht1.size; omega, hw.trans hbel⟩
/-- Both views behind j calls, block g apart from them. -/
def PlayAt (w0 : World) (B j g : Nat) (v m c x : Nat) (w : World) : Prop :=
  ∃ (X : Nat → Prop) (p q r : Nat) (S : VS) (a b d : TL), Both w X v m c x p q r S a b d ∧ Small S a b d j ∧ (∀ k, X k → B ≤ k) ∧ RowKit.Below B w0 w ∧ (∀ k, X k → k ≠ g) ∧ g < w.heap.size
theorem PlayInv.at_ {w' : World} (h : PlayInv w0 B j v m c x w) (h1 : RowKit.Below B w w') (h2 : RowKit.Below w.heap.size w w') (hlt : w.heap.size < w'.heap.size) : PlayAt w0 B j w.heap.size v m c x w' := by
  obtain ⟨X, p, q, r, S, a, b, d, hb, hs, hX, hw⟩ := h
  exact ⟨X, p, q, r, S, a, b, d, hb.below h2, hs, hX, hw.trans h1, fun k hk => Nat.ne_of_lt (hb.view.lt k hk), hlt⟩
theorem PlayAt.put {g : Nat} (h : PlayAt w0 B j g v m c x w) (hj : j ≤ 60) (hB : B ≤ w.heap.size) {A A' : Option Addr} {n k n' k' : Nat} {l l' : List Int} (hr : RB w B A n l) (hn : n ≤ 60) (hk : n ≤ k) (hr' : RB w B A' n' l') (hn' : n' ≤ 200) (hk' : n' ≤ k') :
    Calls Tryz.prog 8 #[.pointer (some ⟨v, 0, none⟩), .slice A n k, .slice A' n' k'] w fun e w1 => e = .returned (.int .i64 (putE l l')) ∧ RowKit.Below B w w1 ∧ w1.heap[g]? = w.heap[g]? ∧
    Calls Tryz.prog 9 #[.pointer (some ⟨x, 0, none⟩), .slice A n k, .slice A' n' k'] w1 fun e w2 => e = .returned (.int .i64 (putE l l')) ∧ w2.heap[g]? = w.heap[g]? ∧ RowKit.Below B w w2 ∧ PlayInv w0 B (j + 1) v m c x w2 := by
  obtain ⟨X, p, q, r, S, a, b, d, hb, hs, hX, hw, hgX, hg⟩ := h
  refine (vPut_any hb.view hr hB (by unfold maxLen; omega) hr' hB (by unfold maxLen; omega) (Nat.lt_of_le_of_lt hs.c (by unfold maxLen; omega))).mono ?_
  rintro e w1 ⟨rfl, hv1, ht1⟩
  have ht1' : Touch (fun k => k = m ∨ k = c) w w1 := ⟨ht1.os, ht1.tape, ht1.output, ht1.size, fun k hk hn => ht1.block k hk fun e => hn (.inr e)⟩
  have hb1 : RowKit.Below B w w1 := ht1.below (fun k hk => by rw [hk]; exact hX _ hb.view.xc) hB
  have hB1 := Nat.le_trans hB ht1.size
  have hg1 : w1.heap[g]? = w.heap[g]? := ht1.block g hg fun e => hgX _ hb.view.xc e.symm
  refine ⟨rfl, hb1, hg1, (refPut_any (hb.afterView ht1') (Nat.le_trans hs.b (by omega)) (Nat.le_trans hs.d (by omega)) (sv_of (hr.below hb1) hB1 hX hk (by omega)) (sv_of (hr'.below hb1) hB1 hX hk' (by omega))).mono ?_⟩
  rintro e w2 ⟨rfl, hr2, ht2⟩
  have hg2 : w2.heap[g]? = w.heap[g]? := (ht2.block g (Nat.lt_of_lt_of_le hg ht1.size) fun e => by rcases e with e | e; exact hgX _ hb.ref.now.own e.symm; exact hgX _ hb.ref.told.own e.symm).trans hg1
  have hbel : RowKit.Below B w w2 := hb1.trans (ht2.below (fun k hk => by rcases hk with e | e; rw [e]; exact hX _ hb.ref.now.own; rw [e]; exact hX _ hb.ref.told.own) hB1)
  refine ⟨rfl, hg2, hbel, ?_⟩
  have hx : (tx l).length ≤ 60 := by rw [tx_length, hr.len]; exact hn
  unfold VS.putR at hv1
  by_cases e0 : putE l l' = 0
  · rw [if_pos e0] at hv1
    rw [if_pos e0, if_pos e0] at hr2
    exact ⟨X, p, q, r, _, _, _, _, hb.turn hv1 hr2 ht1' ht2 (hb.link.put (tx l) l'), hs.put hx l', hX, hw.trans hbel⟩
  · rw [if_neg e0] at hv1
    rw [if_neg e0, if_neg e0] at hr2
    exact ⟨X, p, q, r, _, _, _, _, hb.turn hv1 hr2 ht1' ht2 hb.link, hs.more, hX, hw.trans hbel⟩
theorem PlayAt.delete {g : Nat} (h : PlayAt w0 B j g v m c x w) (hj : j ≤ 60) (hB : B ≤ w.heap.size) {A : Option Addr} {n k : Nat} {l : List Int} (hr : RB w B A n l) (hn : n ≤ 60) (hk : n ≤ k) :
    ∃ is : Bool, Calls Tryz.prog 10 #[.pointer (some ⟨v, 0, none⟩), .slice A n k] w fun e w1 => e = .returned (.bool is) ∧ RowKit.Below B w w1 ∧ w1.heap[g]? = w.heap[g]? ∧
    Calls Tryz.prog 11 #[.pointer (some ⟨x, 0, none⟩), .slice A n k] w1 fun e w2 => e = .returned (.bool is) ∧ w2.heap[g]? = w.heap[g]? ∧ RowKit.Below B w w2 ∧ PlayInv w0 B (j + 1) v m c x w2 := by
  obtain ⟨X, p, q, r, S, a, b, d, hb, hs, hX, hw, hgX, hg⟩ := h
  refine ⟨(S.now (tx l)).isSome, (vDelete_any hb.view hr hB (by unfold maxLen; omega) (Nat.lt_of_le_of_lt hs.c (by unfold maxLen; omega))).mono ?_⟩
  rintro e w1 ⟨rfl, hv1, ht1⟩
  have ht1' : Touch (fun k => k = m ∨ k = c) w w1 := ⟨ht1.os, ht1.tape, ht1.output, ht1.size, fun k hk hn => ht1.block k hk fun e => hn (.inr e)⟩
  have hb1 : RowKit.Below B w w1 := ht1.below (fun k hk => by rw [hk]; exact hX _ hb.view.xc) hB
  have hB1 := Nat.le_trans hB ht1.size
  have hg1 : w1.heap[g]? = w.heap[g]? := ht1.block g hg fun e => hgX _ hb.view.xc e.symm
  refine ⟨rfl, hb1, hg1, (refDelete_any (hb.afterView ht1') (Nat.le_trans hs.b (by omega)) (Nat.le_trans hs.d (by omega)) (sv_of (hr.below hb1) hB1 hX hk (by omega))).mono ?_⟩
  rintro e w2 ⟨rfl, hr2, ht2⟩
  have hg2 : w2.heap[g]? = w.heap[g]? := (ht2.block g (Nat.lt_of_lt_of_le hg ht1.size) fun e => by rcases e with e | e; exact hgX _ hb.ref.now.own e.symm; exact hgX _ hb.ref.told.own e.symm).trans hg1
  have hbel : RowKit.Below B w w2 := hb1.trans (ht2.below (fun k hk => by rcases hk with e | e; rw [e]; exact hX _ hb.ref.now.own; rw [e]; exact hX _ hb.ref.told.own) hB1)
  have hx : (tx l).length ≤ 60 := by rw [tx_length, hr.len]; exact hn
  exact ⟨by rw [hb.link.now], hg2, hbel, X, p, q, r, _, _, _, _, hb.turn hv1 hr2 ht1' ht2 (hb.link.del (tx l)), hs.del hx, hX, hw.trans hbel⟩
end

end Go.Proofs.YteogpohhnnjbmaaGreat
