/-
  Both views behind j calls of Put, Set, Next: what each round does. No condition beyond what each says.
-/
import Derived.Test.YtccibahlcpkiaaaGreatSeqS
namespace Go.Proofs.YtccibahlcpkiaaaGreat
open Go.RowKit Go.Maps
set_option maxRecDepth 100000
set_option linter.unusedVariables false

/-- Behind j calls, none of them a commit. -/
structure SmallS (S : VS) (a b d : TL) (j : Nat) : Prop where
  c : S.C.length ≤ j
  b : b.length ≤ j
  d : d.length ≤ j
  w : S.W = []
  kc : ∀ p ∈ S.C, p.1.length ≤ 60
section
variable {S : VS} {a b d : TL} {j : Nat}
theorem SmallS.start : SmallS ⟨[], []⟩ [] [] [] 0 := ⟨Nat.le_refl _, Nat.le_refl _, Nat.le_refl _, rfl, fun p (h : p ∈ ([] : List (Txt × Option (List Int)))) => absurd h List.not_mem_nil⟩
theorem SmallS.more (h : SmallS S a b d j) : SmallS S a b d (j + 1) := ⟨Nat.le_succ_of_le h.c, Nat.le_succ_of_le h.b, Nat.le_succ_of_le h.d, h.w, h.kc⟩
theorem SmallS.put (h : SmallS S a b d j) {x : Txt} (hx : x.length ≤ 60) (v : List Int) : SmallS (S.put x v) a (setT b x v) (setT d x []) (j + 1) :=
  ⟨Nat.le_trans (setT_len _ _ _) (Nat.succ_le_succ h.c), Nat.le_trans (setT_len _ _ _) (Nat.succ_le_succ h.b), Nat.le_trans (setT_len _ _ _) (Nat.succ_le_succ h.d), h.w, fun p hp => by
    rcases mem_setT hp with rfl | hp
    · exact hx
    · exact h.kc p hp⟩
end
theorem TabAt.wider0_ {w : World} {X X' : Nat → Prop} {t : Nat} (h : TabAt w X t []) (hx : ∀ k, X k → X' k) : TabAt w X' t [] := by
  obtain ⟨A, n, c, h1, h2, h3⟩ := h
  exact ⟨A, n, c, h1, hx _ h2, h3.1, h3.2.1, fun hn => by have := h3.2.1; simp at this; omega⟩
theorem sv_of_ {w : World} {B : Nat} {X : Nat → Prop} {A : Option Addr} {n k : Nat} {l : List Int} (hr : RB w B A n l) (hB : B ≤ w.heap.size) (hX : ∀ k, X k → B ≤ k) (hk : n ≤ k) (hn : n ≤ 140737488355328) : SV w X (.slice A n k) l :=
  ⟨A, n, k, rfl, hk, hn, ⟨hr.1, hr.2.1, fun hn => by
    obtain ⟨b, o, e, hb, h⟩ := hr.2.2 hn
    exact ⟨b, o, e, Nat.lt_of_lt_of_le hb hB, h⟩⟩, fun a ha hp hx => by
    obtain ⟨b, o, e, hb, _⟩ := hr.2.2 hp
    rw [ha] at e
    cases e
    exact absurd (hX b hx) (Nat.not_le.2 hb)⟩

/-- Both views behind j calls; their own blocks lie from B on. -/
def SeqInv (w0 : World) (B j : Nat) (v m c x : Nat) (w : World) : Prop :=
  ∃ (X : Nat → Prop) (p q r : Nat) (S : VS) (a b d : TL), Both w X v m c x p q r S a b d ∧ SmallS S a b d j ∧ (∀ k, X k → B ≤ k) ∧ RowKit.Below B w0 w
section
variable {w w0 : World} {v m c x B j : Nat}
theorem SeqInv.below {w' : World} (h : SeqInv w0 B j v m c x w) (hB : B ≤ w.heap.size) (h2 : RowKit.Below w.heap.size w w') : SeqInv w0 B j v m c x w' := by
  obtain ⟨X, p, q, r, S, a, b, d, hb, hs, hX, hw⟩ := h
  exact ⟨X, p, q, r, S, a, b, d, hb.below h2, hs, hX, hw.trans (h2.mono hB)⟩
theorem SeqInv.was (h : SeqInv w0 B j v m c x w) : RowKit.Below B w0 w := by
  obtain ⟨X, p, q, r, S, a, b, d, hb, hs, hX, hw⟩ := h
  exact hw
theorem seq_start {w1 w2 : World} {v m c x p q r B : Nat} (hv : ViewAt w1 (fun k => False ∨ k = v ∨ k = m ∨ k = c) v m c ⟨[], []⟩) (hr : RefAt w2 (fun k => w1.heap.size ≤ k ∧ k < w2.heap.size) x p q r [] [] []) (hb : RowKit.Below w1.heap.size w1 w2)
    (h1 : B ≤ v) (h2 : B ≤ m) (h3 : B ≤ c) (h4 : B ≤ w1.heap.size) : SeqInv w2 B 0 v m c x w2 := by
  have hV : ViewAt w2 (fun k => (k = v ∨ k = m ∨ k = c) ∨ (w1.heap.size ≤ k ∧ k < w2.heap.size)) v m c ⟨[], []⟩ :=
    hv.keep hb.size (fun k hk hn he => by
      rcases he with he | he
      · exact hn (.inr he)
      · omega) (fun k hk => by
      rcases hk with hk | hk
      · exact hk.elim
      · exact .inl hk) (fun k hk => by
      rcases hk with hk | hk
      · exact Nat.lt_of_lt_of_le (hv.lt k (.inr hk)) hb.size
      · exact hk.2) (fun k hk _ => hb.block k hk)
  have hR : RefAt w2 (fun k => (k = v ∨ k = m ∨ k = c) ∨ (w1.heap.size ≤ k ∧ k < w2.heap.size)) x p q r [] [] [] :=
    ⟨hr.me, .inr hr.own, hr.was.wider0_ fun k hk => .inr hk, hr.now.wider0_ fun k hk => .inr hk, hr.told.wider0_ fun k hk => .inr hk, hr.apart, hV.lt⟩
  refine ⟨_, p, q, r, _, _, _, _, ⟨hV, hR, Link.start, fun i hi => ?_⟩, SmallS.start, fun k hk => ?_, RowKit.Below.refl _ _⟩
  · have hi1 := hv.lt i (.inr hi)
    have e1 := hr.own.1
    have e2 := hr.was.own.1
    have e3 := hr.now.own.1
    have e4 := hr.told.own.1
    omega
  · rcases hk with (hk | hk | hk) | hk
    · omega
    · omega
    · omega
    · omega
end
end Go.Proofs.YtccibahlcpkiaaaGreat
