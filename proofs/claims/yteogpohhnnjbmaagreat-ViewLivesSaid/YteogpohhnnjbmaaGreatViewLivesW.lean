/-
  The walk of the statement on a view of no store: both views are made, and do any calls alike. No condition.
-/
import Derived.Test.YteogpohhnnjbmaaGreatPlay
import Derived.Test.YteogpohhnnjbmaaGreatViewG
namespace Go.Proofs.YteogpohhnnjbmaaGreat
open Go.RowKit Go.Maps
set_option maxRecDepth 100000
set_option linter.unusedVariables false

theorem TabAt.wider0 {w : World} {X X' : Nat → Prop} {t : Nat} (h : TabAt w X t []) (hx : ∀ k, X k → X' k) : TabAt w X' t [] := by
  obtain ⟨A, n, c, h1, h2, h3⟩ := h
  exact ⟨A, n, c, h1, hx _ h2, h3.1, h3.2.1, fun hn => by have := h3.2.1; simp at this; omega⟩

/-- Both views, just made, say the same. -/
theorem play_start {w1 w2 : World} {v m c x p q r B : Nat} (hv : ViewAt w1 (fun k => False ∨ k = v ∨ k = m ∨ k = c) v m c ⟨[], []⟩) (hr : RefAt w2 (fun k => w1.heap.size ≤ k ∧ k < w2.heap.size) x p q r [] [] []) (hb : RowKit.Below w1.heap.size w1 w2)
    (h1 : B ≤ v) (h2 : B ≤ m) (h3 : B ≤ c) (h4 : B ≤ w1.heap.size) : PlayInv w2 B 0 v m c x w2 := by
  have hV : ViewAt w2 (fun k => (k = v ∨ k = m ∨ k = c) ∨ (w1.heap.size ≤ k ∧ k < w2.heap.size)) v m c ⟨[], []⟩ :=
    hv.keep hb.size (fun k hk hn he => by
      rcases he with he | he
      · exact hn (.inr he)
      · omega) (fun k hk => by
      rcases hk with hk | hk
      · exact hk.elim
      · exact .inl hk) (fun k hk => by
      rcases hk with hk | hk
      · exact Nat.lt_of_lt_of_le (hv.lt k (.inr hk)) hb.size
      · exact hk.2) (fun k hk _ => hb.block k hk)
  have hR : RefAt w2 (fun k => (k = v ∨ k = m ∨ k = c) ∨ (w1.heap.size ≤ k ∧ k < w2.heap.size)) x p q r [] [] [] :=
    ⟨hr.me, .inr hr.own, hr.was.wider0 fun k hk => .inr hk, hr.now.wider0 fun k hk => .inr hk, hr.told.wider0 fun k hk => .inr hk, hr.apart, hV.lt⟩
  refine ⟨_, p, q, r, _, _, _, _, ⟨hV, hR, Link.start, fun i hi => ?_⟩, Small.start, fun k hk => ?_, RowKit.Below.refl _ _⟩
  · have hi1 := hv.lt i (.inr hi)
    have e1 := hr.own.1
    have e2 := hr.was.own.1
    have e3 := hr.now.own.1
    have e4 := hr.told.own.1
    omega
  · rcases hk with (hk | hk | hk) | hk
    · omega
    · omega
    · omega
    · omega

set_option maxHeartbeats 1600000 in
theorem viewLives_walk {w : World} {A : Option Addr} {n k : Nat} {ds : List Do14} (hr : RDos14 w w.heap.size A n ds) (hc : n ≤ k ∧ n ≤ maxLen) :
    Calls Tryz.prog 3 #[.slice A n k] w fun e w' => e = .returned (.bool true) ∧ Below w.heap.size w w' := by
  have HR := Lib.hid hr
  have HM := Lib.hid hc.2
  clear hr hc
  go_enter Tryz.func3, Tryz.ntmps3
  go_wp2_with fail
  refine (vNew_any w (fun _ => False) (fun _ h => h.elim)).mono ?_
  rintro e w1 ⟨v, m, c, rfl, hv, b1, l1, l2, l3⟩
  have HV := Lib.hid hv
  have HL := Lib.hid (And.intro l1 (And.intro l2 l3))
  have HB1 := Lib.hid b1
  clear hv b1 l1 l2 l3
  go_wp2_with fail
  refine (refNew_nil w1).mono ?_
  rintro e w2 ⟨rfl, hx, b2⟩
  have HP := Lib.hid (play_start HV.out hx b2 HL.out.1 HL.out.2.1 HL.out.2.2 HB1.out.size)
  have HB2 := Lib.hid (HB1.out.trans (b2.mono HB1.out.size))
  clear hx b2
  go_wp2_with fail
  refine (play_any HP.out (HR.out.below HB2.out) HB2.out.size HM.out).mono ?_
  rintro e w3 ⟨rfl, b3⟩
  have HB3 := Lib.hid (HB2.out.trans b3)
  clear b3
  go_wp2_with fail
  refine (vAwake_any _).mono ?_
  rintro e w4 ⟨rfl, b4⟩
  have HB4 := Lib.hid (HB3.out.trans (b4.mono HB3.out.size))
  clear b4
  go_wp2_with fail
  go_ret
  exact ⟨rfl, HB4.out⟩
end Go.Proofs.YteogpohhnnjbmaaGreat
