/-
  The program's settle by contract, at the two function values that it is called with. No condition.
-/
import Derived.Test.YtkpopdoigkcpgaaDevG
namespace Go.Proofs.Ytkpopdoigkcpgaa
open Go.RowKit
set_option linter.unusedVariables false

set_option maxHeartbeats 3200000 in
theorem settle_all (K : Nat → Bool) (J : World → Prop) (w : World) (F : Nat → Prop) (p : Addr) (S : DS) (h : DAt w F p S) (hJ0 : J w) (hJ : ∀ w1 w2 row, J w1 → w1.grownBy w2 row → (∀ x, row = some x → FN F w x) → J w2)
    (hf : ∀ (t : Nat) (w1 : World), t < S.pend.length → J w1 → Calls Try.prog 42 #[.int .i64 (t : Int)] w1 fun e w2 => e = .returned (.bool (K t)) ∧ Below w1.heap.size w1 w2) :
    Calls Try.prog 41 #[.pointer (some p), .func (.func 42) #[] #[]] w fun e w' => e = .returned (.tuple #[]) ∧ After F w w' p (S.settled K) := by
  obtain ⟨b, sb, fb, left, pv, sN, fN, sf, ff, rfl, hrow, hrest, harm, hok, hdom, hcnt, hFb, hlt, c0, c1, c2, c3, c4, c5, c6⟩ := h.parts
  have hnm := hok.size
  have hpl := pend_len_le hok
  obtain ⟨A, c, rfl, hc, hr⟩ := pend_reads hok hrest.pend
  have hM0 : Mid w F b sb fb left (.slice A S.pend.length c) S sN fN ff K J 0 w := ⟨hrow, ⟨sf, by rw [safeK_start]; exact hrest.keep (fun _ h _ => .inl h) (fun _ _ _ _ => rfl)⟩, Touch.refl F w, hJ0⟩
  have HM0 := Lib.hid hM0
  have HF := Lib.hid hf
  have HJ := Lib.hid hJ
  have HD := Lib.hid hdom
  clear h hrow hrest hdom hlt hf hJ hr hM0
  go_enter Try.func41, Try.ntmps41
  go_wp2
  go_loopw [11] (fun i wr => ∃ k : Nat, k ≤ S.pend.length ∧ i = .int .i64 k ∧ Hid (Mid w F b sb fb left (.slice A S.pend.length c) S sN fN ff K J k wr)) (fun i _ => S.pend.length - (intOf i).toNat)
  case atStart => exact ⟨0, Nat.zero_le _, rfl, HM0⟩
  case round =>
    obtain ⟨k, hk, rfl, hM⟩ := hrel
    by_cases hlt : k < S.pend.length
    · have hlt' : (k : Int) < (S.pend.length : Int) := by omega
      obtain ⟨i, hp⟩ : ∃ i, S.pend[k]? = some i := ⟨_, List.getElem?_eq_getElem hlt⟩
      obtain ⟨sf', hrr⟩ := hM.out.rest
      obtain ⟨A', c', e', _, hri⟩ := pend_reads hok hrr.pend
      cases e'
      obtain ⟨pb, po, rfl, _, hcell⟩ := hri.2.2 (by omega)
      have hck := hcell k hlt
      have hpi : (S.pending[k]?).getD 0 = (i : Int) := by
        unfold DS.pending
        rw [List.getElem?_map, hp]
        rfl
      rw [hpi] at hck
      have HP := Lib.hid hp
      have HC := Lib.hid (HF.out k wr hlt hM.out.inv)
      clear hrr hcell hri hpi hp
      by_cases hKk : K k = true
      · have HKk := Lib.hid hKk
        clear hKk
        go_wp2_with fail
        refine HC.out.mono ?_
        rw [HKk.out]
        rintro e w2 ⟨rfl, hb2⟩
        have hM2 := hM.out.below HJ.out hb2
        obtain ⟨v, w3, q1, q2, hM3⟩ := Mid.hit (w1 := w2.drew) HJ.out hFb hok HD.out hcnt (hM2.drew HJ.out) HKk.out HP.out
        have d3 : w2.drew.cell? ⟨b, 3, none⟩ = some (.map (some sb)) := hM2.row.cell (i := 3) (by decide)
        have d4 : w2.drew.cell? ⟨b, 4, none⟩ = some (.map (some fb)) := hM2.row.cell (i := 4) (by decide)
        clear hM2 hb2 hck c0 c1 c2 c3 c4 c5 c6
        go_wp2_with fail
        go_region
        all_goals (go_wp2; go_roundw; (case rel => exact ⟨k + 1, by omega, by go_num, hM3⟩); (case measure => simp [intOf]; omega))
      · have HKk := Lib.hid (show K k = false by simpa using hKk)
        clear hKk
        go_wp2_with fail
        refine HC.out.mono ?_
        rw [HKk.out]
        rintro e w2 ⟨rfl, hb2⟩
        have hM3 := Lib.hid ((hM.out.below HJ.out hb2).skip HKk.out)
        clear hb2 hck c0 c1 c2 c3 c4 c5 c6
        go_wp2
        go_roundw
        case rel => exact ⟨k + 1, by omega, by go_num, hM3⟩
        case measure => simp [intOf]; omega
    · obtain rfl : k = S.pend.length := by omega
      obtain ⟨sf', hrr⟩ := hM.out.rest
      have hm := hrr.freshM
      have d4 : wr.cell? ⟨b, 4, none⟩ = some (.map (some fb)) := hM.out.row.cell (i := 4) (by decide)
      have hAn : A = none → S.pend.length = 0 ∧ c = 0 := fun e => by
        subst e
        rcases hrr.pend.2 with ⟨e1, e2⟩ | ⟨g, cap, cur, e1, _⟩
        · exact ⟨e2, by injection e1⟩
        · cases e1
      obtain ⟨w5, hrun5, hm5, hg5⟩ := hm.clear_ Try.underlying59 0
      obtain ⟨d5, f5, HE⟩ := Mid.fin (w2 := w5) hFb hok harm hcnt hM.out hm5 hg5 hAn
      clear hrr hM hm5 hg5 hm c0 c1 c2 c3 c4 c5 c6
      rcases A with _ | ad
      · obtain ⟨h0, rfl⟩ := hAn rfl
        have H0 := Lib.hid h0
        clear h0 hAn
        go_wp2
        go_end0
        exact ⟨rfl, HE.out⟩
      · clear hAn
        go_wp2
        go_end0
        exact ⟨rfl, HE.out⟩


set_option maxHeartbeats 3200000 in
theorem settle_in (pc : Nat) (K : Nat → Bool) (J : World → Prop) (w : World) (F : Nat → Prop) (p : Addr) (S : DS) (h : DAt w F p S) (hJ0 : J w) (hJ : ∀ w1 w2 row, J w1 → w1.grownBy w2 row → (∀ x, row = some x → FN F w x) → J w2)
    (hf : ∀ (t : Nat) (w1 : World), t < S.pend.length → J w1 → Calls Try.prog 50 #[.int .i64 (t : Int), .pointer (some ⟨pc, 0, none⟩)] w1 fun e w2 => e = .returned (.bool (K t)) ∧ Below w1.heap.size w1 w2) :
    Calls Try.prog 41 #[.pointer (some p), .func (.func 50) #[] #[.pointer (some ⟨pc, 0, none⟩)]] w fun e w' => e = .returned (.tuple #[]) ∧ After F w w' p (S.settled K) := by
  obtain ⟨b, sb, fb, left, pv, sN, fN, sf, ff, rfl, hrow, hrest, harm, hok, hdom, hcnt, hFb, hlt, c0, c1, c2, c3, c4, c5, c6⟩ := h.parts
  have hnm := hok.size
  have hpl := pend_len_le hok
  obtain ⟨A, c, rfl, hc, hr⟩ := pend_reads hok hrest.pend
  have hM0 : Mid w F b sb fb left (.slice A S.pend.length c) S sN fN ff K J 0 w := ⟨hrow, ⟨sf, by rw [safeK_start]; exact hrest.keep (fun _ h _ => .inl h) (fun _ _ _ _ => rfl)⟩, Touch.refl F w, hJ0⟩
  have HM0 := Lib.hid hM0
  have HF := Lib.hid hf
  have HJ := Lib.hid hJ
  have HD := Lib.hid hdom
  clear h hrow hrest hdom hlt hf hJ hr hM0
  go_enter Try.func41, Try.ntmps41
  go_wp2
  go_loopw [11] (fun i wr => ∃ k : Nat, k ≤ S.pend.length ∧ i = .int .i64 k ∧ Hid (Mid w F b sb fb left (.slice A S.pend.length c) S sN fN ff K J k wr)) (fun i _ => S.pend.length - (intOf i).toNat)
  case atStart => exact ⟨0, Nat.zero_le _, rfl, HM0⟩
  case round =>
    obtain ⟨k, hk, rfl, hM⟩ := hrel
    by_cases hlt : k < S.pend.length
    · have hlt' : (k : Int) < (S.pend.length : Int) := by omega
      obtain ⟨i, hp⟩ : ∃ i, S.pend[k]? = some i := ⟨_, List.getElem?_eq_getElem hlt⟩
      obtain ⟨sf', hrr⟩ := hM.out.rest
      obtain ⟨A', c', e', _, hri⟩ := pend_reads hok hrr.pend
      cases e'
      obtain ⟨pb, po, rfl, _, hcell⟩ := hri.2.2 (by omega)
      have hck := hcell k hlt
      have hpi : (S.pending[k]?).getD 0 = (i : Int) := by
        unfold DS.pending
        rw [List.getElem?_map, hp]
        rfl
      rw [hpi] at hck
      have HP := Lib.hid hp
      have HC := Lib.hid (HF.out k wr hlt hM.out.inv)
      clear hrr hcell hri hpi hp
      by_cases hKk : K k = true
      · have HKk := Lib.hid hKk
        clear hKk
        go_wp2_with fail
        refine HC.out.mono ?_
        rw [HKk.out]
        rintro e w2 ⟨rfl, hb2⟩
        have hM2 := hM.out.below HJ.out hb2
        obtain ⟨v, w3, q1, q2, hM3⟩ := Mid.hit (w1 := w2.drew) HJ.out hFb hok HD.out hcnt (hM2.drew HJ.out) HKk.out HP.out
        have d3 : w2.drew.cell? ⟨b, 3, none⟩ = some (.map (some sb)) := hM2.row.cell (i := 3) (by decide)
        have d4 : w2.drew.cell? ⟨b, 4, none⟩ = some (.map (some fb)) := hM2.row.cell (i := 4) (by decide)
        clear hM2 hb2 hck c0 c1 c2 c3 c4 c5 c6
        go_wp2_with fail
        go_region
        all_goals (go_wp2; go_roundw; (case rel => exact ⟨k + 1, by omega, by go_num, hM3⟩); (case measure => simp [intOf]; omega))
      · have HKk := Lib.hid (show K k = false by simpa using hKk)
        clear hKk
        go_wp2_with fail
        refine HC.out.mono ?_
        rw [HKk.out]
        rintro e w2 ⟨rfl, hb2⟩
        have hM3 := Lib.hid ((hM.out.below HJ.out hb2).skip HKk.out)
        clear hb2 hck c0 c1 c2 c3 c4 c5 c6
        go_wp2
        go_roundw
        case rel => exact ⟨k + 1, by omega, by go_num, hM3⟩
        case measure => simp [intOf]; omega
    · obtain rfl : k = S.pend.length := by omega
      obtain ⟨sf', hrr⟩ := hM.out.rest
      have hm := hrr.freshM
      have d4 : wr.cell? ⟨b, 4, none⟩ = some (.map (some fb)) := hM.out.row.cell (i := 4) (by decide)
      have hAn : A = none → S.pend.length = 0 ∧ c = 0 := fun e => by
        subst e
        rcases hrr.pend.2 with ⟨e1, e2⟩ | ⟨g, cap, cur, e1, _⟩
        · exact ⟨e2, by injection e1⟩
        · cases e1
      obtain ⟨w5, hrun5, hm5, hg5⟩ := hm.clear_ Try.underlying59 0
      obtain ⟨d5, f5, HE⟩ := Mid.fin (w2 := w5) hFb hok harm hcnt hM.out hm5 hg5 hAn
      clear hrr hM hm5 hg5 hm c0 c1 c2 c3 c4 c5 c6
      rcases A with _ | ad
      · obtain ⟨h0, rfl⟩ := hAn rfl
        have H0 := Lib.hid h0
        clear h0 hAn
        go_wp2
        go_end0
        exact ⟨rfl, HE.out⟩
      · clear hAn
        go_wp2
        go_end0
        exact ⟨rfl, HE.out⟩


end Go.Proofs.Ytkpopdoigkcpgaa
