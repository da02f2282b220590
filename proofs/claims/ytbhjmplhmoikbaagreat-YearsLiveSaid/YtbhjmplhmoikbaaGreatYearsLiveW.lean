/-
  YearsLive by the walk: it returns true. Condition: what came in are pairs and calls, as the statement opens them.
-/
import Derived.Test.YtbhjmplhmoikbaaGreatYrG
import Derived.Test.YtbhjmplhmoikbaaGreatFewK
import Derived.Test.YtbhjmplhmoikbaaGreatEqInts
namespace Go.Proofs.YtbhjmplhmoikbaaGreat
open Go.RowKit Go.Maps
set_option maxRecDepth 100000
set_option linter.unusedVariables false
set_option maxHeartbeats 6400000 in
theorem yearsLive_any {w : World} {A A' : Option Addr} {n cap n' cap' : Nat} {ps : List KV} {ds : List Do22} (hp : RPairs w w.heap.size A n ps) (hcap : n ≤ cap) (hn : n ≤ maxLen) (hr : RDos22 w w.heap.size A' n' ds) (hcap' : n' ≤ cap') (hn' : n' ≤ maxLen) :
    Calls Tryz.prog 4 #[.slice A n cap, .slice A' n' cap'] w fun e w' => e = .returned (.bool true) ∧ Below w.heap.size w w' := by
  have HF := Lib.hid (few_any 20 (by omega) cap hp hn (Nat.le_refl _))
  have few0 : Hid (fewN 20 ps = false → Calls Tryz.prog 4 #[.slice A n cap, .slice A' n' cap'] w fun e w' => e = .returned (.bool true) ∧ Below w.heap.size w w') := Lib.hid fun hb => by
    rw [hb] at HF
    clear hp hr
    go_enter Tryz.func4, Tryz.ntmps4
    go_wp2_with fail
    refine HF.out.mono ?_
    rintro e w1 ⟨rfl, hb1⟩
    have HB := Lib.hid hb1
    clear hb1
    go_wp2_with fail
    refine (yrAwake_any _).mono ?_
    rintro e w7 ⟨rfl, hb7⟩
    have HE := Lib.hid (HB.out.trans (hb7.mono HB.out.size))
    clear hb7 HB
    go_wp2
    go_ret
    exact ⟨rfl, HE.out⟩
  cases hb : fewN 20 ps with
  | false => exact few0.out hb
  | true =>
  clear few0
  rw [hb] at HF
  by_cases big : 60 < n'
  · have k1 : decide ((n' : Int) > 60) = true := decide_eq_true (by omega)
    clear hp hr
    go_enter Tryz.func4, Tryz.ntmps4
    go_wp2_with fail
    refine HF.out.mono ?_
    rintro e w1 ⟨rfl, hb1⟩
    have HB := Lib.hid hb1
    clear hb1
    go_wp2_with fail
    refine (yrAwake_any _).mono ?_
    rintro e w7 ⟨rfl, hb7⟩
    have HE := Lib.hid (HB.out.trans (hb7.mono HB.out.size))
    clear hb7 HB
    go_wp2
    go_ret
    exact ⟨rfl, HE.out⟩
  have k1 : decide ((n' : Int) > 60) = false := decide_eq_false (by omega)
  go_enter Tryz.func4, Tryz.ntmps4
  go_wp2_with fail
  refine HF.out.mono ?_
  rintro e w1 ⟨rfl, hb1⟩
  have HN := Lib.hid (vNew_any w1 (fun _ => False) (fun k h => h.elim))
  go_wp2_with fail
  refine HN.out.mono ?_
  rintro e w2 ⟨v, m, c, rfl, h2, hb2, hv, hm, hc⟩
  have HV := Lib.hid (And.intro h2 (And.intro hv (And.intro hm hc)))
  have HB2 := Lib.hid (And.intro hb1 (hb1.trans (hb2.mono hb1.size)))
  clear h2 hb1 hb2 hv hm hc HF HN
  go_wp2_with fail
  refine (refNew_nil w2).mono ?_
  rintro e w3 ⟨rfl, hx, b3⟩
  have HP : Hid (SeqInv w3 w.heap.size 0 v m c (w2.heap.size + 3) w3) := Lib.hid (seq_start HV.out.1 hx b3 (Nat.le_trans HB2.out.1.size HV.out.2.1) (Nat.le_trans HB2.out.1.size HV.out.2.2.1) (Nat.le_trans HB2.out.1.size HV.out.2.2.2) HB2.out.2.size)
  have HB3 := Lib.hid (HB2.out.2.trans (b3.mono HB2.out.2.size))
  generalize w2.heap.size + 3 = x at HP ⊢
  clear hx b3 HV HB2
  have HPS := Lib.hid (And.intro hp (fewN_is hb))
  have HRL := Lib.hid hr
  clear hp hr hb
  unfold maxLen at hn hn'
  go_wp2_with fail
  go_loopw [25] (fun i wr => ∃ k : Nat, k ≤ n ∧ i = .int .i64 k ∧ Hid (SeqInv w3 w.heap.size k v m c x wr ∧ w.heap.size ≤ wr.heap.size)) (fun i _ => n - (intOf i).toNat)
  case atStart => exact ⟨0, Nat.zero_le _, rfl, Lib.hid ⟨HP.out, HB3.out.size⟩⟩
  case round =>
    obtain ⟨k, hk, rfl, ho⟩ := hrel
    by_cases hlt : k < n
    · have hlt' : (k : Int) < (n : Int) := by omega
      obtain ⟨bb, off, rfl, hbb, hat⟩ := HPS.out.1.2 (by omega)
      obtain ⟨y, hy⟩ : ∃ y, ps[k]? = some y := ⟨_, List.getElem?_eq_getElem (by rw [HPS.out.1.len]; exact hlt)⟩
      have hbw : RowKit.Below w.heap.size w wr := HB3.out.trans ho.out.1.was
      obtain ⟨ka, kn, kc, va, vn, vc, h0, h1, h2, ⟨h3a, h3b⟩, h4, ⟨h5a, h5b⟩⟩ := (hat k y hy).keep hbb (fun b o hbb => hbw.cell (p := ⟨b, o, none⟩) hbb)
      obtain ⟨l1, l2⟩ := HPS.out.2.2 y (List.mem_of_getElem? hy)
      rw [h2.len] at l1
      rw [h4.len] at l2
      have hk20 : k ≤ 20 := by have := HPS.out.2.1; rw [HPS.out.1.len] at this; omega
      have HX := Lib.hid (ho.out.1.put (by omega) ho.out.2 h2 l1 h3a h4 l2 h5a (o := .cells #[.slice ka kn kc, .slice va vn vc] 42))
      have HSZ := Lib.hid ho.out.2
      clear hat hy h2 h4 l1 l2 hk20 hbw ho
      go_wp2_with fail
      refine HX.out.mono ?_
      rintro e w4 ⟨rfl, hg, hset⟩
      have q0 : w4.cell? ⟨wr.heap.size, 0, none⟩ = some (.slice ka kn kc) := cell_of_row _ _ 0 _ _ (0, 0) hg
      have q1 : w4.cell? ⟨wr.heap.size, 1, none⟩ = some (.slice va vn vc) := cell_of_row _ _ 1 _ _ (0, 0) hg
      have HY := Lib.hid hset
      clear hset hg h0 h1 HX
      go_wp2_with fail
      refine HY.out.mono ?_
      rintro e w5 ⟨rfl, hinv, hsz⟩
      have HE := Lib.hid (And.intro hinv (Nat.le_trans HSZ.out hsz))
      clear hinv hsz HY q0 q1
      go_wp2_with fail
      go_roundw
      case rel => exact ⟨k + 1, by omega, by go_num, HE⟩
      case measure => simp [intOf]; omega
    · obtain rfl : k = n := by omega
      have hk20 : k ≤ 20 := by have := HPS.out.2.1; rw [HPS.out.1.len] at this; exact this
      clear HP HPS
      go_wp2_with fail
      go_loopw [41] (fun i wq => ∃ k2 : Nat, k2 ≤ n' ∧ i = .int .i64 k2 ∧ Hid (SeqInv w3 w.heap.size (k + k2) v m c x wq ∧ w.heap.size ≤ wq.heap.size)) (fun i _ => n' - (intOf i).toNat)
      case atStart => exact ⟨0, Nat.zero_le _, rfl, ho⟩
      case round =>
        clear ho
        obtain ⟨k2, hk2, rfl, ho⟩ := hrel
        by_cases hlt : k2 < n'
        · have hlt' : (k2 : Int) < (n' : Int) := by omega
          have hbw : RowKit.Below w.heap.size w wr := HB3.out.trans ho.out.1.was
          obtain ⟨bb, off, rfl, hbb, hat⟩ := HRL.out.2 (by omega)
          obtain ⟨dd, _, hda⟩ := hat k2 hlt
          obtain ⟨d0, d1, o64, y64⟩ := hda.keep hbb (fun b o hbb => hbw.cell (p := ⟨b, o, none⟩) hbb)
          obtain ⟨op, z⟩ := dd
          have d0 : wr.cell? ⟨bb, off + k2 * 2, none⟩ = some (.int .i64 op) := d0
          have d1 : wr.cell? ⟨bb, off + k2 * 2 + 1, none⟩ = some (.int .i64 z) := d1
          have y64 : -9223372036854775808 ≤ z ∧ z ≤ 9223372036854775807 := y64
          obtain ⟨ko, hopen⟩ := ho.out.1.openY (by omega) ho.out.2 z y64 (o := .cells #[.int .i64 op, .int .i64 z] 46)
          obtain ⟨ks, hshut⟩ := ho.out.1.shutY (by omega) ho.out.2 z y64 (o := .cells #[.int .i64 op, .int .i64 z] 46)
          have HOP := Lib.hid hopen
          have HSH := Lib.hid hshut
          have HSZ := Lib.hid ho.out.2
          obtain ⟨g, hg⟩ : ∃ g, g = wr.heap.size := ⟨_, rfl⟩
          have HWG := Lib.hid hg
          obtain ⟨w4, hw4⟩ : ∃ w4, w4 = wr.alloc (.cells #[.int .i64 op, .int .i64 z] 46) := ⟨_, rfl⟩
          have q0 : w4.cell? ⟨g, 0, none⟩ = some (.int .i64 op) := by rw [hw4, hg]; exact cell_of_row _ _ 0 _ _ (0, 0) (heap_alloc_new wr _)
          have q1 : w4.cell? ⟨g, 1, none⟩ = some (.int .i64 z) := by rw [hw4, hg]; exact cell_of_row _ _ 1 _ _ (0, 0) (heap_alloc_new wr _)
          have HCE := Lib.hid (show ∀ W : World, W.heap[g]? = some (.cells #[.int .i64 op, .int .i64 z] 46 (0, 0)) → W.cell? ⟨g, 1, none⟩ = some (.int .i64 z) from fun W h => by rw [cell_of_row W g 1 _ _ (0, 0) h]; rfl)
          rw [← hw4, ← hg] at HOP HSH
          clear hat hda hbw hopen hshut ho o64
          by_cases hop : op = 0
          · subst hop
            go_wp2_with fail
            rw [← hg, ← hw4]
            go_wp2_with fail
            have q2 : w4.drew.cell? ⟨g, 1, none⟩ = some (.int .i64 z) := q1
            have hc1 := HOP.out
            clear d0 d1 q0 hw4 hg q1
            go_region_held3 (fun W => W.cell? ⟨g, 1, none⟩ = some (.int .i64 z))
              (first | with_reducible exact q4 | with_reducible exact q3 | exact q2)
              (first
                | (go_at_call 18; refine hc1.mono ?_; rintro e w5 ⟨rfl, g5, h5⟩; have q3 := HCE.out w5 g5)
                | (go_at_call 19; refine h5.mono ?_; rintro e w6 ⟨rfl, g6, hi6, hz6⟩; have q4 := HCE.out w6 g6))
            have HI := Lib.hid (And.intro hi6 (Nat.le_trans HSZ.out (show wr.heap.size ≤ w6.heap.size by rw [← HWG.out]; exact hz6)))
            obtain ⟨st, ck, t1, t2, t3, t4⟩ := hi6.tellY (by omega) z y64
            have HT := Lib.hid (And.intro t1 (And.intro t2 (And.intro t3 t4)))
            have q5 : w6.drew.cell? ⟨g, 1, none⟩ = some (.int .i64 z) := HCE.out w6 g6
            have hgl : g < w6.heap.size := (Array.getElem?_eq_some_iff.1 g6).1
            have HCW := Lib.hid (show ∀ W, RowKit.Below w6.heap.size w6 W → W.cell? ⟨g, 1, none⟩ = some (.int .i64 z) from fun W hW => (hW.cell (p := ⟨g, 1, none⟩) hgl).trans (HCE.out w6 g6))
            have hP : RowKit.Below w6.heap.size w6 w6.drew := (RowKit.Below.refl _ _).drew
            clear q2 q3 q4 hc1 g5 h5 g6 hi6 hz6 t1 t2 t3 t4 HOP HSH HWG HCE hgl
            go_wp2_with fail
            first
              | (go_region_held3 (fun W => W.cell? ⟨g, 1, none⟩ = some (.int .i64 z))
                  (first | with_reducible exact q5 | exact q5)
                  (first
                    | (go_at_call 22; refine (HT.out.1 _ hP).mono ?_; rintro e wa ⟨rfl, ba⟩; have hP := hP.trans (ba.mono hP.size); have q5 := HCW.out _ hP; clear ba)
                    | (go_at_call 23; refine (HT.out.2.1 _ hP).mono ?_; rintro e wb ⟨rfl, ba⟩; have hP := hP.trans (ba.mono hP.size); have q5 := HCW.out _ hP; clear ba)
                    | (go_at_call 24; refine (HT.out.2.2.1 _ hP).mono ?_; rintro e wc ⟨rfl, ba⟩; have hP := hP.trans (ba.mono hP.size); have q5 := HCW.out _ hP; clear ba)
                    | (go_at_call 25; refine (HT.out.2.2.2 _ hP).mono ?_; rintro e wd ⟨rfl, ba⟩; have hP := hP.trans (ba.mono hP.size); have q5 := HCW.out _ hP; clear ba)
                    | (go_at_call 26; refine (yRight_any z _).mono ?_; rintro e we ⟨rfl, rfl⟩)
                    | (go_at_call 27; refine (ryRight_any z _).mono ?_; rintro e wf ⟨rfl, rfl⟩)))
              | fail
            have HE := Lib.hid (show SeqInv w3 w.heap.size (k + (k2 + 1)) v m c x wd ∧ w.heap.size ≤ wd.heap.size from ⟨HI.out.1.below HI.out.2 hP, Nat.le_trans HI.out.2 hP.size⟩)
            clear hP q5 HCW HT HI
            go_wp2_with fail
            go_roundw
            case rel => exact ⟨k2 + 1, by omega, by go_num, HE⟩
            case measure => simp [intOf]; omega
          · have hop2 : (op == 0) = false := by simp [hop]
            clear hop
            go_wp2_with fail
            rw [← hg, ← hw4]
            go_wp2_with fail
            have q2 : w4.drew.cell? ⟨g, 1, none⟩ = some (.int .i64 z) := q1
            have hc1 := HSH.out
            clear d0 d1 q0 hw4 hg q1
            go_region_held3 (fun W => W.cell? ⟨g, 1, none⟩ = some (.int .i64 z))
              (first | with_reducible exact q4 | with_reducible exact q3 | exact q2)
              (first
                | (go_at_call 20; refine hc1.mono ?_; rintro e w5 ⟨rfl, g5, h5⟩; have q3 := HCE.out w5 g5)
                | (go_at_call 21; refine h5.mono ?_; rintro e w6 ⟨rfl, g6, hi6, hz6⟩; have q4 := HCE.out w6 g6))
            have HI := Lib.hid (And.intro hi6 (Nat.le_trans HSZ.out (show wr.heap.size ≤ w6.heap.size by rw [← HWG.out]; exact hz6)))
            obtain ⟨st, ck, t1, t2, t3, t4⟩ := hi6.tellY (by omega) z y64
            have HT := Lib.hid (And.intro t1 (And.intro t2 (And.intro t3 t4)))
            have q5 : w6.drew.cell? ⟨g, 1, none⟩ = some (.int .i64 z) := HCE.out w6 g6
            have hgl : g < w6.heap.size := (Array.getElem?_eq_some_iff.1 g6).1
            have HCW := Lib.hid (show ∀ W, RowKit.Below w6.heap.size w6 W → W.cell? ⟨g, 1, none⟩ = some (.int .i64 z) from fun W hW => (hW.cell (p := ⟨g, 1, none⟩) hgl).trans (HCE.out w6 g6))
            have hP : RowKit.Below w6.heap.size w6 w6.drew := (RowKit.Below.refl _ _).drew
            clear q2 q3 q4 hc1 g5 h5 g6 hi6 hz6 t1 t2 t3 t4 HOP HSH HWG HCE hgl
            go_wp2_with fail
            first
              | (go_region_held3 (fun W => W.cell? ⟨g, 1, none⟩ = some (.int .i64 z))
                  (first | with_reducible exact q5 | exact q5)
                  (first
                    | (go_at_call 22; refine (HT.out.1 _ hP).mono ?_; rintro e wa ⟨rfl, ba⟩; have hP := hP.trans (ba.mono hP.size); have q5 := HCW.out _ hP; clear ba)
                    | (go_at_call 23; refine (HT.out.2.1 _ hP).mono ?_; rintro e wb ⟨rfl, ba⟩; have hP := hP.trans (ba.mono hP.size); have q5 := HCW.out _ hP; clear ba)
                    | (go_at_call 24; refine (HT.out.2.2.1 _ hP).mono ?_; rintro e wc ⟨rfl, ba⟩; have hP := hP.trans (ba.mono hP.size); have q5 := HCW.out _ hP; clear ba)
                    | (go_at_call 25; refine (HT.out.2.2.2 _ hP).mono ?_; rintro e wd ⟨rfl, ba⟩; have hP := hP.trans (ba.mono hP.size); have q5 := HCW.out _ hP; clear ba)
                    | (go_at_call 26; refine (yRight_any z _).mono ?_; rintro e we ⟨rfl, rfl⟩)
                    | (go_at_call 27; refine (ryRight_any z _).mono ?_; rintro e wf ⟨rfl, rfl⟩)))
              | fail
            have HE := Lib.hid (show SeqInv w3 w.heap.size (k + (k2 + 1)) v m c x wd ∧ w.heap.size ≤ wd.heap.size from ⟨HI.out.1.below HI.out.2 hP, Nat.le_trans HI.out.2 hP.size⟩)
            clear hP q5 HCW HT HI
            go_wp2_with fail
            go_roundw
            case rel => exact ⟨k2 + 1, by omega, by go_num, HE⟩
            case measure => simp [intOf]; omega
        · obtain rfl : k2 = n' := by omega
          obtain ⟨l, N, hN, hA1, hA2⟩ := ho.out.1.allY (by omega)
          have HA1 := Lib.hid hA1
          have HA2 := Lib.hid hA2
          have HS := Lib.hid (show ∀ W, RowKit.Below wr.heap.size wr W → Calls Tryz.prog 31 #[.pointer (some ⟨v, 0, none⟩), .pointer (some ⟨x, 0, none⟩)] W fun e w' => e = .returned (.bool true) ∧ RowKit.Below w.heap.size w3 w' from fun W hW => (ho.out.1.below ho.out.2 hW).same (by omega) (Nat.le_trans ho.out.2 hW.size))
          clear ho hA1 hA2
          go_wp2_with fail
          refine (HA1.out _ (RowKit.Below.refl _ _)).mono ?_
          rintro e w5 ⟨A5, c5, rfl, hr5, hb5⟩
          have HR5 := Lib.hid hr5
          have HB5 := Lib.hid hb5
          clear hr5 hb5 HA1
          go_wp2_with fail
          refine (HA2.out _ HB5.out).mono ?_
          rintro e w6 ⟨A6, c6, rfl, hr6, hb6⟩
          have HEQ := Lib.hid ((EqualInts_any c5 c6 (HR5.out.below hb6) hr6 (by unfold maxLen; omega) (by unfold maxLen; omega) hb6.size (Nat.le_refl _)).mono (R' := fun e w' => e = .returned (.bool true) ∧ RowKit.Below w6.heap.size w6 w') fun e w' q => ⟨by rw [q.1, decide_eq_true rfl], q.2⟩)
          have HB6 := Lib.hid (HB5.out.trans (hb6.mono HB5.out.size))
          clear hr6 hb6 HA2 HB5 HR5
          go_wp2_with fail
          refine HEQ.out.mono ?_
          rintro e w7 ⟨rfl, hb7⟩
          have HS7 := Lib.hid (HS.out _ (HB6.out.trans (hb7.mono HB6.out.size)))
          clear hb7 HS HB6 HEQ
          go_wp2_with fail
          refine HS7.out.mono ?_
          rintro e w8 ⟨rfl, hb8⟩
          have H6 := Lib.hid (HB3.out.trans hb8)
          clear hb8 HS7
          go_wp2_with fail
          refine (yrAwake_any _).mono ?_
          rintro e w9 ⟨rfl, hb9⟩
          have HE := Lib.hid (H6.out.trans (hb9.mono H6.out.size))
          clear hb9 H6
          go_wp2_with fail
          go_ret
          exact ⟨rfl, HE.out⟩
end Go.Proofs.YtbhjmplhmoikbaaGreat
