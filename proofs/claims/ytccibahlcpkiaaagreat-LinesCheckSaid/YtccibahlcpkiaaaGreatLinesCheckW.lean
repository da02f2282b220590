/-
  Both views behind some calls of NewFund, and the walk of LinesCheck: it returns true. No condition beyond those that the statement itself says.
-/
import Derived.Test.YtccibahlcpkiaaaGreatLinH
import Derived.Test.YtccibahlcpkiaaaGreatLinS
import Derived.Test.YtccibahlcpkiaaaGreatSeqG
namespace Go.Proofs.YtccibahlcpkiaaaGreat
open Go.RowKit Go.Maps
set_option maxRecDepth 100000
set_option linter.unusedVariables false

theorem SmallS.scanL {S : VS} {a b d : TL} {j : Nat} (h : SmallS S a b d j) (hj : j ≤ 32767) : ScanOk S :=
  ⟨by rw [h.w]; decide, (fun p hp => by rw [h.w] at hp; cases hp), Nat.le_trans h.c hj, fun p hp => Nat.le_trans (h.kc p hp) (by decide)⟩
section
variable {w w0 : World} {v m c x B j : Nat}
/-- NewFund at both. -/
theorem SeqInv.fundBoth (h : SeqInv w0 B j v m c x w) (hj : j ≤ 100) (hB : B ≤ w.heap.size) (f : Int) (hf : -9223372036854775808 ≤ f ∧ f ≤ 9223372036854775807) :
    Calls Tryz.prog 9 #[.pointer (some ⟨v, 0, none⟩), .int .i64 f, .string { data := #[97] }] w fun e w1 => ∃ k : Int, e = .returned (.int .i64 k) ∧
      Calls Tryz.prog 10 #[.pointer (some ⟨x, 0, none⟩), .int .i64 f, .string { data := #[97] }] w1 fun e w2 => ∃ k : Int, e = .returned (.int .i64 k) ∧ SeqInv w0 B (j + 1) v m c x w2 ∧ w.heap.size ≤ w2.heap.size := by
  obtain ⟨X, p, q, r, S, a, b, d, hb, hs, hX, hw⟩ := h
  refine (newFund_any hb.view (hs.scanL (by omega)) f hf lwA (by decide)).mono ?_
  rintro e1 w1 ⟨rfl, hv1, ht1⟩
  have ht1' : Touch (fun k => k = m ∨ k = c) w w1 := ⟨ht1.os, ht1.tape, ht1.output, ht1.size, fun k hk hn => ht1.block k hk fun e => hn (.inr e)⟩
  have hb1 : RowKit.Below B w w1 := ht1.below (fun k hk => by rw [hk]; exact hX _ hb.view.xc) hB
  refine ⟨_, rfl, (rNewFund_any (hb.afterView ht1') (Nat.le_trans hs.b (by omega)) (Nat.le_trans hs.d (by omega)) f hf).mono ?_⟩
  rintro e2 w2 ⟨rfl, hr2, ht2⟩
  have hbel : RowKit.Below B w w2 := hb1.trans (ht2.below (fun k hk => by rcases hk with e | e; rw [e]; exact hX _ hb.ref.now.own; rw [e]; exact hX _ hb.ref.told.own) (Nat.le_trans hB ht1.size))
  have hsz : w.heap.size ≤ w2.heap.size := Nat.le_trans ht1.size ht2.size
  refine ⟨_, rfl, ?_, hsz⟩
  have hnow : lookT b (tx (keyL 70 [f])) = S.now (tx (keyL 70 [f])) := hb.link.now _
  have hfl : rFundsL b = fundsL S := by unfold rFundsL fundsL VS.scan; rw [hb.link.nowL]
  have hE : rFundE b f = newFundE S f lwA := by
    unfold rFundE newFundE
    rw [hnow, hfl, show nameB lwA = true from by decide +kernel, Bool.and_true]
  rw [hE] at hr2
  unfold newFund at hv1
  have hx : (tx (keyL 70 [f])).length ≤ 60 := by rw [tx_length, keyLen1]; omega
  generalize newFundE S f lwA = k at hv1 hr2
  by_cases e0 : k = 0
  · rw [if_pos e0] at hv1
    rw [if_pos e0, if_pos e0] at hr2
    exact ⟨X, p, q, r, _, _, _, _, hb.turn hv1 hr2 ht1' ht2 (hb.link.put _ _), hs.put hx _, hX, hw.trans hbel⟩
  · rw [if_neg e0] at hv1
    rw [if_neg e0, if_neg e0] at hr2
    exact ⟨X, p, q, r, _, _, _, _, hb.turn hv1 hr2 ht1' ht2 hb.link, hs.more, hX, hw.trans hbel⟩
/-- Check at both. -/
theorem SeqInv.check (h : SeqInv w0 B j v m c x w) (hj : j ≤ 100) (hB : B ≤ w.heap.size) {A : Option Addr} {n k : Nat} {l : List Ln} (hr : RL w0 B A n l) (hn : n ≤ 2147483647) (hnk : n ≤ k) :
    ∃ z : Int, Calls Tryz.prog 11 #[.pointer (some ⟨v, 0, none⟩), .slice A n k] w fun e w1 => e = .returned (.int .i64 z) ∧ RowKit.Below w.heap.size w w1 ∧
      Calls Tryz.prog 12 #[.pointer (some ⟨x, 0, none⟩), .slice A n k] w1 fun e w2 => e = .returned (.int .i64 z) ∧ RowKit.Below w.heap.size w w2 := by
  obtain ⟨X, p, q, r, S, a, b, d, hb, hs, hX, hw⟩ := h
  have hr1 : RL w B A n l := hr.below hw
  refine ⟨checkE S l, (linesCheckP_any hb.view hr1 hB hn hnk).mono ?_⟩
  rintro e1 w1 ⟨rfl, hb1⟩
  have ht : checkT b l = checkE S l := by
    unfold checkT checkE
    have : (fun x => !thereT b x) = fun x => !thereB S x := by
      funext y
      unfold thereT thereB
      rw [hb.link.now, hb.link.now]
    rw [this]
  have hR := refCheckL_any (hb.ref.below hb1) (Nat.le_trans hs.b (by omega)) (hr1.below (hb1.mono hB)) (Nat.le_trans hB hb1.size) hn hnk
  rw [ht] at hR
  exact ⟨rfl, hb1, hR.mono fun e w2 q => ⟨q.1, hb1.trans (q.2.mono hb1.size)⟩⟩
end
set_option maxHeartbeats 400000 in
theorem fewLc_any (A : Option Addr) (n k : Nat) (w : World) : Calls Tryz.prog 5 #[.slice A n k] w fun e w' => e = .returned (.bool (decide (n ≤ 30))) ∧ w = w' := by
  by_cases h : n ≤ 30
  · rw [decide_eq_true h]
    have hn : (n : Int) ≤ 30 := by omega
    go_enter Tryz.func5, Tryz.ntmps5
    go_wp2
    go_ret
    exact ⟨rfl, rfl⟩
  · rw [decide_eq_false h]
    have hn : ¬ (n : Int) ≤ 30 := by omega
    go_enter Tryz.func5, Tryz.ntmps5
    go_wp2
    go_ret
    exact ⟨rfl, rfl⟩
section
variable {w w' : World} {A A' : Option Addr} {n k n' k' : Nat} {l : List Ln} {fs : List Int}
set_option maxHeartbeats 3200000 in
theorem linesCheck_any (hi : RI w w.heap.size A n fs) (hnk : n ≤ k) (hm : n ≤ maxLen) (hr : RL w w.heap.size A' n' l) (hnk' : n' ≤ k') (hm' : n' ≤ maxLen) : Calls Tryz.prog 3 #[.slice A n k, .slice A' n' k'] w fun e w' => e = .returned (.bool true) ∧ Below w.heap.size w w' := by
  have HF := Lib.hid (fewLc_any A' n' k' w)
  by_cases hn : n' ≤ 30
  · rw [decide_eq_true hn] at HF
    by_cases h20 : 20 < n
    · have h20' : (n : Int) > 20 := by omega
      have HAW := Lib.hid (linAwake_any w)
      clear hr hi
      go_enter Tryz.func3, Tryz.ntmps3
      go_wp2_with fail
      refine HF.out.mono ?_
      rintro e w' ⟨rfl, rfl⟩
      go_wp2_with fail
      refine HAW.out.mono ?_
      rintro e w7 ⟨rfl, hb7⟩
      have HW7 := Lib.hid hb7
      clear hb7
      go_wp2
      go_ret
      exact ⟨rfl, HW7.out⟩
    · have h20' : ¬ (n : Int) > 20 := by omega
      have HI := Lib.hid hi
      have HR := Lib.hid hr
      have HN := Lib.hid (vNew_any w (fun _ => False) (fun k h => h.elim))
      clear hr hi
      go_enter Tryz.func3, Tryz.ntmps3
      go_wp2_with fail
      refine HF.out.mono ?_
      rintro e w' ⟨rfl, rfl⟩
      go_wp2_with fail
      refine HN.out.mono ?_
      rintro e w2 ⟨v, m, c, rfl, h2, hb2, hv, hm, hc⟩
      have HV := Lib.hid (And.intro h2 (And.intro hv (And.intro hm hc)))
      have HB2 := Lib.hid hb2
      clear h2 hb2 hv hm hc HF HN
      go_wp2_with fail
      refine (refNew_nil w2).mono ?_
      rintro e w3 ⟨rfl, hx, b3⟩
      have HP : Hid (SeqInv w3 w.heap.size 0 v m c (w2.heap.size + 3) w3) := Lib.hid (seq_start HV.out.1 hx b3 HV.out.2.1 HV.out.2.2.1 HV.out.2.2.2 HB2.out.size)
      have HB3 := Lib.hid (HB2.out.trans (b3.mono HB2.out.size))
      generalize w2.heap.size + 3 = x at HP ⊢
      clear hx b3 HV HB2
      go_wp2_with fail
      go_loopw [22] (fun i wr => ∃ j : Nat, j ≤ n ∧ i = .int .i64 j ∧ Hid (SeqInv w3 w.heap.size j v m c x wr ∧ w.heap.size ≤ wr.heap.size)) (fun i _ => n - (intOf i).toNat)
      case atStart => exact ⟨0, Nat.zero_le _, rfl, Lib.hid ⟨HP.out, HB3.out.size⟩⟩
      case round =>
        obtain ⟨j, hj, rfl, HS⟩ := hrel
        obtain ⟨hs, hsz⟩ := HS.out
        by_cases hlt : j < n
        · have hlt' : (j : Int) < (n : Int) := by omega
          obtain ⟨b, off, rfl, hbB, hat⟩ := HI.out.2.2 (by omega)
          obtain ⟨f, hf⟩ : ∃ f, fs[j]? = some f := ⟨_, List.getElem?_eq_getElem (by rw [HI.out.len]; exact hlt)⟩
          have hfr := HI.out.2.1 f (List.mem_of_getElem? hf)
          have c0 := hat j hlt
          rw [hf] at c0
          simp only [Option.getD_some] at c0
          have c0' : wr.cell? ⟨b, off + j, none⟩ = some (.int .i64 f) := (hs.was.cell (p := ⟨b, off + j, none⟩) hbB).trans ((HB3.out.cell (p := ⟨b, off + j, none⟩) hbB).trans c0)
          have HNF := Lib.hid (hs.fundBoth (by omega) hsz f hfr)
          have HSZ := Lib.hid hsz
          clear hs hsz hat hf hfr c0 HS
          go_wp2_with fail
          refine HNF.out.mono ?_
          rintro e w4 ⟨z1, rfl, hcall⟩
          have HC := Lib.hid hcall
          clear hcall HNF
          go_wp2_with fail
          refine HC.out.mono ?_
          rintro e w5 ⟨z2, rfl, hs5, hsz5⟩
          have HS5 := Lib.hid (And.intro hs5 (Nat.le_trans HSZ.out hsz5))
          clear hs5 hsz5 HC
          go_wp2
          go_roundw
          case rel => exact ⟨j + 1, by omega, by go_num, HS5⟩
          case measure => simp [intOf]; omega
        · obtain rfl : j = n := by omega
          obtain ⟨z, hchk⟩ := hs.check (k := k') (by omega) hsz (HR.out.below HB3.out) (by omega) hnk'
          have HCK := Lib.hid hchk
          have HB := Lib.hid (HB3.out.trans hs.was)
          clear hs hsz HS hchk
          go_wp2_with fail
          refine HCK.out.mono ?_
          rintro e w4 ⟨rfl, hb4, hcall⟩
          have HC := Lib.hid hcall
          clear hb4 hcall HCK
          go_wp2_with fail
          refine HC.out.mono ?_
          rintro e w5 ⟨rfl, hb5⟩
          have hb05 := HB.out.trans (hb5.mono HB.out.size)
          have HFU := Lib.hid (funds_any (k := k') (HR.out.below hb05) hb05.size (by omega))
          have HL := Lib.hid (And.intro (fundLn_ok (fundsOf_in l HR.out.ok)) (show ((fundsOf l).map fundLn).length ≤ 30 by rw [List.length_map]; have := fundsOf_len l; have := HR.out.len; omega))
          have HB5 := Lib.hid hb05
          have hzz : (z == z) = true := by simp
          clear hb5 hb05 HC
          go_wp2_with fail
          refine HFU.out.mono ?_
          rintro e w6 ⟨u6, rfl, ho6, hb6⟩
          have hb06 := HB5.out.trans (hb6.mono HB5.out.size)
          have HRF := Lib.hid (refFunds_any (k := k') (HR.out.below hb06) hb06.size (by omega))
          have HO6 := Lib.hid (And.intro ho6 hb06)
          clear ho6 hb6 hb06 HFU
          go_wp2_with fail
          refine HRF.out.mono ?_
          rintro e w7 ⟨u7, rfl, ho7, hb7⟩
          have ho6 := HO6.out.1.below hb7
          have hb07 := HO6.out.2.trans (hb7.mono HO6.out.2.size)
          obtain ⟨F, hF⟩ : ∃ F, F = (fundsOf l).map fundLn := ⟨_, rfl⟩
          rw [← hF] at ho6 ho7 HL
          obtain ⟨A6, c6, rfl, hc6⟩ := ho6.shape
          obtain ⟨A7, c7, rfl, hc7⟩ := ho7.shape
          have hr6 := (ho6.read HL.out.1).2.2
          have hr7 := (ho7.read HL.out.1).2.2
          have HEQ := Lib.hid (EqualLn_any c6 c7 hr6 hr7 (by have := HL.out.2; unfold maxLen; omega) (by have := HL.out.2; unfold maxLen; omega) (Nat.le_refl _) (Nat.le_refl _))
          rw [decide_eq_true rfl] at HEQ
          have HB7 := Lib.hid hb07
          clear ho6 ho7 hr6 hr7 hb7 hb07 hc6 hc7 HRF hF
          go_wp2_with fail
          refine HEQ.out.mono ?_
          rintro e w8 ⟨rfl, hb8⟩
          have hb08 := HB7.out.trans (hb8.mono HB7.out.size)
          have HE1 := Lib.hid (linesEqual_any (k := k') (HR.out.below hb08) hb08.size (by omega))
          have HB8 := Lib.hid hb08
          have HE2 := Lib.hid (fun W (hW : Below w8.heap.size w8 W) => refEqual_any (k := k') (HR.out.below (hb08.trans (hW.mono hb08.size))) (Nat.le_trans hb08.size hW.size) (by omega))
          generalize evenF (fundsOf l) = ev at HE1 HE2
          have hev : (ev == ev) = true := by simp
          clear hb8 hb08 HEQ
          go_wp2_with fail
          refine HE1.out.mono ?_
          rintro e w9 ⟨rfl, hb9⟩
          have HE3 := Lib.hid (HE2.out w9 hb9)
          have HB9 := Lib.hid (HB8.out.trans (hb9.mono HB8.out.size))
          clear hb9 HE1 HE2
          go_wp2_with fail
          refine HE3.out.mono ?_
          rintro e w10 ⟨rfl, hb10⟩
          have HB10 := Lib.hid (HB9.out.trans (hb10.mono HB9.out.size))
          have HAW := Lib.hid (linAwake_any w10)
          clear hb10 HE3
          go_wp2_with fail
          refine HAW.out.mono ?_
          rintro e w11 ⟨rfl, hb11⟩
          have HW11 := Lib.hid (HB10.out.trans (hb11.mono HB10.out.size))
          clear hb11
          go_wp2
          go_ret
          exact ⟨rfl, HW11.out⟩
  · rw [decide_eq_false hn] at HF
    have HAW := Lib.hid (linAwake_any w)
    go_enter Tryz.func3, Tryz.ntmps3
    go_wp2_with fail
    refine HF.out.mono ?_
    rintro e w' ⟨rfl, rfl⟩
    go_wp2_with fail
    refine HAW.out.mono ?_
    rintro e w7 ⟨rfl, hb7⟩
    have HW7 := Lib.hid hb7
    clear hb7
    go_wp2
    go_ret
    exact ⟨rfl, HW7.out⟩
end
end Go.Proofs.YtccibahlcpkiaaaGreat
