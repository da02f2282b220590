/-
  The texts LawP31, LawA31 joined. Conditions: those that each part says at its head.
-/
import Derived.Test.YtlcbmobdokicaaaGreatDuo
import Derived.Test.YtlcbmobdokicaaaGreatPreO
import Derived.Test.YtlcbmobdokicaaaGreatCtlR
import Derived.Test.YtlcbmobdokicaaaGreatYrD
import Derived.Test.YtlcbmobdokicaaaGreatPreD

/-
  What the law of pre begins with, and how it ends a call: both views. No condition beyond what each says.
-/
namespace Go.Proofs.YtlcbmobdokicaaaGreat
open Go.RowKit Go.Maps
set_option maxRecDepth 100000
set_option linter.unusedVariables false

section
variable {w w' w0 : World} {v m c x B N : Nat} {Y Z : Nat → Prop} {S T : VS}
set_option maxHeartbeats 3200000 in
theorem end31_any (h : Duo Y w0 B N v m c x S T w) (hB : B ≤ w.heap.size) (hN : N ≤ 32767) (e : Int) (he : e = 0 → T = S) :
    Calls Tryz.prog 14 #[.pointer (some ⟨v, 0, none⟩), .pointer (some ⟨x, 0, none⟩), .int .i64 e] w fun u w' => u = .returned (.bool true) ∧ (∃ U, (e = 0 → U = S.commit) ∧ (e ≠ 0 → U = S.abort) ∧ Duo Y w0 B N v m c x U U w') ∧ KeptB Y B w w' := by
  by_cases h0 : e = 0
  · have hTS := he h0
    subst hTS h0
    have HC := Lib.hid (h.commit hB hN)
    have HB := Lib.hid hB
    clear h hB he
    go_enter Tryz.func14, Tryz.ntmps14
    go_wp2_with fail
    refine HC.out.mono ?_
    rintro u w1 ⟨rfl, hc⟩
    have HC1 := Lib.hid hc
    clear hc HC
    go_wp2_with fail
    refine HC1.out.mono ?_
    rintro u w2 ⟨rfl, h2, k2⟩
    have HS := Lib.hid (h2.same hN)
    have HE := Lib.hid (show ∀ W, Below w2.heap.size w2 W → (∃ U, ((0 : Int) = 0 → U = T.commit) ∧ ((0 : Int) ≠ 0 → U = T.abort) ∧ Duo Y w0 B N v m c x U U W) ∧ KeptB Y B w W from fun W hW =>
      ⟨⟨_, fun _ => rfl, fun h => absurd rfl h, h2.below (Nat.le_trans HB.out k2.size) hW⟩, k2.trans (KeptB.of_below h2.old (Nat.le_trans HB.out k2.size) hW)⟩)
    clear h2 k2 HC1
    go_wp2_with fail
    refine HS.out.mono ?_
    rintro u w3 ⟨rfl, h3⟩
    have HE3 := Lib.hid (HE.out w3 h3)
    clear h3 HE HS
    go_wp2_with fail
    go_ret
    exact ⟨rfl, HE3.out⟩
  · have k1 : (e == 0) = false := by simp [h0]
    have HC := Lib.hid (h.abort hB)
    have HB := Lib.hid hB
    have H0 := Lib.hid h0
    clear h hB he h0
    go_enter Tryz.func14, Tryz.ntmps14
    go_wp2_with fail
    refine HC.out.mono ?_
    rintro u w1 ⟨rfl, hc⟩
    have HC1 := Lib.hid hc
    clear hc HC
    go_wp2_with fail
    refine HC1.out.mono ?_
    rintro u w2 ⟨rfl, h2, k2⟩
    have HS := Lib.hid (h2.same hN)
    have HE := Lib.hid (show ∀ W, Below w2.heap.size w2 W → (∃ U, (e = 0 → U = S.commit) ∧ (e ≠ 0 → U = S.abort) ∧ Duo Y w0 B N v m c x U U W) ∧ KeptB Y B w W from fun W hW =>
      ⟨⟨_, fun h => absurd h H0.out, fun _ => rfl, h2.below (Nat.le_trans HB.out k2.size) hW⟩, k2.trans (KeptB.of_below h2.old (Nat.le_trans HB.out k2.size) hW)⟩)
    clear h2 k2 HC1
    go_wp2_with fail
    refine HS.out.mono ?_
    rintro u w3 ⟨rfl, h3⟩
    have HE3 := Lib.hid (HE.out w3 h3)
    clear h3 HE HS
    go_wp2_with fail
    go_ret
    exact ⟨rfl, HE3.out⟩
theorem ryOpenS_any {X : Nat → Prop} {p q r : Nat} {a : TL} (h : RefS w X x p q r a S N) (hN : N ≤ 1000000000) (n : Int) (hn : Nd64 n) :
    Calls Tryz.prog 34 #[.pointer (some ⟨x, 0, none⟩), .int .i64 n] w fun e w' => e = .returned (.int .i64 (openE (S.now (yKey n)) n)) ∧ RefS w' X x p q r a (S.open_ n) (N + 1) ∧ Touch (fun k => k = q ∨ k = r) w w' := by
  obtain ⟨b, d, h1, h2, h3, h4⟩ := h
  have := ryOpen_any h1 (Nat.le_trans h3 (by omega)) (Nat.le_trans h4 (by omega)) n hn
  rw [h2.now] at this
  refine this.mono ?_
  rintro e w' ⟨rfl, h5, h6⟩
  refine ⟨rfl, ?_, h6⟩
  unfold VS.open_
  by_cases e0 : openE (S.now (yKey n)) n = 0
  · rw [if_pos e0, if_pos e0] at h5
    rw [if_pos e0]
    exact ⟨_, _, h5, h2.put _ _, Nat.le_trans (setT_len _ _ _) (Nat.succ_le_succ h3), Nat.le_trans (setT_len _ _ _) (Nat.succ_le_succ h4)⟩
  · rw [if_neg e0, if_neg e0] at h5
    rw [if_neg e0]
    exact ⟨_, _, h5, h2, Nat.le_succ_of_le h3, Nat.le_succ_of_le h4⟩
/-- What begun leaves. -/
def Begun (w w' : World) (S : VS) (N : Nat) (u : Ending) : Prop :=
  ∃ v m c x, u = .returned (.tuple #[.pointer (some ⟨v, 0, none⟩), .pointer (some ⟨x, 0, none⟩)]) ∧ Duo (fun _ => False) w w.heap.size N v m c x S S w'
set_option maxHeartbeats 6400000 in
theorem begun31_any {w : World} {A : Option Addr} {n cap : Nat} {l : List Nd} (hr : NdE.R w w.heap.size A n l) (hn : n ≤ 1000) :
    Calls Tryz.prog 9 #[.slice A n cap] w fun u w' => Begun w w' (begunS l) (2 + 2 * n) u := by
  have HR := Lib.hid hr
  have HN := Lib.hid (vNew_any w (fun _ => False) (fun k h => h.elim))
  have HM := Lib.hid (fun W => refNew_nil W)
  clear hr
  go_enter Tryz.func9, Tryz.ntmps9
  go_wp2_with fail
  refine HN.out.mono ?_
  rintro u w1 ⟨v, m, c, rfl, h1, hb1, hv, hm, hc⟩
  have HM1 := Lib.hid (HM.out w1)
  have H1 := Lib.hid (And.intro h1 (And.intro hb1 (And.intro hv (And.intro hm hc))))
  clear h1 hb1 hv hm hc HN HM
  go_wp2_with fail
  refine HM1.out.mono ?_
  rintro u w2 ⟨rfl, h2, hb2⟩
  obtain ⟨x, hx⟩ : ∃ x, x = w1.heap.size + 3 := ⟨_, rfl⟩
  rw [← hx] at h2 ⊢
  obtain ⟨h1, hb1, hv, hm, hc⟩ := H1.out
  have hd2 := duo_start h1 h2 hb2 hv hm hc hb1.size
  have hbw := hb1.trans (hb2.mono hb1.size)
  have hD : Duo (fun _ => False) w w.heap.size 0 v m c x ⟨[], []⟩ ⟨[], []⟩ w2 := by
    obtain ⟨X, p, q, r, a, z1, z2, z3, z4, z5, z6, z7, z8, z9⟩ := hd2
    exact ⟨X, p, q, r, a, z1, z2, z3, z4, z5, z6, z7, z8, hbw⟩
  have HO := Lib.hid (hD.view (M := 1) (S' := yearS) (P := fun e _ => e = .returned (.int .i64 (openE ((⟨[], []⟩ : VS).now (yKey 2020)) 2020))) hbw.size (fun _ => many_yearS) rfl (by omega) (fun X hX hmx _ => (yOpen_any hX 2020 (by omega) (by show 0 < maxLen; unfold maxLen; omega)).mono fun e w' ⟨a, b, c⟩ => ⟨a, by rw [yearS_is] at b; exact b, c⟩))
  rw [yearS_open] at HO
  have HBW := Lib.hid hbw.size
  clear h1 hb1 hv hm hc hd2 hbw hD h2 hb2 hx H1 HM1
  go_wp2_with fail
  refine HO.out.mono ?_
  rintro u w3 ⟨rfl, h3, k3⟩
  have HO2 := Lib.hid (h3.ref (M := 2) (P := fun e _ T' => e = .returned (.int .i64 0) ∧ T' = yearS) (Nat.le_trans HBW.out k3.size) (by omega) (fun X p q r a hX hmx hB => (ryOpenS_any hX (by omega) 2020 (by unfold Nd64; omega)).mono fun e w' ⟨a, b, c⟩ => ⟨yearS, ⟨by rw [a, yearS_open], rfl⟩, by rw [yearS_is] at b; exact b, many_yearS.more (by omega), rfl, c⟩))
  have HK3 := Lib.hid (Nat.le_trans HBW.out k3.size)
  clear h3 k3 HO HBW
  go_wp2_with fail
  refine HO2.out.mono ?_
  rintro u w4 ⟨T', ⟨rfl, rfl⟩, h4, k4⟩
  have H0 := Lib.hid (show Duo (fun _ => False) w w.heap.size (2 + 2 * 0) v m c x (begunS (l.take 0)) (begunS (l.take 0)) w4 ∧ w.heap.size ≤ w4.heap.size from ⟨h4, Nat.le_trans HK3.out k4.size⟩)
  clear h4 k4 HO2 HK3
  go_wp2_with fail
  go_loopw [16] (fun iv wr => ∃ j : Nat, j ≤ n ∧ iv = .int .i64 j ∧ Hid (Duo (fun _ => False) w w.heap.size (2 + 2 * j) v m c x (begunS (l.take j)) (begunS (l.take j)) wr ∧ w.heap.size ≤ wr.heap.size)) (fun iv _ => n - (intOf iv).toNat)
  case atStart => exact ⟨0, Nat.zero_le _, rfl, H0⟩
  case round =>
    clear H0
    obtain ⟨j, hj, rfl, HJ⟩ := hrel
    by_cases hlt : j < n
    · have hlt' : (j : Int) < (n : Int) := by omega
      have hj0 : (0 : Int) ≤ (j : Int) := by omega
      obtain ⟨hdj, hwr⟩ := HJ.out
      obtain ⟨z, hz⟩ : ∃ z, l[j]? = some z := ⟨_, List.getElem?_eq_getElem (by rw [HR.out.len]; exact hlt)⟩
      have hzok := HR.out.ok z (List.mem_of_getElem? hz)
      obtain ⟨b, off, rfl, hb, hat⟩ := nd_at (HR.out.below hdj.was) hz
      obtain ⟨c0, c1, c2, c3, c4, c5, c6, c7, c8, c9, c10, c11⟩ := ndAt hat
      obtain ⟨wb, hwb⟩ : ∃ wb, wb = wr.alloc (.cells #[.int .i64 2020, .int .i64 z.i, .int .i64 z.p, .int .i64 z.f, .int .i64 z.o, .bool z.ab, .int .i64 z.li, .int .i64 z.pr, .int .i64 z.en, .int .i64 z.ex, .int .i64 z.la, .int .i64 z.ca] 41 (0, 0)) := ⟨_, rfl⟩
      have hbb : Below wr.heap.size wr wb := by rw [hwb]; exact (Below.refl _ _).alloc (Nat.le_refl _) _
      have hblk : wb.heap[wr.heap.size]? = some (.cells #[.int .i64 2020, .int .i64 z.i, .int .i64 z.p, .int .i64 z.f, .int .i64 z.o, .bool z.ab, .int .i64 z.li, .int .i64 z.pr, .int .i64 z.en, .int .i64 z.ex, .int .i64 z.la, .int .i64 z.ca] 41 (0, 0)) := by rw [hwb]; exact heap_alloc_new wr _
      have hsz : wb.heap.size = wr.heap.size + 1 := by rw [hwb]; simp
      have hown := hdj.own (Z := fun k => k = wr.heap.size) hwr hbb (fun k hk => .inr (by rw [hk]; omega))
      have HP := Lib.hid (hown.view (M := 3 + 2 * j) (S' := (begunS (l.take j)).putN (at20 z)) (P := fun e _ => e = .returned (.int .i64 0)) (Nat.le_trans hwr hbb.size) (fun hms => (hms.put (by rw [nKy_len]; omega) _).more (by omega)) rfl (by omega) (fun X hX hmx _ => (treePut_any hX (at20 z) (at20_ok hzok) (by have := hmx.len; unfold maxLen; omega)).mono fun e w' ⟨a, b, c⟩ => ⟨a, b, c⟩))
      have HBK := Lib.hid (show ∀ W, KeptB (fun k => k = wr.heap.size) w.heap.size wb W → W.heap[wr.heap.size]? = some (.cells #[.int .i64 2020, .int .i64 z.i, .int .i64 z.p, .int .i64 z.f, .int .i64 z.o, .bool z.ab, .int .i64 z.li, .int .i64 z.pr, .int .i64 z.en, .int .i64 z.ex, .int .i64 z.la, .int .i64 z.ca] 41 (0, 0)) ∧ w.heap.size ≤ W.heap.size from fun W hW => ⟨(hW.1 _ rfl).trans hblk, Nat.le_trans (Nat.le_trans hwr hbb.size) hW.size⟩)
      have HOK := Lib.hid (at20_ok hzok)
      have HST := Lib.hid (begunS_take hz)
      clear hdj hwr hz hzok hb hat hbb hblk hsz hown HJ
      go_wp2_with fail
      rw [← hwb]
      clear hwb c0 c1 c2 c3 c4 c5 c6 c7 c8 c9 c10 c11
      refine HP.out.mono ?_
      rintro u w5 ⟨rfl, h5, k5⟩
      obtain ⟨hk5, hs5⟩ := HBK.out w5 k5
      obtain ⟨y0, y1, y2, y3, y4, y5, y6, y7, y8, y9, y10, y11⟩ := node_cells hk5
      have HQ := Lib.hid (h5.ref (M := 4 + 2 * j) (P := fun e _ T' => e = .returned (.int .i64 0) ∧ T' = (begunS (l.take j)).putN (at20 z)) hs5 (by omega) (fun X p q r a hX hmx hB => by
        have hPN := hmx.put (x := nKy (at20 z).y (at20 z).i) (by rw [nKy_len]; omega) (ndVal (at20 z))
        refine (rPutS_any hX (by omega) (at20 z) HOK.out).mono ?_
        rintro e w' ⟨rfl, q1, q2⟩
        exact ⟨_, ⟨rfl, rfl⟩, q1.more (by omega), hPN.more (by omega), rfl, q2⟩))
      clear h5 k5 HP hk5
      go_wp2_with fail
      refine HQ.out.mono ?_
      rintro u w6 ⟨T', ⟨rfl, rfl⟩, h6, k6⟩
      have HJ := Lib.hid (show Duo (fun _ => False) w w.heap.size (2 + 2 * (j + 1)) v m c x (begunS (l.take (j + 1))) (begunS (l.take (j + 1))) w6 ∧ w.heap.size ≤ w6.heap.size from ⟨by
        rw [HST.out, show 2 + 2 * (j + 1) = 4 + 2 * j by omega]
        exact h6.own (Nat.le_trans hs5 k6.size) (Below.refl _ _) (fun k hk => hk.elim), Nat.le_trans hs5 k6.size⟩)
      clear h6 k6 HQ y0 y1 y2 y3 y4 y5 y6 y7 y8 y9 y10 y11 HST HOK HBK hs5
      go_wp2_with fail
      go_roundw
      case rel => exact ⟨j + 1, by omega, by go_num, HJ⟩
      case measure => simp [intOf]; omega
    · obtain rfl : j = n := by omega
      have htk : l.take j = l := List.take_of_length_le (by have := HR.out.len; omega)
      have hdj := HJ.out.1
      rw [htk] at hdj
      have HE := Lib.hid (show Begun w wr (begunS l) (2 + 2 * j) (.returned (.tuple #[.pointer (some ⟨v, 0, none⟩), .pointer (some ⟨x, 0, none⟩)])) from ⟨v, m, c, x, rfl, hdj⟩)
      clear hdj HJ htk
      go_wp2_with fail
      go_ret2
      exact HE.out
end
end Go.Proofs.YtlcbmobdokicaaaGreat

/-
  The check of the law of pre: it returns true. No condition.
-/
namespace Go.Proofs.YtlcbmobdokicaaaGreat
open Go.RowKit Go.Maps
set_option maxRecDepth 100000
set_option linter.unusedVariables false

abbrev awN31 : Nd := ⟨0, 1, 0, 0, 0, false, 9, 0, 0, 0, 0, 0⟩
abbrev awL31 : Ln := ⟨0, 0, 1, 10⟩
theorem awN31_ok : NdOk awN31 := by intro v hv; simp only [List.mem_cons, List.not_mem_nil, or_false] at hv; rcases hv with rfl | rfl | rfl | rfl | rfl | rfl | rfl | rfl | rfl | rfl | rfl <;> omega
theorem awL31_ok : LnOk awL31 := ⟨⟨by decide, by decide⟩, ⟨by decide, by decide⟩, ⟨by decide, by decide⟩, ⟨by decide, by decide⟩⟩
theorem aw31_new : (preNew (begunS [awN31]) 2020 [awL31]).1 = (1, true, 0) := by decide +kernel
theorem aw31_len : (begunS [awN31]).C.length ≤ 100000 := by decide +kernel
theorem aw31_node : (nodeAt (preNew (begunS [awN31]) 2020 [awL31]).2 2020 1).map (fun n => n.pr) = some 10 := by decide +kernel
theorem aw31_none : preChk [] = 1 := by decide +kernel
/-- A line in a block of its own. -/
theorem line_lit {w : World} {W : World} {c : Nat} {x : Ln} {T : TypeId} (hx : LnOk x) (hc : c ≠ w.heap.size) (h : Touch (fun k => k = c) (w.alloc (.cells #[.int .i64 x.f, .int .i64 x.o, .int .i64 x.n, .int .i64 x.a] T)) W) : RL W W.heap.size (some ⟨w.heap.size, 0, none⟩) 1 [x] := by
  have hb : W.heap[w.heap.size]? = some (.cells #[.int .i64 x.f, .int .i64 x.o, .int .i64 x.n, .int .i64 x.a] T (0, 0)) := (h.block w.heap.size (by simp) (fun e => hc e.symm)).trans (heap_alloc_new w _)
  refine ⟨rfl, fun y hy => by obtain rfl := List.mem_singleton.1 hy; exact hx, fun _ => ⟨w.heap.size, 0, rfl, (Array.getElem?_eq_some_iff.1 hb).1, fun j y hy => ?_⟩⟩
  obtain ⟨hj, hy'⟩ := List.getElem?_eq_some_iff.1 hy
  have : j = 0 := by simp at hj; omega
  subst this
  cases hy
  exact ⟨cell_of_row W _ 0 _ _ (0, 0) hb, cell_of_row W _ 1 _ _ (0, 0) hb, cell_of_row W _ 2 _ _ (0, 0) hb, cell_of_row W _ 3 _ _ (0, 0) hb⟩
set_option maxHeartbeats 6400000 in
theorem awake31_any (w : World) : Calls Tryz.prog 8 #[] w fun e w' => e = .returned (.bool true) ∧ Below w.heap.size w w' := by
  obtain ⟨w1, hw1⟩ : ∃ w1, w1 = w.alloc (.cells #[.int .i64 0, .int .i64 1, .int .i64 0, .int .i64 0, .int .i64 0, .bool false, .int .i64 9, .int .i64 0, .int .i64 0, .int .i64 0, .int .i64 0, .int .i64 0] 41 (0, 0)) := ⟨_, rfl⟩
  have hb1 : Below w.heap.size w w1 := by rw [hw1]; exact (Below.refl _ _).alloc (Nat.le_refl _) _
  have hk1 : w1.heap[w.heap.size]? = some (.cells #[.int .i64 0, .int .i64 1, .int .i64 0, .int .i64 0, .int .i64 0, .bool false, .int .i64 9, .int .i64 0, .int .i64 0, .int .i64 0, .int .i64 0, .int .i64 0] 41 (0, 0)) := by rw [hw1]; exact heap_alloc_new w _
  have HBG := Lib.hid (begun31_any (cap := 1) (l := [awN31]) (Enc.R.one (E := NdE) (x := awN31) hk1 awN31_ok) (by omega))
  have HB1 := Lib.hid hb1
  clear hb1 hk1
  go_enter Tryz.func8, Tryz.ntmps8
  go_wp2_with fail
  rw [← hw1]
  clear hw1
  refine HBG.out.mono ?_
  rintro u w2 ⟨v, m, c, x, rfl, h2⟩
  have hb2 : Below w.heap.size w w2 := HB1.out.trans (h2.was.mono HB1.out.size)
  obtain ⟨X, hX⟩ := h2.view_
  have hcw := hX.lt c hX.xc
  obtain ⟨w3, hw3⟩ : ∃ w3, w3 = w2.alloc (.cells #[.int .i64 0, .int .i64 0, .int .i64 1, .int .i64 10] 43 (0, 0)) := ⟨_, rfl⟩
  have hb3 : Below w2.heap.size w2 w3 := by rw [hw3]; exact (Below.refl _ _).alloc (Nat.le_refl _) _
  have hcB : w.heap.size ≤ c := by
    obtain ⟨X', p, q, r, a, z1, z2, z3, z4, z5, z6, z7, z8, z9⟩ := h2
    exact Nat.le_trans HB1.out.size (z7 c z1.xc).1
  have HP := Lib.hid (preNew_any (cap := 1) (hX.below hb3) (y := 2020) (by unfold Nd64; omega) (l := [awL31]) (fun W hW => line_lit (w := w2) (x := awL31) awL31_ok (Nat.ne_of_lt hcw) (by rw [hw3] at hW; exact hW)) (Nat.le_refl 1) (by unfold maxLen; omega) aw31_len)
  rw [aw31_new] at HP
  have HB3 := Lib.hid (And.intro (hb2.trans (hb3.mono hb2.size)) (And.intro hcB hcw))
  clear h2 hX hb2 hb3 hcB hcw HBG HB1
  go_wp2_with fail
  rw [← hw3]
  clear hw3
  refine HP.out.mono ?_
  rintro u w4 ⟨rfl, h4, t4⟩
  have HG := Lib.hid (treeGet_any h4 2020 1 (by unfold Nd64; omega) (by unfold Nd64; omega))
  have hn := aw31_node
  generalize nodeAt (preNew (begunS [awN31]) 2020 [awL31]).2 2020 1 = o at HG hn
  obtain ⟨z, rfl, hz⟩ := Option.map_eq_some_iff.1 hn
  have HB4 := Lib.hid (show Below w.heap.size w w4 from HB3.out.1.trans (t4.below (fun k hk => by rw [hk]; exact HB3.out.2.1) HB3.out.1.size))
  have HZ := Lib.hid hz
  clear h4 t4 hn hz HP HB3
  simp only [ndW, ndO, Option.getD_some] at HG
  go_wp2_with fail
  refine HG.out.mono ?_
  rintro u w5 ⟨rfl, _, h5⟩
  have hz := HZ.out
  obtain ⟨zy, zi, zp, zf, zo, zab, zli, zpr, zen, zex, zla, zca⟩ := z
  simp only at hz ⊢
  subst hz
  obtain ⟨w6, hw6⟩ : ∃ w6, w6 = w5.alloc (.cells #[.int .i64 zy, .int .i64 zi, .int .i64 zp, .int .i64 zf, .int .i64 zo, .bool zab, .int .i64 zli, .int .i64 10, .int .i64 zen, .int .i64 zex, .int .i64 zla, .int .i64 zca] 41 (0, 0)) := ⟨_, rfl⟩
  have hb6 : Below w5.heap.size w5 w6 := by rw [hw6]; exact (Below.refl _ _).alloc (Nat.le_refl _) _
  have HC := Lib.hid (preCheck_any (w := w6) (A := none) (ps := []) 0 (RL.nil_ (w := w6) (B := 0)) (Nat.zero_le _) (Nat.zero_le _))
  rw [aw31_none] at HC
  have h45 := HB4.out.trans (h5.mono HB4.out.size)
  have HB6 := Lib.hid (h45.trans (hb6.mono h45.size))
  clear h5 hb6 h45 HG HZ HB4
  go_wp2_with fail
  rw [← hw6]
  clear hw6
  refine HC.out.mono ?_
  rintro u w7 ⟨rfl, h7⟩
  have HE := Lib.hid (HB6.out.trans (h7.mono HB6.out.size))
  clear h7 HC HB6
  go_wp2_with fail
  go_ret
  exact ⟨rfl, HE.out⟩
end Go.Proofs.YtlcbmobdokicaaaGreat
