/-
  The texts DocF, LawP32, LawA32, EncG, EncH, EncI joined. Conditions: those that each part says at its head.
-/
import Derived.Test.YtlcbmobdokicaaaGreatDocE
import Derived.BigQuiet
import Derived.Deep.QuietTactic
import Derived.Laws.StructEq
import Derived.Test.YtlcbmobdokicaaaGreatDuo
import Derived.Test.YtlcbmobdokicaaaGreatPreO
import Derived.Test.YtlcbmobdokicaaaGreatCtlR
import Derived.Test.YtlcbmobdokicaaaGreatEncF
import Derived.Test.YtlcbmobdokicaaaGreatPreG

/-
  Documents and their lines compared, as the program compares them. No condition but that lengths are ints.
-/
namespace Go.Proofs.YtlcbmobdokicaaaGreat
open Go.RowKit Go.Maps
set_option maxRecDepth 100000
set_option linter.unusedVariables false

theorem dc_ext {x y : Dc} (h0 : x.i = y.i) (h1 : x.k = y.k) (h2 : x.y = y.y) (h3 : x.f = y.f) (h4 : x.n = y.n) : x = y := by
  cases x; cases y; simp_all
theorem dc_all (x y : Dc) : (x = y) ↔ x.i = y.i ∧ x.k = y.k ∧ x.y = y.y ∧ x.f = y.f ∧ x.n = y.n :=
  ⟨fun h => by rw [h]; exact ⟨rfl, rfl, rfl, rfl, rfl⟩, fun ⟨h0, h1, h2, h3, h4⟩ => dc_ext h0 h1 h2 h3 h4⟩
instance dcDec : DecidableEq Dc := fun x y => decidable_of_iff _ (dc_all x y).symm
theorem same_dc (x y : Dc) (W : World) : (Op.equalIn 10000 66 (.agg (dcV x).toArray) (.agg (dcV y).toArray)).run Tryz.prog W = .ok (decide (x = y)) W := by
  have u3 := Tryz.underlying3
  have i3 := Tryz.isAgg3
  have z3 := Tryz.sizeOf3
  have hS : Tryz.prog.underlying 66 = some (.struct (Tryz.prog.fieldsOf 66)) := by kernel_rfl
  have hp : Tryz.prog.stoodInHeld 66 = false := by kernel_rfl
  obtain ⟨a0, a1, a2, a3, a4⟩ := x
  obtain ⟨b0, b1, b2, b3, b4⟩ := y
  have hd : decide ((⟨a0, a1, a2, a3, a4⟩ : Dc) = ⟨b0, b1, b2, b3, b4⟩) = (a0 == b0 && a1 == b1 && a2 == b2 && a3 == b3 && a4 == b4) := by
    rw [Bool.eq_iff_iff, decide_eq_true_iff, dc_all]
    simp only [Bool.and_eq_true, beq_iff_eq, and_assoc]
  rw [hd, show (10000 : Nat) = 9999 + 1 from rfl, run_equalIn_agg W 9999 66 _ _ hS hp]
  simp only [Program.fieldsOf, Tryz.underlying66, dcV]
  go_simp
  by_cases h0 : a0 = b0
  case neg => simp [h0]
  subst h0
  by_cases h1 : a1 = b1
  case neg => simp [h1]
  subst h1
  by_cases h2 : a2 = b2
  case neg => simp [h2]
  subst h2
  by_cases h3 : a3 = b3
  case neg => simp [h3]
  subst h3
  by_cases h4 : a4 = b4
  case neg => simp [h4]
  subst h4
  simp
theorem dl_ext {x y : Dl} (h0 : x.nd = y.nd) (h1 : x.o = y.o) (h2 : x.l = y.l) (h3 : x.c = y.c) : x = y := by
  cases x; cases y; simp_all
theorem dl_all (x y : Dl) : (x = y) ↔ x.nd = y.nd ∧ x.o = y.o ∧ x.l = y.l ∧ x.c = y.c :=
  ⟨fun h => by rw [h]; exact ⟨rfl, rfl, rfl, rfl⟩, fun ⟨h0, h1, h2, h3⟩ => dl_ext h0 h1 h2 h3⟩
instance dlDec : DecidableEq Dl := fun x y => decidable_of_iff _ (dl_all x y).symm
theorem same_dl (x y : Dl) (W : World) : (Op.equalIn 10000 58 (.agg (dlV x).toArray) (.agg (dlV y).toArray)).run Tryz.prog W = .ok (decide (x = y)) W := by
  have u3 := Tryz.underlying3
  have i3 := Tryz.isAgg3
  have z3 := Tryz.sizeOf3
  have hS : Tryz.prog.underlying 58 = some (.struct (Tryz.prog.fieldsOf 58)) := by kernel_rfl
  have hp : Tryz.prog.stoodInHeld 58 = false := by kernel_rfl
  obtain ⟨a0, a1, a2, a3⟩ := x
  obtain ⟨b0, b1, b2, b3⟩ := y
  have hd : decide ((⟨a0, a1, a2, a3⟩ : Dl) = ⟨b0, b1, b2, b3⟩) = (a0 == b0 && a1 == b1 && a2 == b2 && a3 == b3) := by
    rw [Bool.eq_iff_iff, decide_eq_true_iff, dl_all]
    simp only [Bool.and_eq_true, beq_iff_eq, and_assoc]
  rw [hd, show (10000 : Nat) = 9999 + 1 from rfl, run_equalIn_agg W 9999 58 _ _ hS hp]
  simp only [Program.fieldsOf, Tryz.underlying58, dlV]
  go_simp
  by_cases h0 : a0 = b0
  case neg => simp [h0]
  subst h0
  by_cases h1 : a1 = b1
  case neg => simp [h1]
  subst h1
  by_cases h2 : a2 = b2
  case neg => simp [h2]
  subst h2
  by_cases h3 : a3 = b3
  case neg => simp [h3]
  subst h3
  simp
theorem dlAt {w : World} {b off : Nat} {x : Dl} (h : DlE.At w b off x) : w.cell? ⟨b, off, none⟩ = some (.int .i64 x.nd) ∧ w.cell? ⟨b, off + 1, none⟩ = some (.int .i64 x.o) ∧ w.cell? ⟨b, off + 2, none⟩ = some (.int .i64 x.l) ∧ w.cell? ⟨b, off + 3, none⟩ = some (.int .i64 x.c) :=
  ⟨h 0 (by decide), h 1 (by decide), h 2 (by decide), h 3 (by decide)⟩
theorem below_drewDl {B : Nat} {w w' : World} (h : Below B w w') : ∀ n, Below B w (w'.drewN n) := fun n => ⟨h.os, h.tape, h.output, h.size, h.block⟩
section
variable {w : World} {B B' n m : Nat} {A A' : Option Addr} {l l' : List Dl}
set_option maxHeartbeats 3200000 in
theorem EqualDl_any (c d : Nat) (hr : DlE.R w B A n l) (hr' : DlE.R w B' A' m l') (hm : n ≤ maxLen) (hm' : m ≤ maxLen) (hB : B ≤ w.heap.size) (hB' : B' ≤ w.heap.size) :
    Calls Tryz.prog 24 #[.slice A n c, .slice A' m d] w fun e w' => e = .returned (.bool (decide (l = l'))) ∧ Below w.heap.size w w' := by
  unfold maxLen at hm hm'
  have hlen := hr.len
  have hlen' := hr'.len
  have HR := Lib.hid (And.intro hr hr')
  clear hr hr'
  by_cases hnm : n = m
  · subst hnm
    have hne : ((n : Int) != (n : Int)) = false := by simp
    go_enter Tryz.func24, Tryz.ntmps24
    go_wp2
    go_loopw [13] (fun i wr => ∃ k : Nat, k ≤ n ∧ i = .int .i64 k ∧ Hid (∀ j, j < k → l[j]? = l'[j]?) ∧ Below w.heap.size w wr) (fun i _ => n - (intOf i).toNat)
    case atStart => exact ⟨0, Nat.zero_le _, rfl, Lib.hid (fun j hj => absurd hj (by omega)), Below.refl _ _⟩
    case round =>
      obtain ⟨k, hk, rfl, hbef, hbw⟩ := hrel
      by_cases hlt : k < n
      · obtain ⟨x, hx⟩ : ∃ x, l[k]? = some x := ⟨_, List.getElem?_eq_getElem (by omega)⟩
        obtain ⟨y, hy⟩ : ∃ y, l'[k]? = some y := ⟨_, List.getElem?_eq_getElem (by omega)⟩
        obtain ⟨b, off, rfl, hb, hcell⟩ := HR.out.1.2.2 (by omega)
        obtain ⟨b', off', rfl, hb', hcell'⟩ := HR.out.2.2.2 (by omega)
        obtain ⟨c0, c1, c2, c3⟩ := dlAt ((hcell k x hx).keep hb (fun b o hbb => hbw.cell (p := ⟨b, o, none⟩) (Nat.lt_of_lt_of_le hbb hB)))
        obtain ⟨d0, d1, d2, d3⟩ := dlAt ((hcell' k y hy).keep hb' (fun b o hbb => hbw.cell (p := ⟨b, o, none⟩) (Nat.lt_of_lt_of_le hbb hB')))
        have HXY := Lib.hid (And.intro hx hy)
        have HBW := Lib.hid hbw
        clear hcell hcell' hx hy hbw
        have hlt' : (k : Int) < (n : Int) := by omega
        have hcmp := same_dl x y
        have hK : DlE.K = 4 := rfl
        rw [hK] at c0 d0 c1 d1 c2 d2 c3 d3
        clear hK
        by_cases hv : x = y
        · have hn := Lib.hid (fun j (hj : j < k + 1) => show l[j]? = l'[j]? by
            rcases Nat.lt_or_ge j k with h | h
            · exact hbef.out j h
            · obtain rfl : j = k := by omega
              rw [HXY.out.1, HXY.out.2, hv])
          rw [decide_eq_true hv] at hcmp
          obtain ⟨x0, x1, x2, x3⟩ := x
          obtain ⟨y0, y1, y2, y3⟩ := y
          simp only [dlV] at c0 d0 c1 d1 c2 d2 c3 d3 hcmp
          clear hv
          go_wp2_with fail
          go_quiet (fail)
          go_wp2
          go_roundw
          case rel => exact ⟨k + 1, by omega, by go_num, hn, below_drewDl HBW.out _⟩
          case measure => simp [intOf]; omega
        · have hd := Lib.hid (show decide (l = l') = false by
            have : ¬ l = l' := fun e => hv (by
              have h1 := HXY.out.1
              rw [e, HXY.out.2] at h1
              exact (Option.some.inj h1).symm)
            simpa using this)
          rw [decide_eq_false hv] at hcmp
          obtain ⟨x0, x1, x2, x3⟩ := x
          obtain ⟨y0, y1, y2, y3⟩ := y
          simp only [dlV] at c0 d0 c1 d1 c2 d2 c3 d3 hcmp
          clear hv
          go_wp2_with fail
          go_quiet (fail)
          go_wp2
          go_ret
          rw [hd.out]
          exact ⟨rfl, below_drewDl HBW.out _⟩
      · obtain rfl : k = n := by omega
        have hd := Lib.hid (show decide (l = l') = true by
          have : l = l' := List.ext_getElem? fun j => by
            rcases Nat.lt_or_ge j k with h | h
            · exact hbef.out j h
            · rw [List.getElem?_eq_none (by omega), List.getElem?_eq_none (by omega)]
          simpa using this)
        go_wp2
        go_ret
        rw [hd.out]
        exact ⟨rfl, hbw⟩
  · have hne : ((n : Int) != (m : Int)) = true := by simp; omega
    have hd : decide (l = l') = false := by
      have : ¬ l = l' := fun e => hnm (by rw [← hlen, ← hlen', e])
      simpa using this
    rw [hd]
    clear hd hnm
    go_enter Tryz.func24, Tryz.ntmps24
    go_wp2
    go_ret
    exact ⟨rfl, Below.refl _ _⟩
end
end Go.Proofs.YtlcbmobdokicaaaGreat

/-
  What the law of enc begins with, and how it ends a call: both views. No condition beyond what each says.
-/
namespace Go.Proofs.YtlcbmobdokicaaaGreat
open Go.RowKit Go.Maps
set_option maxRecDepth 100000
set_option linter.unusedVariables false

section
variable {w w' w0 : World} {v m c x B N : Nat} {Y Z : Nat → Prop} {S T : VS}
set_option maxHeartbeats 3200000 in
theorem end32_any (h : Duo Y w0 B N v m c x S T w) (hB : B ≤ w.heap.size) (hN : N ≤ 32767) (e : Int) (he : e = 0 → T = S) :
    Calls Tryz.prog 19 #[.pointer (some ⟨v, 0, none⟩), .pointer (some ⟨x, 0, none⟩), .int .i64 e] w fun u w' => u = .returned (.bool true) ∧ (∃ U, (e = 0 → U = S.commit) ∧ (e ≠ 0 → U = S.abort) ∧ Duo Y w0 B N v m c x U U w') ∧ KeptB Y B w w' := by
  by_cases h0 : e = 0
  · have hTS := he h0
    subst hTS h0
    have HC := Lib.hid (h.commit hB hN)
    have HB := Lib.hid hB
    clear h hB he
    go_enter Tryz.func19, Tryz.ntmps19
    go_wp2_with fail
    refine HC.out.mono ?_
    rintro u w1 ⟨rfl, hc⟩
    have HC1 := Lib.hid hc
    clear hc HC
    go_wp2_with fail
    refine HC1.out.mono ?_
    rintro u w2 ⟨rfl, h2, k2⟩
    have HS := Lib.hid (h2.same hN)
    have HE := Lib.hid (show ∀ W, Below w2.heap.size w2 W → (∃ U, ((0 : Int) = 0 → U = T.commit) ∧ ((0 : Int) ≠ 0 → U = T.abort) ∧ Duo Y w0 B N v m c x U U W) ∧ KeptB Y B w W from fun W hW =>
      ⟨⟨_, fun _ => rfl, fun h => absurd rfl h, h2.below (Nat.le_trans HB.out k2.size) hW⟩, k2.trans (KeptB.of_below h2.old (Nat.le_trans HB.out k2.size) hW)⟩)
    clear h2 k2 HC1
    go_wp2_with fail
    refine HS.out.mono ?_
    rintro u w3 ⟨rfl, h3⟩
    have HE3 := Lib.hid (HE.out w3 h3)
    clear h3 HE HS
    go_wp2_with fail
    go_ret
    exact ⟨rfl, HE3.out⟩
  · have k1 : (e == 0) = false := by simp [h0]
    have HC := Lib.hid (h.abort hB)
    have HB := Lib.hid hB
    have H0 := Lib.hid h0
    clear h hB he h0
    go_enter Tryz.func19, Tryz.ntmps19
    go_wp2_with fail
    refine HC.out.mono ?_
    rintro u w1 ⟨rfl, hc⟩
    have HC1 := Lib.hid hc
    clear hc HC
    go_wp2_with fail
    refine HC1.out.mono ?_
    rintro u w2 ⟨rfl, h2, k2⟩
    have HS := Lib.hid (h2.same hN)
    have HE := Lib.hid (show ∀ W, Below w2.heap.size w2 W → (∃ U, (e = 0 → U = S.commit) ∧ (e ≠ 0 → U = S.abort) ∧ Duo Y w0 B N v m c x U U W) ∧ KeptB Y B w W from fun W hW =>
      ⟨⟨_, fun h => absurd h H0.out, fun _ => rfl, h2.below (Nat.le_trans HB.out k2.size) hW⟩, k2.trans (KeptB.of_below h2.old (Nat.le_trans HB.out k2.size) hW)⟩)
    clear h2 k2 HC1
    go_wp2_with fail
    refine HS.out.mono ?_
    rintro u w3 ⟨rfl, h3⟩
    have HE3 := Lib.hid (HE.out w3 h3)
    clear h3 HE HS
    go_wp2_with fail
    go_ret
    exact ⟨rfl, HE3.out⟩
theorem ryOpenS_any {X : Nat → Prop} {p q r : Nat} {a : TL} (h : RefS w X x p q r a S N) (hN : N ≤ 1000000000) (n : Int) (hn : Nd64 n) :
    Calls Tryz.prog 34 #[.pointer (some ⟨x, 0, none⟩), .int .i64 n] w fun e w' => e = .returned (.int .i64 (openE (S.now (yKey n)) n)) ∧ RefS w' X x p q r a (S.open_ n) (N + 1) ∧ Touch (fun k => k = q ∨ k = r) w w' := by
  obtain ⟨b, d, h1, h2, h3, h4⟩ := h
  have := ryOpen_any h1 (Nat.le_trans h3 (by omega)) (Nat.le_trans h4 (by omega)) n hn
  rw [h2.now] at this
  refine this.mono ?_
  rintro e w' ⟨rfl, h5, h6⟩
  refine ⟨rfl, ?_, h6⟩
  unfold VS.open_
  by_cases e0 : openE (S.now (yKey n)) n = 0
  · rw [if_pos e0, if_pos e0] at h5
    rw [if_pos e0]
    exact ⟨_, _, h5, h2.put _ _, Nat.le_trans (setT_len _ _ _) (Nat.succ_le_succ h3), Nat.le_trans (setT_len _ _ _) (Nat.succ_le_succ h4)⟩
  · rw [if_neg e0, if_neg e0] at h5
    rw [if_neg e0]
    exact ⟨_, _, h5, h2, Nat.le_succ_of_le h3, Nat.le_succ_of_le h4⟩
/-- What begun leaves. -/
def Begun (w w' : World) (S : VS) (N : Nat) (u : Ending) : Prop :=
  ∃ v m c x, u = .returned (.tuple #[.pointer (some ⟨v, 0, none⟩), .pointer (some ⟨x, 0, none⟩)]) ∧ Duo (fun _ => False) w w.heap.size N v m c x S S w'
set_option maxHeartbeats 6400000 in
theorem begun32_any {w : World} {A : Option Addr} {n cap : Nat} {l : List Nd} (hr : NdE.R w w.heap.size A n l) (hn : n ≤ 1000) :
    Calls Tryz.prog 18 #[.slice A n cap] w fun u w' => Begun w w' (begunS l) (2 + 2 * n) u := by
  have HR := Lib.hid hr
  have HN := Lib.hid (vNew_any w (fun _ => False) (fun k h => h.elim))
  have HM := Lib.hid (fun W => refNew_nil W)
  clear hr
  go_enter Tryz.func18, Tryz.ntmps18
  go_wp2_with fail
  refine HN.out.mono ?_
  rintro u w1 ⟨v, m, c, rfl, h1, hb1, hv, hm, hc⟩
  have HM1 := Lib.hid (HM.out w1)
  have H1 := Lib.hid (And.intro h1 (And.intro hb1 (And.intro hv (And.intro hm hc))))
  clear h1 hb1 hv hm hc HN HM
  go_wp2_with fail
  refine HM1.out.mono ?_
  rintro u w2 ⟨rfl, h2, hb2⟩
  obtain ⟨x, hx⟩ : ∃ x, x = w1.heap.size + 3 := ⟨_, rfl⟩
  rw [← hx] at h2 ⊢
  obtain ⟨h1, hb1, hv, hm, hc⟩ := H1.out
  have hd2 := duo_start h1 h2 hb2 hv hm hc hb1.size
  have hbw := hb1.trans (hb2.mono hb1.size)
  have hD : Duo (fun _ => False) w w.heap.size 0 v m c x ⟨[], []⟩ ⟨[], []⟩ w2 := by
    obtain ⟨X, p, q, r, a, z1, z2, z3, z4, z5, z6, z7, z8, z9⟩ := hd2
    exact ⟨X, p, q, r, a, z1, z2, z3, z4, z5, z6, z7, z8, hbw⟩
  have HO := Lib.hid (hD.view (M := 1) (S' := yearS) (P := fun e _ => e = .returned (.int .i64 (openE ((⟨[], []⟩ : VS).now (yKey 2020)) 2020))) hbw.size (fun _ => many_yearS) rfl (by omega) (fun X hX hmx _ => (yOpen_any hX 2020 (by omega) (by show 0 < maxLen; unfold maxLen; omega)).mono fun e w' ⟨a, b, c⟩ => ⟨a, by rw [yearS_is] at b; exact b, c⟩))
  rw [yearS_open] at HO
  have HBW := Lib.hid hbw.size
  clear h1 hb1 hv hm hc hd2 hbw hD h2 hb2 hx H1 HM1
  go_wp2_with fail
  refine HO.out.mono ?_
  rintro u w3 ⟨rfl, h3, k3⟩
  have HO2 := Lib.hid (h3.ref (M := 2) (P := fun e _ T' => e = .returned (.int .i64 0) ∧ T' = yearS) (Nat.le_trans HBW.out k3.size) (by omega) (fun X p q r a hX hmx hB => (ryOpenS_any hX (by omega) 2020 (by unfold Nd64; omega)).mono fun e w' ⟨a, b, c⟩ => ⟨yearS, ⟨by rw [a, yearS_open], rfl⟩, by rw [yearS_is] at b; exact b, many_yearS.more (by omega), rfl, c⟩))
  have HK3 := Lib.hid (Nat.le_trans HBW.out k3.size)
  clear h3 k3 HO HBW
  go_wp2_with fail
  refine HO2.out.mono ?_
  rintro u w4 ⟨T', ⟨rfl, rfl⟩, h4, k4⟩
  have H0 := Lib.hid (show Duo (fun _ => False) w w.heap.size (2 + 2 * 0) v m c x (begunS (l.take 0)) (begunS (l.take 0)) w4 ∧ w.heap.size ≤ w4.heap.size from ⟨h4, Nat.le_trans HK3.out k4.size⟩)
  clear h4 k4 HO2 HK3
  go_wp2_with fail
  go_loopw [16] (fun iv wr => ∃ j : Nat, j ≤ n ∧ iv = .int .i64 j ∧ Hid (Duo (fun _ => False) w w.heap.size (2 + 2 * j) v m c x (begunS (l.take j)) (begunS (l.take j)) wr ∧ w.heap.size ≤ wr.heap.size)) (fun iv _ => n - (intOf iv).toNat)
  case atStart => exact ⟨0, Nat.zero_le _, rfl, H0⟩
  case round =>
    clear H0
    obtain ⟨j, hj, rfl, HJ⟩ := hrel
    by_cases hlt : j < n
    · have hlt' : (j : Int) < (n : Int) := by omega
      have hj0 : (0 : Int) ≤ (j : Int) := by omega
      obtain ⟨hdj, hwr⟩ := HJ.out
      obtain ⟨z, hz⟩ : ∃ z, l[j]? = some z := ⟨_, List.getElem?_eq_getElem (by rw [HR.out.len]; exact hlt)⟩
      have hzok := HR.out.ok z (List.mem_of_getElem? hz)
      obtain ⟨b, off, rfl, hb, hat⟩ := nd_at (HR.out.below hdj.was) hz
      obtain ⟨c0, c1, c2, c3, c4, c5, c6, c7, c8, c9, c10, c11⟩ := ndAt hat
      obtain ⟨wb, hwb⟩ : ∃ wb, wb = wr.alloc (.cells #[.int .i64 2020, .int .i64 z.i, .int .i64 z.p, .int .i64 z.f, .int .i64 z.o, .bool z.ab, .int .i64 z.li, .int .i64 z.pr, .int .i64 z.en, .int .i64 z.ex, .int .i64 z.la, .int .i64 z.ca] 41 (0, 0)) := ⟨_, rfl⟩
      have hbb : Below wr.heap.size wr wb := by rw [hwb]; exact (Below.refl _ _).alloc (Nat.le_refl _) _
      have hblk : wb.heap[wr.heap.size]? = some (.cells #[.int .i64 2020, .int .i64 z.i, .int .i64 z.p, .int .i64 z.f, .int .i64 z.o, .bool z.ab, .int .i64 z.li, .int .i64 z.pr, .int .i64 z.en, .int .i64 z.ex, .int .i64 z.la, .int .i64 z.ca] 41 (0, 0)) := by rw [hwb]; exact heap_alloc_new wr _
      have hsz : wb.heap.size = wr.heap.size + 1 := by rw [hwb]; simp
      have hown := hdj.own (Z := fun k => k = wr.heap.size) hwr hbb (fun k hk => .inr (by rw [hk]; omega))
      have HP := Lib.hid (hown.view (M := 3 + 2 * j) (S' := (begunS (l.take j)).putN (at20 z)) (P := fun e _ => e = .returned (.int .i64 0)) (Nat.le_trans hwr hbb.size) (fun hms => (hms.put (by rw [nKy_len]; omega) _).more (by omega)) rfl (by omega) (fun X hX hmx _ => (treePut_any hX (at20 z) (at20_ok hzok) (by have := hmx.len; unfold maxLen; omega)).mono fun e w' ⟨a, b, c⟩ => ⟨a, b, c⟩))
      have HBK := Lib.hid (show ∀ W, KeptB (fun k => k = wr.heap.size) w.heap.size wb W → W.heap[wr.heap.size]? = some (.cells #[.int .i64 2020, .int .i64 z.i, .int .i64 z.p, .int .i64 z.f, .int .i64 z.o, .bool z.ab, .int .i64 z.li, .int .i64 z.pr, .int .i64 z.en, .int .i64 z.ex, .int .i64 z.la, .int .i64 z.ca] 41 (0, 0)) ∧ w.heap.size ≤ W.heap.size from fun W hW => ⟨(hW.1 _ rfl).trans hblk, Nat.le_trans (Nat.le_trans hwr hbb.size) hW.size⟩)
      have HOK := Lib.hid (at20_ok hzok)
      have HST := Lib.hid (begunS_take hz)
      clear hdj hwr hz hzok hb hat hbb hblk hsz hown HJ
      go_wp2_with fail
      rw [← hwb]
      clear hwb c0 c1 c2 c3 c4 c5 c6 c7 c8 c9 c10 c11
      refine HP.out.mono ?_
      rintro u w5 ⟨rfl, h5, k5⟩
      obtain ⟨hk5, hs5⟩ := HBK.out w5 k5
      obtain ⟨y0, y1, y2, y3, y4, y5, y6, y7, y8, y9, y10, y11⟩ := node_cells hk5
      have HQ := Lib.hid (h5.ref (M := 4 + 2 * j) (P := fun e _ T' => e = .returned (.int .i64 0) ∧ T' = (begunS (l.take j)).putN (at20 z)) hs5 (by omega) (fun X p q r a hX hmx hB => by
        have hPN := hmx.put (x := nKy (at20 z).y (at20 z).i) (by rw [nKy_len]; omega) (ndVal (at20 z))
        refine (rPutS_any hX (by omega) (at20 z) HOK.out).mono ?_
        rintro e w' ⟨rfl, q1, q2⟩
        exact ⟨_, ⟨rfl, rfl⟩, q1.more (by omega), hPN.more (by omega), rfl, q2⟩))
      clear h5 k5 HP hk5
      go_wp2_with fail
      refine HQ.out.mono ?_
      rintro u w6 ⟨T', ⟨rfl, rfl⟩, h6, k6⟩
      have HJ := Lib.hid (show Duo (fun _ => False) w w.heap.size (2 + 2 * (j + 1)) v m c x (begunS (l.take (j + 1))) (begunS (l.take (j + 1))) w6 ∧ w.heap.size ≤ w6.heap.size from ⟨by
        rw [HST.out, show 2 + 2 * (j + 1) = 4 + 2 * j by omega]
        exact h6.own (Nat.le_trans hs5 k6.size) (Below.refl _ _) (fun k hk => hk.elim), Nat.le_trans hs5 k6.size⟩)
      clear h6 k6 HQ y0 y1 y2 y3 y4 y5 y6 y7 y8 y9 y10 y11 HST HOK HBK hs5
      go_wp2_with fail
      go_roundw
      case rel => exact ⟨j + 1, by omega, by go_num, HJ⟩
      case measure => simp [intOf]; omega
    · obtain rfl : j = n := by omega
      have htk : l.take j = l := List.take_of_length_le (by have := HR.out.len; omega)
      have hdj := HJ.out.1
      rw [htk] at hdj
      have HE := Lib.hid (show Begun w wr (begunS l) (2 + 2 * j) (.returned (.tuple #[.pointer (some ⟨v, 0, none⟩), .pointer (some ⟨x, 0, none⟩)])) from ⟨v, m, c, x, rfl, hdj⟩)
      clear hdj HJ htk
      go_wp2_with fail
      go_ret2
      exact HE.out
end
end Go.Proofs.YtlcbmobdokicaaaGreat

/-
  The check of the law of enc: it returns true. No condition.
-/
namespace Go.Proofs.YtlcbmobdokicaaaGreat
open Go.RowKit Go.Maps
set_option maxRecDepth 100000
set_option linter.unusedVariables false

abbrev awN32 : Nd := ⟨0, 1, 0, 0, 0, true, 9, 0, 0, 0, 0, 0⟩
abbrev awL32 : Ln := ⟨0, 0, 1, 9⟩
abbrev awM32 : Ln := ⟨0, 0, 0, 4⟩
theorem awN32_ok : NdOk awN32 := by intro v hv; simp only [List.mem_cons, List.not_mem_nil, or_false] at hv; rcases hv with rfl | rfl | rfl | rfl | rfl | rfl | rfl | rfl | rfl | rfl | rfl <;> omega
theorem awL32_ok : LnOk awL32 := ⟨⟨by decide, by decide⟩, ⟨by decide, by decide⟩, ⟨by decide, by decide⟩, ⟨by decide, by decide⟩⟩
theorem awM32_ok : LnOk awM32 := ⟨⟨by decide, by decide⟩, ⟨by decide, by decide⟩, ⟨by decide, by decide⟩, ⟨by decide, by decide⟩⟩
theorem aw32_pre : (preNew (begunS [awN32]) 2020 [awL32]).1 = (1, false, 0) := by decide +kernel
theorem aw32_len : (begunS [awN32]).C.length ≤ 100000 := by decide +kernel
theorem aw32_len2 : (preNew (begunS [awN32]) 2020 [awL32]).2.C.length ≤ 90000 := by decide +kernel
theorem aw32_new : (encNew (preNew (begunS [awN32]) 2020 [awL32]).2 2020 1 [awM32]).1 = (2, false, 0) := by decide +kernel
theorem aw32_node : (nodeAt (encNew (preNew (begunS [awN32]) 2020 [awL32]).2 2020 1 [awM32]).2 2020 1).map (fun n => (n.pr, n.en)) = some (5, 4) := by decide +kernel
/-- A line in a block of its own. -/
theorem line_lit {w : World} {W : World} {c : Nat} {x : Ln} {T : TypeId} (hx : LnOk x) (hc : c ≠ w.heap.size) (h : Touch (fun k => k = c) (w.alloc (.cells #[.int .i64 x.f, .int .i64 x.o, .int .i64 x.n, .int .i64 x.a] T)) W) : RL W W.heap.size (some ⟨w.heap.size, 0, none⟩) 1 [x] := by
  have hb : W.heap[w.heap.size]? = some (.cells #[.int .i64 x.f, .int .i64 x.o, .int .i64 x.n, .int .i64 x.a] T (0, 0)) := (h.block w.heap.size (by simp) (fun e => hc e.symm)).trans (heap_alloc_new w _)
  refine ⟨rfl, fun y hy => by obtain rfl := List.mem_singleton.1 hy; exact hx, fun _ => ⟨w.heap.size, 0, rfl, (Array.getElem?_eq_some_iff.1 hb).1, fun j y hy => ?_⟩⟩
  obtain ⟨hj, hy'⟩ := List.getElem?_eq_some_iff.1 hy
  have : j = 0 := by simp at hj; omega
  subst this
  cases hy
  exact ⟨cell_of_row W _ 0 _ _ (0, 0) hb, cell_of_row W _ 1 _ _ (0, 0) hb, cell_of_row W _ 2 _ _ (0, 0) hb, cell_of_row W _ 3 _ _ (0, 0) hb⟩
set_option maxHeartbeats 6400000 in
theorem awake32_any (w : World) : Calls Tryz.prog 17 #[] w fun e w' => e = .returned (.bool true) ∧ Below w.heap.size w w' := by
  obtain ⟨w1, hw1⟩ : ∃ w1, w1 = w.alloc (.cells #[.int .i64 0, .int .i64 1, .int .i64 0, .int .i64 0, .int .i64 0, .bool true, .int .i64 9, .int .i64 0, .int .i64 0, .int .i64 0, .int .i64 0, .int .i64 0] 41 (0, 0)) := ⟨_, rfl⟩
  have hb1 : Below w.heap.size w w1 := by rw [hw1]; exact (Below.refl _ _).alloc (Nat.le_refl _) _
  have hk1 : w1.heap[w.heap.size]? = some (.cells #[.int .i64 0, .int .i64 1, .int .i64 0, .int .i64 0, .int .i64 0, .bool true, .int .i64 9, .int .i64 0, .int .i64 0, .int .i64 0, .int .i64 0, .int .i64 0] 41 (0, 0)) := by rw [hw1]; exact heap_alloc_new w _
  have HBG := Lib.hid (begun32_any (cap := 1) (l := [awN32]) (Enc.R.one (E := NdE) (x := awN32) hk1 awN32_ok) (by omega))
  have HB1 := Lib.hid hb1
  clear hb1 hk1
  go_enter Tryz.func17, Tryz.ntmps17
  go_wp2_with fail
  rw [← hw1]
  clear hw1
  refine HBG.out.mono ?_
  rintro u w2 ⟨v, m, c, x, rfl, h2⟩
  have hb2 : Below w.heap.size w w2 := HB1.out.trans (h2.was.mono HB1.out.size)
  obtain ⟨X, hX⟩ := h2.view_
  have hcw := hX.lt c hX.xc
  obtain ⟨w3, hw3⟩ : ∃ w3, w3 = w2.alloc (.cells #[.int .i64 0, .int .i64 0, .int .i64 1, .int .i64 9] 43 (0, 0)) := ⟨_, rfl⟩
  have hb3 : Below w2.heap.size w2 w3 := by rw [hw3]; exact (Below.refl _ _).alloc (Nat.le_refl _) _
  have hcB : w.heap.size ≤ c := by
    obtain ⟨X', p, q, r, a, z1, z2, z3, z4, z5, z6, z7, z8, z9⟩ := h2
    exact Nat.le_trans HB1.out.size (z7 c z1.xc).1
  have HP := Lib.hid (preNew_any (cap := 1) (hX.below hb3) (y := 2020) (by unfold Nd64; omega) (l := [awL32]) (fun W hW => line_lit (w := w2) (x := awL32) awL32_ok (Nat.ne_of_lt hcw) (by rw [hw3] at hW; exact hW)) (Nat.le_refl 1) (by unfold maxLen; omega) aw32_len)
  rw [aw32_pre] at HP
  have HB3 := Lib.hid (And.intro (hb2.trans (hb3.mono hb2.size)) (And.intro hcB hcw))
  clear h2 hX hb2 hb3 hcB hcw HBG HB1
  go_wp2_with fail
  rw [← hw3]
  clear hw3
  refine HP.out.mono ?_
  rintro u w4 ⟨rfl, h4, t4⟩
  have hb4 : Below w.heap.size w w4 := HB3.out.1.trans (t4.below (fun k hk => by rw [hk]; exact HB3.out.2.1) HB3.out.1.size)
  have hcw4 := h4.lt c h4.xc
  obtain ⟨w5, hw5⟩ : ∃ w5, w5 = w4.alloc (.cells #[.int .i64 0, .int .i64 0, .int .i64 0, .int .i64 4] 43 (0, 0)) := ⟨_, rfl⟩
  have hb5 : Below w4.heap.size w4 w5 := by rw [hw5]; exact (Below.refl _ _).alloc (Nat.le_refl _) _
  have HN := Lib.hid (encNew_any (cap := 1) (h4.below hb5) (y := 2020) (f := 1) (by unfold Nd64; omega) (by unfold Nd64; omega) (l := [awM32]) (fun W hW => line_lit (w := w4) (x := awM32) awM32_ok (Nat.ne_of_lt hcw4) (by rw [hw5] at hW; exact hW)) (Nat.le_refl 1) (by unfold maxLen; omega) aw32_len2)
  rw [aw32_new] at HN
  have HB5 := Lib.hid (And.intro (hb4.trans (hb5.mono hb4.size)) HB3.out.2.1)
  clear h4 t4 hb4 hcw4 hb5 HP HB3
  go_wp2_with fail
  rw [← hw5]
  clear hw5
  refine HN.out.mono ?_
  rintro u w6 ⟨rfl, h6, t6⟩
  have HG := Lib.hid (treeGet_any h6 2020 1 (by unfold Nd64; omega) (by unfold Nd64; omega))
  have hn := aw32_node
  generalize nodeAt (encNew (preNew (begunS [awN32]) 2020 [awL32]).2 2020 1 [awM32]).2 2020 1 = o at HG hn
  obtain ⟨z, rfl, hz⟩ := Option.map_eq_some_iff.1 hn
  have HB6 := Lib.hid (show Below w.heap.size w w6 from HB5.out.1.trans (t6.below (fun k hk => by rw [hk]; exact HB5.out.2) HB5.out.1.size))
  have HZ := Lib.hid hz
  clear h6 t6 hn hz HN HB5
  simp only [ndW, ndO, Option.getD_some] at HG
  go_wp2_with fail
  refine HG.out.mono ?_
  rintro u w7 ⟨rfl, _, h7⟩
  have hz := HZ.out
  obtain ⟨zy, zi, zp, zf, zo, zab, zli, zpr, zen, zex, zla, zca⟩ := z
  simp only [Prod.mk.injEq] at hz ⊢
  obtain ⟨hz1, hz2⟩ := hz
  subst hz1 hz2
  obtain ⟨w8, hw8⟩ : ∃ w8, w8 = w7.alloc (.cells #[.int .i64 zy, .int .i64 zi, .int .i64 zp, .int .i64 zf, .int .i64 zo, .bool zab, .int .i64 zli, .int .i64 5, .int .i64 4, .int .i64 zex, .int .i64 zla, .int .i64 zca] 41 (0, 0)) := ⟨_, rfl⟩
  have hb8 : Below w7.heap.size w7 w8 := by rw [hw8]; exact (Below.refl _ _).alloc (Nat.le_refl _) _
  have h67 := HB6.out.trans (h7.mono HB6.out.size)
  have HE := Lib.hid (h67.trans (hb8.mono h67.size))
  clear h7 hb8 h67 HG HZ HB6
  go_wp2_with fail
  rw [← hw8]
  go_ret
  exact ⟨rfl, HE.out⟩
end Go.Proofs.YtlcbmobdokicaaaGreat

/-
  The document's Take by contract over its own view. What an error leaves is not said, but that nothing is committed. Condition: which numbers are ints.
-/
namespace Go.Proofs.YtlcbmobdokicaaaGreat
open Go.RowKit Go.Maps
set_option maxRecDepth 100000
set_option linter.unusedVariables false

section
variable {w w' : World} {X X' : Nat → Prop} {x p q r N : Nat} {a b d : TL} {S : VS}
theorem TabAt.less {t : Nat} {L : TL} (h : TabAt w X' t L) (hx : ∀ k, X k → X' k) (ht : X t) : TabAt w X t L := by
  obtain ⟨A, n, c, h1, h2, h3⟩ := h
  exact ⟨A, n, c, h1, ht, h3.keep (Nat.le_refl _) (fun k _ hn hk => hn (hx k hk)) (fun _ _ _ => rfl)⟩
theorem RefS.less (h : RefS w X' x p q r a S N) (hx : ∀ k, X k → X' k) (h1 : X x) (h2 : X p) (h3 : X q) (h4 : X r) : RefS w X x p q r a S N := by
  obtain ⟨b, d, g1, g2, g3, g4⟩ := h
  exact ⟨b, d, ⟨g1.me, h1, g1.was.less hx h2, g1.now.less hx h3, g1.told.less hx h4, g1.apart, fun k hk => g1.old k (hx k hk)⟩, g2, g3, g4⟩
theorem RefS.grow (h : RefS w X x p q r a S N) {row : Option Nat} (hg : w.grownBy w' row) (hrow : ∀ b, row = some b → X b ∧ b ≠ x ∧ b ≠ p ∧ b ≠ q ∧ b ≠ r) : RefS w' (fun k => X k ∨ (k = w.heap.size ∧ k < w'.heap.size)) x p q r a S N := by
  obtain ⟨b, d, g1, g2, g3, g4⟩ := h
  refine ⟨b, d, g1.keep hg.size (fun k hk hn he => by rcases he with he | he; exact hn he; omega) (fun k hk => .inl hk) (fun k hk => by
    rcases hk with hk | hk
    · exact Nat.lt_of_lt_of_le (g1.old k hk) hg.size
    · exact hk.2) (fun k hk hh => hg.block k hk fun e => ?_), g2, g3, g4⟩
  obtain ⟨a1, a2, a3, a4, a5⟩ := hrow k e.symm
  rcases hh with hh | hh | hh | hh | hh
  · exact a2 hh
  · exact a3 hh
  · exact a4 hh
  · exact a5 hh
  · exact hh a1
theorem RefS.four (h : RefS w X x p q r a S N) : (X x ∧ X p ∧ X q ∧ X r) ∧ x < w.heap.size ∧ p < w.heap.size ∧ q < w.heap.size ∧ r < w.heap.size := by
  obtain ⟨b, d, g1, g2, g3, g4⟩ := h
  exact ⟨⟨g1.own, g1.was.own, g1.now.own, g1.told.own⟩, g1.lt, g1.was.lt, g1.now.lt, g1.told.lt⟩
end
theorem setsJ_get {f : Int} {d : Dc} : ∀ {l : List Ln} {st : List Dl} {S : VS}, S.Ok → docGet S f = some (d, st) → (∀ z ∈ st, DlOk z) → (liqR st l).2 = 0 → docGet (setsJ f S st l) f = some (d, (liqR st l).1.1)
  | [], st, S, hS, h, hok, hz => h
  | x :: t, st, S, hS, h, hok, hz => by
    obtain ⟨e, h2, h3⟩ := liqR_cons hz
    obtain ⟨e1, e2, e3⟩ := liqE_zero e
    have hx : DlOk (liqL (st[x.n.toNat]?.getD dlNil) x.a) := by
      refine liqL_ok ?_ _
      rw [List.getElem?_eq_getElem (by omega), Option.getD_some]
      exact hok _ (List.getElem_mem _)
    have hg := docGet_putL hS h (j := x.n.toNat) (by omega) hx
    rw [show ((x.n.toNat : Nat) : Int) = x.n by omega] at hg
    rw [h3]
    refine setsJ_get (ok_putL hS _ _ _) hg (fun z hz' => ?_) h2
    rcases List.mem_or_eq_of_mem_set hz' with hz' | rfl
    · exact hok z hz'
    · exact hx
theorem setsJ_more {f : Int} {S : VS} {st : List Dl} {l : List Ln} {j : Nat} {x : Ln} (hx : l[j]? = some x) (h : (liqR st (l.take j)).2 = 0) : setsJ f S st (l.take (j + 1)) = (setsJ f S st (l.take j)).putL f x.n (liqL ((liqR st (l.take j)).1.1[x.n.toNat]?.getD dlNil) x.a) := by
  obtain ⟨hj, rfl⟩ := List.getElem?_eq_some_iff.1 hx
  rw [List.take_succ_eq_append_getElem hj, setsJ_take f h]
theorem rl_amt {W : World} {B n : Nat} {A : Option Addr} {l : List Ln} (h : RL W B A n l) {b off : Nat} (e : A = some ⟨b, off, none⟩) {j : Nat} {x : Ln} (hx : l[j]? = some x) : W.cell? ⟨b, off + j * 4 + 2, none⟩ = some (.int .i64 x.n) ∧ W.cell? ⟨b, off + j * 4 + 3, none⟩ = some (.int .i64 x.a) := by
  have hj := (List.getElem?_eq_some_iff.1 hx).1
  obtain ⟨b', off', e', _, hat⟩ := h.2.2 (by have := h.1; omega)
  rw [e] at e'
  cases e'
  obtain ⟨_, _, c2, c3⟩ := hat j x hx
  exact ⟨c2, c3⟩
/-- What the document's Take answers, and leaves. -/
def RTakeDone (w w' : World) (X : Nat → Prop) (x p q r : Nat) (a : TL) (N : Nat) (S : VS) (R : (List Dl × Int) × VS) (e : Ending) : Prop :=
  ∃ (u : Value) (T : VS), e = .returned (.tuple #[u, .int .i64 R.1.2]) ∧ (R.1.2 = 0 → T = R.2) ∧ DlE.Own 58 w' w.heap.size u R.1.1 ∧ RefS w' X x p q r a T N ∧ ManyS T N ∧ T.W = S.W ∧ Touch (fun k => k = q ∨ k = r) w w'
/-- What its lines have left so far, beside a row u. -/
def RTakeRun (w wr : World) (X : Nat → Prop) (x p q r : Nat) (a : TL) (N : Nat) (T : VS) (u : Value) (tk : List Dl) : Prop :=
  DlE.Own 58 wr w.heap.size u tk ∧ (∃ X', (∀ k, X k → X' k) ∧ (∀ b, u.ownBlock = some b → X' b) ∧ RefS wr X' x p q r a T N) ∧ ManyS T N ∧ Touch (fun k => k = q ∨ k = r) w wr
section
variable {w w' : World} {X : Nat → Prop} {x p q r N : Nat} {a : TL} {S : VS}
set_option maxHeartbeats 25600000 in
theorem rTake_any (h : RefS w X x p q r a S N) (hm : ManyS S N) (hN : N ≤ 100000) (k y f : Int) (hf : Nd64 f) {A : Option Addr} {n cap : Nat} {l : List Ln} (hl : ∀ W, Touch (fun k => k = q ∨ k = r) w W → RL W W.heap.size A n l) (hn : n ≤ 1000) :
    Calls Tryz.prog 23 #[.pointer (some ⟨x, 0, none⟩), .int .i64 k, .int .i64 y, .int .i64 f, .slice A n cap] w fun e w' => RTakeDone w w' X x p q r a (N + n) S (takeR S k y f l) e := by
  have HG := Lib.hid (rDocsGet_any h (by omega) f hf)
  have hlen := (hl w (Touch.refl _ _)).len
  have hlok := (hl w (Touch.refl _ _)).ok
  have H4 := Lib.hid h.four
  have HS := Lib.hid (And.intro hm.ok (And.intro hm hN))
  have HV := Lib.hid (show ∀ W, Below w.heap.size w W → RefS W X x p q r a S N ∧ Touch (fun k => k = q ∨ k = r) w W from fun W hW => ⟨h.below hW, Touch.of_below hW⟩)
  have HL := Lib.hid hl
  have HLEN := Lib.hid (And.intro hlen hlok)
  have HBAD := Lib.hid (show ∀ (v' : Int) W, v' ≠ 0 → takeR S k y f l = (([], v'), S) → Below w.heap.size w W → RTakeDone w W X x p q r a (N + n) S (takeR S k y f l) (.returned (.tuple #[.slice none 0 0, .int .i64 v'])) from fun v' W hv hR hW => by
    rw [hR]
    exact ⟨_, S, rfl, fun e => absurd e hv, Enc.Own.start _ _ _, (h.below hW).more (by omega), hm.more (by omega), rfl, Touch.of_below hW⟩)
  have h6 := fun (d : Dc) (st : List Dl) (hd : docGet S f = some (d, st)) => docGet_parts hd
  have t1 := fun (hd : docGet S f = none) => takeR_none (k := k) (y := y) (l := l) hd
  have t2 := fun (d : Dc) (st : List Dl) (hd : docGet S f = some (d, st)) (q : d.k ≠ k ∨ d.y ≠ y) => takeR_other (l := l) hd q
  have t3 := fun (d : Dc) (st : List Dl) (hd : docGet S f = some (d, st)) (q1 : d.k = k) (q2 : d.y = y) (q : (liqR st l).2 ≠ 0) => takeR_bad hd q1 q2 q
  have t4 := fun (d : Dc) (st : List Dl) (hd : docGet S f = some (d, st)) (q1 : d.k = k) (q2 : d.y = y) (q : (liqR st l).2 = 0) => takeR_good hd q1 q2 q
  have HT := Lib.hid (And.intro h6 (And.intro t1 (And.intro t2 (And.intro t3 t4))))
  clear h6 t1 t2 t3 t4 h hm hl hlen hlok
  obtain ⟨o, ho⟩ : ∃ o, o = docGet S f := ⟨_, rfl⟩
  rw [← ho] at HG HT
  have HO := Lib.hid ho
  clear ho
  generalize takeR S k y f l = R at HBAD HT ⊢
  go_enter Tryz.func23, Tryz.ntmps23
  go_wp2_with fail
  refine HG.out.mono ?_
  rintro e w1 ⟨A0, k0, rfl, hown, hok, hdok, hb1⟩
  clear HG
  cases o with
  | none =>
    have HE := Lib.hid (HBAD.out 7 (w1.alloc (.cells #[.int .i64 0, .int .i64 0, .int .i64 0, .int .i64 0, .int .i64 0] 66 (0, 0))) (by decide) (HT.out.2.1 rfl) (hb1.trans (((Below.refl w1.heap.size w1).alloc (Nat.le_refl _) _).mono hb1.size)))
    clear HT HBAD HO hown hok hdok hb1
    simp only [dcW, Option.map_none, Option.getD_none, dcNil, Option.isSome_none]
    go_wp2_with fail
    go_ret2
    exact HE.out
  | some pd =>
    obtain ⟨d, st⟩ := pd
    obtain ⟨g1, g2, g3, g4, g5, g6, g7⟩ := HT.out.1 d st rfl
    simp only [dlsO] at hown hok
    obtain ⟨w2, hw2⟩ : ∃ w2, w2 = w1.alloc (.cells #[.int .i64 d.i, .int .i64 d.k, .int .i64 d.y, .int .i64 d.f, .int .i64 d.n] 66 (0, 0)) := ⟨_, rfl⟩
    have hb2 : Below w1.heap.size w1 w2 := by rw [hw2]; exact (Below.refl _ _).alloc (Nat.le_refl _) _
    have hblk : w2.heap[w1.heap.size]? = some (.cells #[.int .i64 d.i, .int .i64 d.k, .int .i64 d.y, .int .i64 d.f, .int .i64 d.n] 66 (0, 0)) := by rw [hw2]; exact heap_alloc_new w1 _
    have hb12 := hb1.trans (hb2.mono hb1.size)
    have HST := Lib.hid (show 1 ≤ st.length ∧ st.length ≤ 6 ∧ (∀ z ∈ st, DlOk z) from ⟨g5, g6, hok⟩)
    have HB12 := Lib.hid hb12
    have HT2 := Lib.hid (HT.out.2.2.1 d st rfl)
    have HT3 := Lib.hid (HT.out.2.2.2.1 d st rfl)
    have HT4 := Lib.hid (HT.out.2.2.2.2 d st rfl)
    clear HT hown hok hdok hb1 hb2 g1 g2 g3 g4 g5 g6 g7
    simp only [dcW, Option.map_some, Option.getD_some, Option.isSome_some, dlsO]
    obtain ⟨q0, q1, q2, q3, q4⟩ : w2.cell? ⟨w1.heap.size, 0, none⟩ = some (.int .i64 d.i) ∧ w2.cell? ⟨w1.heap.size, 1, none⟩ = some (.int .i64 d.k) ∧ w2.cell? ⟨w1.heap.size, 2, none⟩ = some (.int .i64 d.y) ∧ w2.cell? ⟨w1.heap.size, 3, none⟩ = some (.int .i64 d.f) ∧ w2.cell? ⟨w1.heap.size, 4, none⟩ = some (.int .i64 d.n) := ⟨cell_of_row w2 _ 0 _ _ (0, 0) hblk, cell_of_row w2 _ 1 _ _ (0, 0) hblk, cell_of_row w2 _ 2 _ _ (0, 0) hblk, cell_of_row w2 _ 3 _ _ (0, 0) hblk, cell_of_row w2 _ 4 _ _ (0, 0) hblk⟩
    by_cases hdk : d.k = k
    · by_cases hdy : d.y = y
      · obtain ⟨dI, dK, dY, dF, dN⟩ := d
        simp only at hdk hdy hw2 q0 q1 q2 q3 q4 HO
        subst hdk hdy
        have HT3' := Lib.hid (HT3.out rfl rfl)
        have HT4' := Lib.hid (HT4.out rfl rfl)
        have H0 := Lib.hid (show RTakeRun w w2 X x p q r a (N + 0) (setsJ f S st (l.take 0)) (.slice none 0 0) (liqR st (l.take 0)).1.2 ∧ (liqR st (l.take 0)).2 = 0 from ⟨⟨Enc.Own.start _ _ _, ⟨X, fun k h => h, (fun b e => by cases e), (HV.out w2 HB12.out).1⟩, HS.out.2.1, (HV.out w2 HB12.out).2⟩, rfl⟩)
        clear HT2 HT3 HT4 hblk
        go_wp2_with fail
        rw [← hw2]
        clear hw2 q0 q1 q2 q3 q4 HV
        go_loopw [15, 16] (fun uv iv wr => ∃ j : Nat, j ≤ n ∧ iv = .int .i64 j ∧ (∃ A' k', uv = .slice A' j k') ∧ Hid (RTakeRun w wr X x p q r a (N + j) (setsJ f S st (l.take j)) uv (liqR st (l.take j)).1.2 ∧ (liqR st (l.take j)).2 = 0)) (fun _ iv _ => n - (intOf iv).toNat)
        case atStart => exact ⟨0, Nat.zero_le _, rfl, ⟨none, 0, rfl⟩, H0⟩
        case round =>
          clear H0
          obtain ⟨j, hj, rfl, ⟨A', k', rfl⟩, HJ⟩ := hrel
          by_cases hlt : j < n
          · have hlt' : (j : Int) < (n : Int) := by omega
            have hj0 : (0 : Int) ≤ (j : Int) := by omega
            obtain ⟨⟨hown, ⟨X1, hx1, hx2, hrs⟩, hmm, ht⟩, hz0⟩ := HJ.out
            obtain ⟨z0, hx⟩ : ∃ x, l[j]? = some x := ⟨_, List.getElem?_eq_getElem (by rw [HLEN.out.1]; exact hlt)⟩
            have hxok := HLEN.out.2 z0 (List.mem_of_getElem? hx)
            have hwr := ht.size
            have hstj := liqR_len (l.take j) st
            have hokj := (liqR_ok (l := l.take j) (st := st) HST.out.2.2 fun z hz => HLEN.out.2 z (List.mem_of_mem_take hz)).1
            have htkl := liqR_taken (l.take j) st hz0
            have hTK := liqR_take hx hz0
            have hBD := fun h2 => liqR_bad hx hz0 h2
            have hget := setsJ_get HS.out.1 HO.out.symm HST.out.2.2 hz0
            have hmore := setsJ_more (f := f) (S := S) hx hz0
            have hSW := setsJ_W f (l.take j) st S
            obtain ⟨TK, hTKd⟩ : ∃ TK, TK = (liqR st (l.take j)).1.2 := ⟨_, rfl⟩
            obtain ⟨F, hF⟩ : ∃ F, F = (liqR st (l.take j)).1.1 := ⟨_, rfl⟩
            obtain ⟨SJ, hSJ⟩ : ∃ SJ, SJ = setsJ f S st (l.take j) := ⟨_, rfl⟩
            rw [← hTKd] at hown htkl hTK
            rw [← hF] at hstj hokj hTK hBD hget hmore
            rw [← hSJ] at hrs hmm hget hmore hSW
            have HGJ := Lib.hid (rDocsGet_any hrs (by have := HS.out.2.2; omega) f hf)
            rw [hget] at HGJ
            have HEND := Lib.hid (show ∀ W, Below wr.heap.size wr W → ∀ v : Int, v ≠ 0 → (liqR st l).2 = v → RTakeDone w W X x p q r a (N + n) S R (.returned (.tuple #[.slice none 0 0, .int .i64 v])) from fun W hW v hv hq => by
              rw [HT3'.out (by rw [hq]; exact hv), hq]
              obtain ⟨e1, e2, e3, e4⟩ := H4.out.1
              exact ⟨_, SJ, rfl, fun e => absurd e hv, Enc.Own.start _ _ _, ((hrs.below hW).less hx1 e1 e2 e3 e4).more (by omega), hmm.more (by omega), hSW, ht.trans (Touch.of_below hW)⟩)
            have HTK := Lib.hid hTK
            have HB := Lib.hid hBD
            have HQ := Lib.hid (And.intro hown (And.intro hx1 (And.intro hx2 (And.intro hrs (And.intro hmm ht)))))
            have HQ2 := Lib.hid (And.intro hstj (And.intro hokj (And.intro htkl (And.intro hmore (And.intro hxok (And.intro hx hget))))))
            clear hown hx1 hx2 hrs hmm ht hz0 hxok hwr hstj hokj htkl hTK hBD hget hmore hSW hTKd hF hSJ HJ HBAD
            go_wp2_with fail
            refine HGJ.out.mono ?_
            rintro e w3 ⟨A3, k3, rfl, hown3, hok3, hdok3, hb3⟩
            clear HGJ
            simp only [dlsO] at hown3 hok3
            have hFm : F.length = st.length := HQ2.out.1
            have hst1 := HST.out.1
            obtain ⟨g, rfl, hgb, hrow⟩ := RowD.of_own hown3 (by omega)
            simp only [dcW, Option.map_some, Option.getD_some, Option.isSome_some, dlsO]
            obtain ⟨w4, hw4⟩ : ∃ w4, w4 = w3.alloc (.cells #[.int .i64 dI, .int .i64 dK, .int .i64 dY, .int .i64 dF, .int .i64 dN] 66 (0, 0)) := ⟨_, rfl⟩
            have hb4 : Below w3.heap.size w3 w4 := by rw [hw4]; exact (Below.refl _ _).alloc (Nat.le_refl _) _
            have hb34 := hb3.trans (hb4.mono hb3.size)
            have hrow4 := hrow.keep (hb4.block g hrow.lt)
            have hs4 : w4.heap.size = w3.heap.size + 1 := by rw [hw4]; simp
            obtain ⟨b, off, rfl, hb, hat⟩ := (HL.out w4 (HQ.out.2.2.2.2.2.trans (Touch.of_below hb34))).2.2 (by omega)
            have HAM := Lib.hid (show ∀ W, Touch (fun k => k = q ∨ k = r) w W → W.cell? ⟨b, off + j * 4 + 2, none⟩ = some (.int .i64 z0.n) ∧ W.cell? ⟨b, off + j * 4 + 3, none⟩ = some (.int .i64 z0.a) from fun W hW => rl_amt (HL.out W hW) rfl hx)
            have htw4 := HQ.out.2.2.2.2.2.trans (Touch.of_below hb34)
            have c2 := (HAM.out w4 htw4).1
            rw [hFm] at hrow4 ⊢
            have HB34 := Lib.hid hb34
            clear hown3 hok3 hdok3 hb3 hb4 hrow hat hb hx
            by_cases hneg : z0.n < 0
            · have k1 : decide (z0.n < 0) = true := decide_eq_true hneg
              have hE := liqE_low (st := F) (x := z0) (.inl hneg)
              have HE := Lib.hid (HEND.out w4 HB34.out 7 (by decide) ((HB.out (by rw [hE]; decide)).trans hE))
              have c2' := c2
              rw [hw4] at c2'
              clear hE HB HTK hneg HEND hrow4 HQ HQ2 htw4 hb34 c2
              go_wp2_with fail
              rw [← hw4]
              go_ret2
              exact HE.out
            · have k1 : decide (z0.n < 0) = false := decide_eq_false hneg
              by_cases hge : (st.length : Int) ≤ z0.n
              · have k2 : decide ((st.length : Int) ≤ z0.n) = true := decide_eq_true hge
                have hE := liqE_low (st := F) (x := z0) (.inr (by rw [hFm]; exact hge))
                have HE := Lib.hid (HEND.out w4 HB34.out 7 (by decide) ((HB.out (by rw [hE]; decide)).trans hE))
                have c2' := c2
                rw [hw4] at c2'
                clear hE HB HTK hneg hge HEND hrow4 HQ HQ2 htw4 hb34 c2
                go_wp2_with fail
                rw [← hw4]
                go_ret2
                exact HE.out
              · have k2 : decide ((st.length : Int) ≤ z0.n) = false := decide_eq_false hge
                obtain ⟨i, hi⟩ : ∃ i : Nat, z0.n = i := ⟨z0.n.toNat, by omega⟩
                have hin : i < st.length := by omega
                obtain ⟨z, hz⟩ : ∃ z, F[i]? = some z := ⟨_, List.getElem?_eq_getElem (by rw [hFm]; exact hin)⟩
                have hzok := HQ2.out.2.1 z (List.mem_of_getElem? hz)
                have hEo := liqE_open hi hz
                have hNi := liqN_is hi hz
                have hKi := liqK_is hi hz
                obtain ⟨r0, r1, r2, r3⟩ := hrow4.cells hz
                obtain ⟨w5, hw5⟩ : ∃ w5, w5 = w4.alloc (.cells #[.int .i64 z.nd, .int .i64 z.o, .int .i64 z.l, .int .i64 z.c] 58 (0, 0)) := ⟨_, rfl⟩
                have hb5 : Below w4.heap.size w4 w5 := by rw [hw5]; exact (Below.refl _ _).alloc (Nat.le_refl _) _
                have hblk5 : w5.heap[w4.heap.size]? = some (.cells #[.int .i64 z.nd, .int .i64 z.o, .int .i64 z.l, .int .i64 z.c] 58 (0, 0)) := by rw [hw5]; exact heap_alloc_new w4 _
                have hs5 : w5.heap.size = w4.heap.size + 1 := by rw [hw5]; simp
                have hb45 := hb34.trans (hb5.mono hb34.size)
                have HOP := Lib.hid (rOpen_any z w5.drew)
                have hd := (Below.refl w5.heap.size w5).drew
                have hwr4 := hb34.size
                have HB5 := Lib.hid (show Below wr.heap.size wr w5 ∧ wr.heap.size ≤ w3.heap.size + 1 ∧ w3.heap.size + 1 < w5.heap.size from ⟨hb45, by omega, by omega⟩)
                have KK := Lib.hid (show ∀ W, Below w5.heap.size w5 W → (W.cell? ⟨w3.heap.size + 1, 0, none⟩ = some (.int .i64 z.nd) ∧ W.cell? ⟨w3.heap.size + 1, 1, none⟩ = some (.int .i64 z.o) ∧ W.cell? ⟨w3.heap.size + 1, 2, none⟩ = some (.int .i64 z.l) ∧ W.cell? ⟨w3.heap.size + 1, 3, none⟩ = some (.int .i64 z.c) ∧ W.cell? ⟨b, off + j * 4 + 3, none⟩ = some (.int .i64 z0.a)) ∧ W.heap[w3.heap.size + 1]? = some (.cells #[.int .i64 z.nd, .int .i64 z.o, .int .i64 z.l, .int .i64 z.c] 58 (0, 0)) from fun W hW => by
                  rw [← hs4]
                  have hb := (hW.block w4.heap.size (by omega)).trans hblk5
                  obtain ⟨a0, a1, a2, a3⟩ := docLine_cells hb
                  exact ⟨⟨a0, a1, a2, a3, (HAM.out W (htw4.trans ((Touch.of_below hb5).trans (Touch.of_below hW)))).2⟩, hb⟩)
                have c5 := (KK.out _ hd).1
                have HROW := Lib.hid (And.intro hz hzok)
                have HEO := Lib.hid (And.intro hEo (And.intro hNi hKi))
                rw [hw4] at c2 r0 r1 r2 r3 hw5
                clear hneg hge hrow4 hz hzok hEo hNi hKi hd hblk5 hs5 hb5 hb45 hb34 htw4 hwr4
                obtain ⟨xf, xo, xn, xa⟩ := z0
                obtain ⟨zn, zo, zl, zc⟩ := z
                simp only at hi KK c5 k1 k2 HB HTK HROW HEO HQ2 HAM c2 r0 r1 r2 r3 hw5 HOP
                subst hi
                have hi0 : (0 : Int) ≤ (i : Int) := by omega
                have hin' : (i : Int) < (st.length : Int) := by omega
                go_wp2_with fail
                rw [← hw5]
                clear hw5 hw4 c2 r0 r1 r2 r3
                generalize openL ⟨zn, zo, zl, zc⟩ = oz at HOP HEO
                go_region_held3 (fun W => W.cell? ⟨w3.heap.size + 1, 0, none⟩ = some (.int .i64 zn) ∧ W.cell? ⟨w3.heap.size + 1, 1, none⟩ = some (.int .i64 zo) ∧ W.cell? ⟨w3.heap.size + 1, 2, none⟩ = some (.int .i64 zl) ∧ W.cell? ⟨w3.heap.size + 1, 3, none⟩ = some (.int .i64 zc) ∧ W.cell? ⟨b, off + j * 4 + 3, none⟩ = some (.int .i64 xa))
                  (first | with_reducible exact c5 | exact c5)
                  (first | (go_at_call 56; refine Calls.mono HOP.out ?_; rintro e w6 ⟨rfl, hb6⟩; have hb6 := ((Below.refl w5.heap.size w5).drew).trans hb6; have c5 := (KK.out _ hb6).1))
                have hk6 := (KK.out w6 hb6).2
                have HB6 := Lib.hid (show Below wr.heap.size wr w6 ∧ w3.heap.size + 1 < w6.heap.size ∧ w6.heap[w3.heap.size + 1]? = some (.cells #[.int .i64 zn, .int .i64 zo, .int .i64 zl, .int .i64 zc] 58 (0, 0)) from ⟨HB5.out.1.trans (hb6.mono HB5.out.1.size), Nat.lt_of_lt_of_le HB5.out.2.2 hb6.size, hk6⟩)
                clear c5 hb6 HOP hk6 KK
                obtain ⟨Bb, hBb⟩ : ∃ B, B = decide (oz < xa) := ⟨_, rfl⟩
                rw [← hBb]
                cases Bb with
                | true =>
                  have hop := of_decide_eq_true hBb.symm
                  clear hBb
                  have hE := HEO.out.1.trans (if_pos hop)
                  have HE := Lib.hid (HEND.out w6 HB6.out.1 12 (by decide) ((HB.out (by rw [hE]; decide)).trans hE))
                  clear hE HB HTK hop HEND HEO HROW HQ HQ2
                  go_wp2_with fail
                  go_ret2
                  exact HE.out
                | false =>
                  have hop := of_decide_eq_false hBb.symm
                  clear hBb
                  have hE := HEO.out.1.trans (if_neg hop)
                  have hTK := HTK.out
                  rw [if_pos hE] at hTK
                  have htw6 := HQ.out.2.2.2.2.2.trans (Touch.of_below HB6.out.1)
                  have n2 : w6.drew.cell? ⟨w3.heap.size + 1, 2, none⟩ = some (.int .i64 zl) := (docLine_cells HB6.out.2.2).2.2.1
                  have n3 : w6.drew.cell? ⟨b, off + j * 4 + 3, none⟩ = some (.int .i64 xa) := (HAM.out w6 htw6).2
                  have nf : w6.drew.frozen? ⟨w3.heap.size + 1, 2, none⟩ = false := by
                    have := HB6.out.2.2
                    show w6.frozen? _ = false
                    simp [World.frozen?, this]
                  have hwz : IntKind.i64.wrap (zl + xa) = wrap64 (zl + xa) := wrapA_is _
                  have HTKH := Lib.hid hTK
                  have HTW := Lib.hid htw6
                  clear hE hTK hop HEND HB HTK htw6
                  go_wp2_with fail
                  have HW7 := Lib.hid (show ∃ w7, w7 = (w6.setCell ⟨w3.heap.size + 1, 2, none⟩ (.int .i64 (wrap64 (zl + xa)))).drew ∧ Below wr.heap.size wr w7 ∧ w7.heap[w3.heap.size + 1]? = some (.cells #[.int .i64 zn, .int .i64 zo, .int .i64 (wrap64 (zl + xa)), .int .i64 zc] 58 (0, 0)) ∧ w3.heap.size + 1 < w7.heap.size from by
                    have hb7 := below_box HB6.out.1 HB5.out.2.1 2 (.int .i64 (wrap64 (zl + xa)))
                    have hd7 := (Below.refl (w6.setCell ⟨w3.heap.size + 1, 2, none⟩ (.int .i64 (wrap64 (zl + xa)))).heap.size (w6.setCell ⟨w3.heap.size + 1, 2, none⟩ (.int .i64 (wrap64 (zl + xa))))).drew
                    have hs7 : (w6.setCell ⟨w3.heap.size + 1, 2, none⟩ (.int .i64 (wrap64 (zl + xa)))).heap.size = w6.heap.size := by simp
                    refine ⟨_, rfl, hb7.trans (hd7.mono hb7.size), (hd7.block _ (by rw [hs7]; exact HB6.out.2.1)).trans ?_, by show _ < (w6.setCell _ _).heap.size; rw [hs7]; exact HB6.out.2.1⟩
                    exact heap_setCell_same w6 (w3.heap.size + 1) 2 _ _ _ HB6.out.2.2)
                  go_region_law (fail)
                  all_goals
                    obtain ⟨w7, hw7, hb7, hk7, hs7⟩ := HW7.out
                    rw [← hw7]
                    clear hw7 n2 n3 nf HW7
                    obtain ⟨g0, g1, g2, g3⟩ := docLine_cells hk7
                    have hrs7 := HQ.out.2.2.2.1.below hb7
                    have hget := HQ2.out.2.2.2.2.2.2
                    have hLok : DlOk ⟨zn, zo, wrap64 (zl + xa), zc⟩ := by
                      intro v hv
                      have hz0 := HROW.out.2
                      simp only [List.mem_cons, List.not_mem_nil, or_false] at hv
                      rcases hv with rfl | rfl | rfl | rfl
                      · exact hz0 _ (by simp)
                      · exact hz0 _ (by simp)
                      · unfold wrap64; omega
                      · exact hz0 _ (by simp)
                    have hset := setLine_in hget (j := (i : Int)) (by rw [HQ2.out.1]; omega) ⟨zn, zo, wrap64 (zl + xa), zc⟩
                    have HSET := Lib.hid (rDocsSet_any hrs7 (by have := HS.out.2.2; omega) f (i : Int) ⟨zn, zo, wrap64 (zl + xa), zc⟩ hLok hf (by have := HST.out.2.1; omega))
                    rw [hset] at HSET
                    have hmo := HQ2.out.2.2.2.1
                    simp only [Int.toNat_natCast] at hmo
                    rw [HROW.out.1, Option.getD_some] at hmo
                    have HMO := Lib.hid (show setsJ f S st (l.take (j + 1)) = SJ.putL f (i : Int) ⟨zn, zo, wrap64 (zl + xa), zc⟩ from hmo)
                    have HB7 := Lib.hid (And.intro hb7 (And.intro hk7 hs7))
                    clear hrs7 hget hLok hset hmo hb7 hk7 hs7
                    go_wp2_with fail
                    refine HSET.out.mono ?_
                    rintro e w8 ⟨rfl, h8, t8⟩
                    clear HSET g0 g1 g2 g3
                    obtain ⟨hb7, hk7, hs7⟩ := HB7.out
                    obtain ⟨o1, o2, o3, o4, o5⟩ := H4.out
                    have hww := HQ.out.2.2.2.2.2.size
                    have hs34 := HB5.out.2.1
                    have htw8 : Touch (fun k => k = q ∨ k = r) w w8 := (HQ.out.2.2.2.2.2.trans (Touch.of_below hb7)).trans t8
                    have hk8 := (t8.block (w3.heap.size + 1) hs7 (fun e => by omega)).trans hk7
                    have e0 : w8.drew.cell? ⟨w3.heap.size + 1, 0, none⟩ = some (.int .i64 zn) := (docLine_cells hk8).1
                    have e3 : w8.drew.cell? ⟨b, off + j * 4 + 3, none⟩ = some (.int .i64 xa) := (HAM.out w8 htw8).2
                    have hown8 := HQ.out.1.stays (w' := w8) fun s hs => by
                      have hs2 := HQ.out.1.at_ s hs
                      exact (t8.block s (Nat.lt_of_lt_of_le hs2.2 hb7.size) (fun e => by omega)).trans (hb7.block s hs2.2)
                    have hb9 : Below w8.heap.size w8 (w8.alloc (.cells #[.int .i64 zn, .int .i64 xa, .int .i64 0, .int .i64 0] 58)).drew := ((Below.refl _ _).alloc (Nat.le_refl _) _).drew
                    have hkl : TK.length = j := by rw [HQ2.out.2.2.1, List.length_take]; have := HLEN.out.1; omega
                    have hkok : DlOk ⟨zn, xa, 0, 0⟩ := by
                      intro v hv
                      simp only [List.mem_cons, List.not_mem_nil, or_false] at hv
                      rcases hv with rfl | rfl | rfl | rfl
                      · exact HROW.out.2 _ (by simp)
                      · exact HQ2.out.2.2.2.2.1.2.2.2
                      · omega
                      · omega
                    obtain ⟨v', w10, hrun, hown10, hb10, hgr, hgn⟩ := (hown8.below hb9).append1 DlT (x := ⟨zn, xa, 0, 0⟩) (heap_alloc_new w8 _) rfl hkok (by omega) (Nat.le_trans htw8.size hb9.size) 52
                    obtain ⟨A10, k10, rfl, hk10⟩ := hown10.shape
                    have hl10 : (TK ++ [(⟨zn, xa, 0, 0⟩ : Dl)]).length = j + 1 := by rw [List.length_append, hkl]; rfl
                    rw [hl10] at hrun hown10 hgn
                    have HRUN := Lib.hid hrun
                    have hJ : RTakeRun w w10 X x p q r a (N + (j + 1)) (SJ.putL f (i : Int) ⟨zn, zo, wrap64 (zl + xa), zc⟩) (.slice A10 (j + 1) k10) (TK ++ [(⟨zn, xa, 0, 0⟩ : Dl)]) := by
                      have hg9 := (h8.below hb9).grow hgr (fun s hs => by
                        have hs2 := HQ.out.1.at_ s hs
                        exact ⟨HQ.out.2.2.1 s hs, by omega, by omega, by omega, by omega⟩)
                      refine ⟨hown10, ⟨_, fun k hk => .inl (HQ.out.2.1 k hk), fun s hs => ?_, hg9⟩, many_putL HQ.out.2.2.2.2.1 _ _ _, ⟨hb10.os.trans (hb9.os.trans htw8.os), hb10.tape.trans (hb9.tape.trans htw8.tape), hb10.output.trans (hb9.output.trans htw8.output), Nat.le_trans htw8.size (Nat.le_trans hb9.size hb10.size), fun q hq hn => (hb10.block q hq).trans ((hb9.block q (Nat.lt_of_lt_of_le hq htw8.size)).trans (htw8.block q hq hn))⟩⟩
                      rcases hgn with hgn | hgn
                      · exact .inl (HQ.out.2.2.1 s (hgn.symm.trans hs))
                      · rw [hgn] at hs
                        cases hs
                        exact .inr ⟨rfl, (hown10.at_ _ hgn).2⟩
                    have HJ2 := Lib.hid (show RTakeRun w w10 X x p q r a (N + (j + 1)) (setsJ f S st (l.take (j + 1))) (.slice A10 (j + 1) k10) (liqR st (l.take (j + 1))).1.2 ∧ (liqR st (l.take (j + 1))).2 = 0 from by
                      rw [HMO.out, HTKH.out]
                      exact ⟨by rw [HEO.out.2.2]; exact hJ, rfl⟩)
                    clear h8 t8 hb7 hk7 hs7 o1 o2 o3 o4 o5 hww hs34 htw8 hk8 hown8 hb9 hkl hkok hrun hown10 hb10 hgr hgn hk10 hl10 hJ HB7 HMO HTKH HEO HROW HQ HQ2
                    go_wp2_with fail
                    go_region_law (refine step_runA rfl (.tmp 93) (.tmp 102) _ _ rfl _ _ (by rfl) (by rfl) HRUN.out ?_)
                    all_goals
                      clear HRUN
                      go_wp2_with fail
                      go_roundw
                      case rel => exact ⟨j + 1, by omega, by go_num, ⟨A10, k10, rfl⟩, HJ2⟩
                      case measure => simp [intOf]; omega
          · obtain rfl : j = n := by omega
            have htk : l.take j = l := List.take_of_length_le (by have := HLEN.out.1; omega)
            obtain ⟨⟨hown, ⟨X1, hx1, hx2, hv⟩, hmm, ht⟩, hz0⟩ := HJ.out
            rw [htk] at hown hv hmm hz0
            have hR := HT4'.out hz0
            have HE := Lib.hid (show RTakeDone w wr X x p q r a (N + j) S R (.returned (.tuple #[.slice A' j k', .int .i64 0])) from by
              rw [hR]
              obtain ⟨e1, e2, e3, e4⟩ := H4.out.1
              exact ⟨_, _, rfl, fun _ => rfl, hown, hv.less hx1 e1 e2 e3 e4, hmm, setsJ_W _ _ _ _, ht⟩)
            clear hown hv hmm hz0 ht hR htk HJ hx1 hx2
            go_wp2_with fail
            go_ret2
            exact HE.out
      · have HE := Lib.hid (HBAD.out 12 w2 (by decide) (HT2.out (.inr hdy)) HB12.out)
        have k1 : (d.k != k) = false := by simp [hdk]
        have k2 : (d.y != y) = true := by simp [hdy]
        clear HT2 HT3 HT4 hblk hdk hdy HO
        obtain ⟨dI, dK, dY, dF, dN⟩ := d
        simp only at k1 k2 hw2 q0 q1 q2 q3 q4
        go_wp2_with fail
        rw [← hw2]
        go_ret2
        exact HE.out
    · have HE := Lib.hid (HBAD.out 12 w2 (by decide) (HT2.out (.inl hdk)) HB12.out)
      have k1 : (d.k != k) = true := by simp [hdk]
      clear HT2 HT3 HT4 hblk hdk HO
      obtain ⟨dI, dK, dY, dF, dN⟩ := d
      simp only at k1 hw2 q0 q1 q2 q3 q4
      go_wp2_with fail
      rw [← hw2]
      go_ret2
      exact HE.out
end
end Go.Proofs.YtlcbmobdokicaaaGreat

/-
  The document's New of an encumbrance by contract. What an error leaves is not said, but that nothing is committed. Condition: which numbers are ints.
-/
namespace Go.Proofs.YtlcbmobdokicaaaGreat
open Go.RowKit Go.Maps
set_option maxRecDepth 100000
set_option linter.unusedVariables false

theorem chgL_enc {f : Int} {pp : Int} (hp : pp = if f = 0 then 0 else -1) {z : Dl} (h : DlOk z) : chgL pp 1 0 z = encCh f z := by
  have ho : Nd64 z.o := h _ (by simp)
  unfold chgL encCh encC
  subst hp
  by_cases hf : f = 0
  · subst hf
    simp only [if_true, Int.zero_mul, Int.one_mul]
    rw [wrap_int ho, wrap_int (a := 0) (by unfold Nd64; omega)]
    rfl
  · have h1 : (!(f == 0)) = true := by simp [hf]
    rw [if_neg hf, h1, if_pos rfl, Int.one_mul, Int.zero_mul, wrap_int ho, wrap_int (a := 0) (by unfold Nd64; omega), show -1 * z.o = -z.o by omega]
theorem chgL_encs {f : Int} {pp : Int} (hp : pp = if f = 0 then 0 else -1) {l : List Dl} (h : ∀ z ∈ l, DlOk z) : l.map (chgL pp 1 0) = l.map (encCh f) :=
  List.map_congr_left fun z hz => chgL_enc hp (h z hz)
section
variable {w w' : World} {X : Nat → Prop} {x p q r N : Nat} {a : TL} {S : VS}
set_option maxHeartbeats 12800000 in
theorem rEncNew_any (h : RefS w X x p q r a S N) (hm : ManyS S N) (hN : N ≤ 90000) (hok : ∀ f d st, docGet S f = some (d, st) → ∀ z ∈ st, DlOk z) (y f : Int) (hy : Nd64 y) (hf : Nd64 f) {A : Option Addr} {n cap : Nat} {l : List Ln} (hl : ∀ W, Touch (fun k => k = q ∨ k = r) w W → RL W W.heap.size A n l) (hn : n ≤ maxLen) :
    Calls Tryz.prog 21 #[.pointer (some ⟨x, 0, none⟩), .int .i64 y, .int .i64 f, .slice A n cap] w fun u w' => NewDone w w' X x p q r a (N + 62) S (encNew S y f l) u := by
  have HF := Lib.hid (rFirst_any (cap := cap) h (by omega) y hy (fun W hW => hl W (Touch.of_below hW)) hn)
  have hlen := (hl w (Touch.refl _ _)).len
  have hlok := (hl w (Touch.refl _ _)).ok
  have hown := h.own
  have hqr := And.intro (h.old _ hown.1) (h.old _ hown.2)
  have HLI := Lib.hid (show ∀ W, Below w.heap.size w W → n ≤ 6 → Calls Tryz.prog 39 #[.slice A n cap] W fun e w' => ∃ u, e = .returned u ∧ DlE.Own 58 w' W.heap.size u (l.map lineD) ∧ Below W.heap.size W w' from fun W hW h6 => rLines_any cap (hl W (Touch.of_below hW)) (Nat.le_refl _) (by omega))
  have HTAKE := Lib.hid (show ∀ W, Below w.heap.size w W → n ≤ 6 → Calls Tryz.prog 23 #[.pointer (some ⟨x, 0, none⟩), .int .i64 1, .int .i64 y, .int .i64 f, .slice A n cap] W fun e w' => RTakeDone W w' X x p q r a (N + n) S (takeR S 1 y f l) e from fun W hW h6 => rTake_any (h.below hW) hm (by omega) 1 y f hf (fun V hV => hl V ((Touch.of_below hW).trans hV)) (by omega))
  have e1 : yChk S y ≠ 0 → encNew S y f l = ((0, false, yChk S y), S) := fun h => by rw [encNew_is, if_neg h]
  have e2 : yChk S y = 0 → preChk l ≠ 0 → encNew S y f l = ((0, false, 1), S) := fun h g => by rw [encNew_is, if_pos h, if_neg g]
  have e3 : yChk S y = 0 → preChk l = 0 → f ≠ 0 → (takeR S 1 y f l).1.2 ≠ 0 → encNew S y f l = ((0, false, (takeR S 1 y f l).1.2), (takeR S 1 y f l).2) := fun h g j q => by
    have hE : encL S y f l = takeR S 1 y f l := if_neg j
    rw [encNew_is, if_pos h, if_pos g, hE, if_neg q]
  have e4 : yChk S y = 0 → preChk l = 0 → f ≠ 0 → (takeR S 1 y f l).1.2 = 0 → encNew S y f l = orderR (takeR S 1 y f l).2 y 2 f ((takeR S 1 y f l).1.1.map (encCh f)) (takeR S 1 y f l).1.1 := fun h g j q => by
    have hE : encL S y f l = takeR S 1 y f l := if_neg j
    rw [encNew_is, if_pos h, if_pos g, hE, if_pos q]
  have e5 : yChk S y = 0 → preChk l = 0 → f = 0 → encNew S y f l = orderR S y 2 f ((l.map lineD).map (encCh f)) (l.map lineD) := fun h g j => by
    have hE : encL S y f l = ((l.map lineD, 0), S) := if_pos j
    rw [encNew_is, if_pos h, if_pos g, hE, if_pos rfl]
  have hp01 : preChk l = 0 ∨ preChk l = 1 := by unfold preChk; split; exact .inr rfl; exact .inl rfl
  have HP6 := Lib.hid (fun h => preChk_len (l := l) h)
  have E := Lib.hid (And.intro e1 (And.intro e2 (And.intro e3 (And.intro e4 e5))))
  have HV := Lib.hid (show ∀ W, Below w.heap.size w W → RefS W X x p q r a S N ∧ Touch (fun k => k = q ∨ k = r) w W from fun W hW => ⟨h.below hW, Touch.of_below hW⟩)
  have HM := Lib.hid hm
  have HLEN := Lib.hid (And.intro hlen hlok)
  have HYY := Lib.hid hy
  have HFF := Lib.hid hf
  have HTO := Lib.hid (And.intro (fun h => take_taken (S := S) (k := 1) (y := y) (f := f) (l := l) h) (takeR_ok (k := 1) (y := y) (fun d st hd => hok f d st hd) hlok))
  clear h hm hl hlen hlok e1 e2 e3 e4 e5 hown hok
  obtain ⟨R, hR⟩ : ∃ R, R = encNew S y f l := ⟨_, rfl⟩
  rw [← hR] at E ⊢
  clear hR
  obtain ⟨TR, hTR⟩ : ∃ TR, TR = takeR S 1 y f l := ⟨_, rfl⟩
  rw [← hTR] at E HTAKE HTO
  clear hTR
  obtain ⟨yc, hyc⟩ : ∃ yc, yc = yChk S y := ⟨_, rfl⟩
  rw [← hyc] at HF E
  clear hyc
  obtain ⟨pc, hpc⟩ : ∃ pc, pc = preChk l := ⟨_, rfl⟩
  rw [← hpc] at E HF hp01 HP6
  clear hpc
  have HBAD := Lib.hid (show ∀ (v : Int) W, v ≠ 0 → R = ((0, false, v), S) → Below w.heap.size w W → NewDone w W X x p q r a (N + 62) S R (.returned (.tuple #[.int .i64 0, .bool false, .int .i64 v])) from fun v W hv hR hW => by
    rw [hR]
    exact ⟨S, rfl, fun h => absurd h hv, (HV.out W hW).1.more (by omega), HM.out.more (by omega), rfl, (HV.out W hW).2⟩)
  go_enter Tryz.func21, Tryz.ntmps21
  go_wp2_with fail
  refine HF.out.mono ?_
  rintro e w2 ⟨rfl, h2⟩
  have H2 := Lib.hid h2
  clear h2 HF
  by_cases h0 : yc = 0
  · subst h0
    rw [if_pos rfl]
    rcases hp01 with rfl | rfl
    · obtain ⟨n1, n6, hra⟩ := HP6.out (by first | rfl | trivial)
      rw [HLEN.out.1] at n1 n6
      have HLI2 := Lib.hid (HLI.out w2 H2.out n6)
      have HTAKE2 := Lib.hid (fun W (hW : Below w.heap.size w W) => HTAKE.out W hW n6)
      have HER3 := Lib.hid (fun j => E.out.2.2.1 (by first | rfl | trivial) (by first | rfl | trivial) j)
      have HER4 := Lib.hid (fun j => E.out.2.2.2.1 (by first | rfl | trivial) (by first | rfl | trivial) j)
      have HER5 := Lib.hid (fun j => E.out.2.2.2.2 (by first | rfl | trivial) (by first | rfl | trivial) j)
      clear E HP6 hra HBAD HLI HTAKE
      go_wp2_with fail
      refine HLI2.out.mono ?_
      rintro e w3 ⟨u, rfl, hown, h3⟩
      obtain ⟨A', k', rfl, hk'⟩ := hown.shape
      have h13 := H2.out.trans (h3.mono H2.out.size)
      by_cases hf0 : f = 0
      · subst hf0
        have hl3 : (l.map lineD).length = n := by rw [List.length_map]; exact HLEN.out.1
        rw [hl3] at hown hk' ⊢
        have hdok := dl_lines_ok HLEN.out.2
        have HER := Lib.hid (HER5.out rfl)
        obtain ⟨DL, hDL⟩ : ∃ DL, DL = l.map lineD := ⟨_, rfl⟩
        rw [← hDL] at hown hl3 hdok HER
        obtain ⟨ST, hST⟩ : ∃ ST, ST = S := ⟨_, rfl⟩
        have hs2 := H2.out.size
        have hs3 := h3.size
        have HROW := Lib.hid (show ∀ W, Touch (fun k => k = q ∨ k = r) w3 W → DlE.R W W.heap.size A' n DL from fun W hW => by
          have ho := hown.stays (w' := W) fun g hg => hW.block g (hown.at_ g hg).2 (fun e => by have := (hown.at_ g hg).1; omega)
          exact (ho.read hdok).2.2)
        have hRS := (HV.out w3 h13).1
        have hMM := HM.out
        rw [← hST] at hRS hMM HER
        have HCH := Lib.hid (rChgs_any (cap := k') hRS hMM (by omega) y HYY.out HROW.out (by omega) 0 1 0)
        rw [chgL_encs (f := 0) (by rw [if_pos rfl]) hdok] at HCH
        have HSW := Lib.hid (show ST.W = S.W by rw [hST])
        have HT3 := Lib.hid (And.intro (HV.out w3 h13).2 (And.intro hk' (And.intro hl3 hdok)))
        have HLEN2 := Lib.hid hl3
        clear hown h3 h13 hl3 hdok hk' HLI2 hs2 hs3 hDL hST hRS hMM HTAKE2 HER3 HER4 HER5 HTO HV
        obtain ⟨Rj, hRj⟩ : ∃ Rj, Rj = runC y ST false (DL.map (encCh 0)) := ⟨_, rfl⟩
        rw [← hRj] at HCH
        obtain ⟨⟨bj, ej⟩, Sj⟩ := Rj
        go_wp2_with fail
        refine HCH.out.mono ?_
        rintro u w5 ⟨b, T, rfl, hT, h4, m4, tw4, t4⟩
        simp only at hT ⊢
        clear HCH
        by_cases he : ej = 0
        · subst he
          obtain ⟨rfl, rfl⟩ := hT (by first | rfl | trivial)
          have hER := HER.out
          rw [orderR_put hRj.symm] at hER
          have hDOK : DcOk ⟨0, 2, y, 0, 0⟩ := by
            intro z hz
            simp only [List.mem_cons, List.not_mem_nil, or_false] at hz
            rcases hz with rfl | rfl | rfl | rfl | rfl
            · omega
            · omega
            · exact HYY.out
            · exact HFF.out
            · omega
          have HPUT := Lib.hid (rDocsPut_any h4 (by omega) ⟨0, 2, y, 0, 0⟩ hDOK (HROW.out w5 t4) HT3.out.2.1 (by unfold maxLen; omega))
          have HMP := Lib.hid (many_putDoc m4 ⟨0, 2, y, 0, 0⟩ DL)
          have HWP := Lib.hid (((putDoc_W_ T ⟨0, 2, y, 0, 0⟩ DL).trans tw4).trans HSW.out)
          have HT4 := Lib.hid (HT3.out.1.trans t4)
          have HER2 := Lib.hid hER
          clear hT h4 m4 tw4 t4 hRj hER HER hDOK HROW HT3
          generalize putDoc T ⟨0, 2, y, 0, 0⟩ DL = PD at HPUT HER2 HMP HWP
          obtain ⟨⟨pa, pb⟩, PS⟩ := PD
          simp only at HPUT HER2 HMP HWP
          go_wp2_with fail
          refine HPUT.out.mono ?_
          rintro u w6 ⟨rfl, h5, t5⟩
          by_cases hb : pb = 0
          · subst hb
            have hR := HER2.out.trans (if_pos rfl)
            have HE := Lib.hid (show NewDone w w6 X x p q r a (N + 62) S R (.returned (.tuple #[.int .i64 pa, .bool b, .int .i64 0])) from by
              rw [hR]
              exact ⟨PS, rfl, fun _ => rfl, h5.more (by omega), HMP.out.more (by omega), HWP.out, HT4.out.trans t5⟩)
            clear h5 t5 hR HPUT HER2 HMP HWP HT4
            go_wp2_with fail
            go_ret3
            exact HE.out
          · have k1 : (pb != 0) = true := by simp [hb]
            have hR := HER2.out.trans (if_neg hb)
            have HE := Lib.hid (show NewDone w w6 X x p q r a (N + 62) S R (.returned (.tuple #[.int .i64 0, .bool false, .int .i64 pb])) from by
              rw [hR]
              exact ⟨PS, rfl, fun h => absurd h hb, h5.more (by omega), HMP.out.more (by omega), HWP.out, HT4.out.trans t5⟩)
            clear h5 t5 hR HPUT HER2 HMP HWP HT4 hb
            go_wp2_with fail
            go_ret3
            exact HE.out
        · have k1 : (ej != 0) = true := by simp [he]
          have hR := HER.out.trans (orderR_bad hRj.symm he)
          have HE := Lib.hid (show NewDone w w5 X x p q r a (N + 62) S R (.returned (.tuple #[.int .i64 0, .bool false, .int .i64 ej])) from by
            rw [hR]
            exact ⟨T, rfl, fun h => absurd h he, h4.more (by omega), m4.more (by omega), tw4.trans HSW.out, HT3.out.1.trans t4⟩)
          clear hR h4 m4 tw4 t4 hT HER HROW HT3 he hRj
          go_wp2_with fail
          go_ret3
          exact HE.out
      · have k2 : (f != 0) = true := by simp [hf0]
        have HTK3 := Lib.hid (HTAKE2.out w3 h13)
        have HT13 := Lib.hid (HV.out w3 h13).2
        have HS3 := Lib.hid (Nat.le_trans H2.out.size h3.size)
        have E3 := Lib.hid (HER3.out hf0)
        have E4 := Lib.hid (HER4.out hf0)
        clear hown h3 h13 hk' HLI2 HTAKE2 HER3 HER4 HER5 HV hf0
        obtain ⟨⟨TL_, te⟩, TS⟩ := TR
        simp only at E3 E4 HTO HTK3
        go_wp2_with fail
        refine HTK3.out.mono ?_
        rintro e w4 ⟨u, ST, rfl, hT, own4, rs4, ms4, tw4, tt4⟩
        simp only at hT own4 ⊢
        clear HTK3
        by_cases hte : te = 0
        · subst hte
          obtain rfl := hT (by first | rfl | trivial)
          have HER := Lib.hid (E4.out (by first | rfl | trivial))
          obtain ⟨DL, hDL⟩ : ∃ DL, DL = TL_ := ⟨_, rfl⟩
          subst hDL
          obtain ⟨A2, k2', rfl, hk'⟩ := own4.shape
          have hl3 : DL.length = n := (HTO.out.1 (by first | rfl | trivial)).trans HLEN.out.1
          have hdok : ∀ z ∈ DL, DlOk z := HTO.out.2
          rw [hl3] at own4 hk' ⊢
          have hs3 := HS3.out
          have HROW := Lib.hid (show ∀ W, Touch (fun k => k = q ∨ k = r) w4 W → DlE.R W W.heap.size A2 n DL from fun W hW => by
            have ho := own4.stays (w' := W) fun g hg => hW.block g (own4.at_ g hg).2 (fun e => by have := (own4.at_ g hg).1; omega)
            exact (ho.read hdok).2.2)
          have HCH := Lib.hid (rChgs_any (cap := k2') rs4 ms4 (by omega) y HYY.out HROW.out (by omega) (-1) 1 0)
          rw [chgL_encs (f := f) (by rw [if_neg (by intro e; rw [e] at k2; exact absurd k2 (by decide))]) hdok] at HCH
          have HSW := Lib.hid tw4
          have HT3 := Lib.hid (And.intro (HT13.out.trans tt4) (And.intro hk' (And.intro hl3 hdok)))
          have HLEN2 := Lib.hid hl3
          clear own4 hl3 hdok hk' hs3 rs4 ms4 tw4 tt4 hT E3 E4 HTO HT13 HS3
          obtain ⟨Rj, hRj⟩ : ∃ Rj, Rj = runC y ST false (DL.map (encCh f)) := ⟨_, rfl⟩
          rw [← hRj] at HCH
          obtain ⟨⟨bj, ej⟩, Sj⟩ := Rj
          go_wp2_with fail
          refine HCH.out.mono ?_
          rintro u w5 ⟨b, T, rfl, hT, h4, m4, tw4, t4⟩
          simp only at hT ⊢
          clear HCH
          by_cases he : ej = 0
          · subst he
            obtain ⟨rfl, rfl⟩ := hT (by first | rfl | trivial)
            have hER := HER.out
            rw [orderR_put hRj.symm] at hER
            have hDOK : DcOk ⟨0, 2, y, f, 0⟩ := by
              intro z hz
              simp only [List.mem_cons, List.not_mem_nil, or_false] at hz
              rcases hz with rfl | rfl | rfl | rfl | rfl
              · omega
              · omega
              · exact HYY.out
              · exact HFF.out
              · omega
            have HPUT := Lib.hid (rDocsPut_any h4 (by omega) ⟨0, 2, y, f, 0⟩ hDOK (HROW.out w5 t4) HT3.out.2.1 (by unfold maxLen; omega))
            have HMP := Lib.hid (many_putDoc m4 ⟨0, 2, y, f, 0⟩ DL)
            have HWP := Lib.hid (((putDoc_W_ T ⟨0, 2, y, f, 0⟩ DL).trans tw4).trans HSW.out)
            have HT4 := Lib.hid (HT3.out.1.trans t4)
            have HER2 := Lib.hid hER
            clear hT h4 m4 tw4 t4 hRj hER HER hDOK HROW HT3
            generalize putDoc T ⟨0, 2, y, f, 0⟩ DL = PD at HPUT HER2 HMP HWP
            obtain ⟨⟨pa, pb⟩, PS⟩ := PD
            simp only at HPUT HER2 HMP HWP
            go_wp2_with fail
            refine HPUT.out.mono ?_
            rintro u w6 ⟨rfl, h5, t5⟩
            by_cases hb : pb = 0
            · subst hb
              have hR := HER2.out.trans (if_pos rfl)
              have HE := Lib.hid (show NewDone w w6 X x p q r a (N + 62) S R (.returned (.tuple #[.int .i64 pa, .bool b, .int .i64 0])) from by
                rw [hR]
                exact ⟨PS, rfl, fun _ => rfl, h5.more (by omega), HMP.out.more (by omega), HWP.out, HT4.out.trans t5⟩)
              clear h5 t5 hR HPUT HER2 HMP HWP HT4
              go_wp2_with fail
              go_ret3
              exact HE.out
            · have k1 : (pb != 0) = true := by simp [hb]
              have hR := HER2.out.trans (if_neg hb)
              have HE := Lib.hid (show NewDone w w6 X x p q r a (N + 62) S R (.returned (.tuple #[.int .i64 0, .bool false, .int .i64 pb])) from by
                rw [hR]
                exact ⟨PS, rfl, fun h => absurd h hb, h5.more (by omega), HMP.out.more (by omega), HWP.out, HT4.out.trans t5⟩)
              clear h5 t5 hR HPUT HER2 HMP HWP HT4 hb
              go_wp2_with fail
              go_ret3
              exact HE.out
          · have k1 : (ej != 0) = true := by simp [he]
            have hR := HER.out.trans (orderR_bad hRj.symm he)
            have HE := Lib.hid (show NewDone w w5 X x p q r a (N + 62) S R (.returned (.tuple #[.int .i64 0, .bool false, .int .i64 ej])) from by
              rw [hR]
              exact ⟨T, rfl, fun h => absurd h he, h4.more (by omega), m4.more (by omega), tw4.trans HSW.out, HT3.out.1.trans t4⟩)
            clear hR h4 m4 tw4 t4 hT HER HROW HT3 he hRj
            go_wp2_with fail
            go_ret3
            exact HE.out
        · have k1 : (te != 0) = true := by simp [hte]
          have hR := E3.out hte
          have HE := Lib.hid (show NewDone w w4 X x p q r a (N + 62) S R (.returned (.tuple #[.int .i64 0, .bool false, .int .i64 te])) from by
            rw [hR]
            exact ⟨ST, rfl, fun h => absurd h hte, rs4.more (by omega), ms4.more (by omega), tw4, HT13.out.trans tt4⟩)
          clear hR own4 rs4 ms4 tw4 tt4 hT E3 E4 HTO HT13 HS3 hte
          go_wp2_with fail
          go_ret3
          exact HE.out
    · have HE := Lib.hid (HBAD.out 1 w2 (by decide) (E.out.2.1 (by first | rfl | trivial) (by decide)) H2.out)
      clear E HP6 HBAD HLI HTAKE
      go_wp2_with fail
      go_ret3
      exact HE.out
  · have k1 : (yc != 0) = true := by simp [h0]
    rw [if_neg h0]
    have HE := Lib.hid (HBAD.out yc w2 h0 (E.out.1 h0) H2.out)
    clear E HP6 HBAD HLI HTAKE h0
    go_wp2_with fail
    go_ret3
    exact HE.out
end
end Go.Proofs.YtlcbmobdokicaaaGreat

/-
  Calls of either view whose answer lies in new blocks: these may be the caller's own. No condition beyond what each says.
-/
namespace Go.Proofs.YtlcbmobdokicaaaGreat
open Go.RowKit Go.Maps
set_option maxRecDepth 100000
set_option linter.unusedVariables false

section
variable {w w' w0 : World} {v m c x B N : Nat} {Y Z : Nat → Prop} {S T : VS}
theorem Duo.viewN (h : Duo Y w0 B N v m c x S T w) (hB : B ≤ w.heap.size) {S' : VS} {M : Nat} {f : FuncId} {args : Array Value} {P : Ending → World → Prop} (hS : ManyS S N → ManyS S' M) (hW : S'.W = S.W) (hM : N ≤ M)
    (H : ∀ X, ViewAt w X v m c S → ManyS S N → (∀ k, X k → B ≤ k) → Calls Tryz.prog f args w fun e w' => P e w' ∧ ViewAt w' X v m c S' ∧ Touch (fun k => k = c) w w') :
    Calls Tryz.prog f args w fun e w' => P e w' ∧ (∀ Z : Nat → Prop, (∀ k, Z k → Y k ∨ (w.heap.size ≤ k ∧ k < w'.heap.size)) → Duo Z w0 B M v m c x S' T w') ∧ KeptB Y B w w' := by
  obtain ⟨X, p, q, r, a, h1, h2, h3, h4, h5, h6, h7, h8, h9⟩ := h
  refine (H X h1 h4 fun k hk => (h7 k hk).1).mono ?_
  rintro e w1 ⟨hp, hv, ht⟩
  have hcB : ∀ k, k = c → B ≤ k := fun k hk => by rw [hk]; exact (h7 _ h1.xc).1
  have hb : Below B w w1 := ht.below hcB hB
  obtain ⟨b, d, hr, hl, hb', hd'⟩ := h2
  have hr1 : RefAt w1 X x p q r a b d := hr.keep ht.size (fun _ _ h => h) (fun _ h => h) (fun k hk => Nat.lt_of_lt_of_le (hr.old k hk) ht.size) (fun k hk hh => ht.block k hk fun e => by
    obtain ⟨f1, f2, f3, f4⟩ := h3 c (.inr (.inr rfl))
    rw [e] at hh
    rcases hh with hh | hh | hh | hh | hh
    · exact f1 hh
    · exact f2 hh
    · exact f3 hh
    · exact f4 hh
    · exact hh h1.xc)
  refine ⟨hp, fun Z hZ => ⟨X, p, q, r, a, hv, ⟨b, d, hr1, hl, Nat.le_trans hb' hM, Nat.le_trans hd' hM⟩, h3, hS h4, h5.more hM, hW.trans h6, fun k hk => ⟨(h7 k hk).1, fun hz => ?_⟩, fun k hk => ?_, h9.trans hb⟩, fun k hk => ht.block k (h8 k hk) fun e => (h7 c h1.xc).2 (e ▸ hk), ht.size, hb⟩
  · rcases hZ k hz with hy | hy
    · exact (h7 k hk).2 hy
    · have := h1.lt k hk
      omega
  · rcases hZ k hk with hy | hy
    · exact Nat.lt_of_lt_of_le (h8 k hy) ht.size
    · exact hy.2
theorem Duo.docOk (h : Duo Y w0 B N v m c x S S w) {f : Int} {d : Dc} {st : List Dl} (hd : docGet S f = some (d, st)) : ∀ z ∈ st, DlOk z := by
  obtain ⟨X, hX⟩ := h.view_
  exact hX.docOk hd
end
end Go.Proofs.YtlcbmobdokicaaaGreat
