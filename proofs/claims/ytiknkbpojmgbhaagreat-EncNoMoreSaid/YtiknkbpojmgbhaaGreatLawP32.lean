/-
  What the law of enc begins with, and how it ends a call: both views. No condition beyond what each says.
-/
import Derived.Test.YtiknkbpojmgbhaaGreatEncM
import Derived.Test.YtiknkbpojmgbhaaGreatDuo
import Derived.Test.YtiknkbpojmgbhaaGreatPreO
import Derived.Test.YtiknkbpojmgbhaaGreatCtlR
namespace Go.Proofs.YtiknkbpojmgbhaaGreat
open Go.RowKit Go.Maps
set_option maxRecDepth 100000
set_option linter.unusedVariables false

section
variable {w w' w0 : World} {v m c x B N : Nat} {Y Z : Nat → Prop} {S T : VS}
theorem ryOpenS32 {X : Nat → Prop} {p q r : Nat} {a : TL} (h : ZP w X x p q r a S N) (hN : N ≤ 1000000000) (n : Int) (hn : ZS n) :
    Calls Tryz.prog 44 #[.pointer (some ⟨x, 0, none⟩), .int .i64 n] w fun e w' => e = .returned (.int .i64 (ZdH (S.now (ZbO n)) n)) ∧ ZP w' X x p q r a (S.open_ n) (N + 1) ∧ Za (fun k => k = q ∨ k = r) w w' := by
  obtain ⟨b, d, h1, h2, h3, h4⟩ := h
  have := ZlD h1 (Nat.le_trans h3 (by omega)) (Nat.le_trans h4 (by omega)) n hn
  rw [h2.now] at this
  refine this.mono ?_
  rintro e w' ⟨rfl, h5, h6⟩
  refine ⟨rfl, ?_, h6⟩
  unfold VS.open_
  by_cases e0 : ZdH (S.now (ZbO n)) n = 0
  · rw [if_pos e0, if_pos e0] at h5
    rw [if_pos e0]
    exact ⟨_, _, h5, h2.put _ _, Nat.le_trans (ZL _ _ _) (Nat.succ_le_succ h3), Nat.le_trans (ZL _ _ _) (Nat.succ_le_succ h4)⟩
  · rw [if_neg e0, if_neg e0] at h5
    rw [if_neg e0]
    exact ⟨_, _, h5, h2, Nat.le_succ_of_le h3, Nat.le_succ_of_le h4⟩
/-- What begun leaves. -/
def Begun32 (w w' : World) (S : VS) (N : Nat) (u : Ending) : Prop :=
  ∃ v m c x, u = .returned (.tuple #[.pointer (some ⟨v, 0, none⟩), .pointer (some ⟨x, 0, none⟩)]) ∧ Duo (fun _ => False) w w.heap.size N v m c x S S w'
set_option maxHeartbeats 6400000 in
theorem begun32_any {w : World} {A : Option Addr} {n cap : Nat} {l : List Nd} (hr : NdE.R w w.heap.size A n l) (hn : n ≤ 1000) :
    Calls Tryz.prog 9 #[.slice A n cap] w fun u w' => Begun32 w w' (Zau l) (2 + 2 * n) u := by
  have HR := Lib.hid hr
  have HN := Lib.hid (ZpA w (fun _ => False) (fun k h => h.elim))
  have HM := Lib.hid (fun W => Zmm W)
  clear hr
  go_enter Tryz.func9, Tryz.ntmps9
  go_wp2_with fail
  refine HN.out.mono ?_
  rintro u w1 ⟨v, m, c, rfl, h1, hb1, hv, hm, hc⟩
  have HM1 := Lib.hid (HM.out w1)
  have H1 := Lib.hid (And.intro h1 (And.intro hb1 (And.intro hv (And.intro hm hc))))
  clear h1 hb1 hv hm hc HN HM
  go_wp2_with fail
  refine HM1.out.mono ?_
  rintro u w2 ⟨rfl, h2, hb2⟩
  obtain ⟨x, hx⟩ : ∃ x, x = w1.heap.size + 3 := ⟨_, rfl⟩
  rw [← hx] at h2 ⊢
  obtain ⟨h1, hb1, hv, hm, hc⟩ := H1.out
  have hd2 := Zm7 h1 h2 hb2 hv hm hc hb1.size
  have hbw := hb1.trans (hb2.mono hb1.size)
  have hD : Duo (fun _ => False) w w.heap.size 0 v m c x ⟨[], []⟩ ⟨[], []⟩ w2 := by
    obtain ⟨X, p, q, r, a, z1, z2, z3, z4, z5, z6, z7, z8, z9⟩ := hd2
    exact ⟨X, p, q, r, a, z1, z2, z3, z4, z5, z6, z7, z8, hbw⟩
  have HO := Lib.hid (hD.view (M := 1) (S' := Zkk) (P := fun e _ => e = .returned (.int .i64 (ZdH ((⟨[], []⟩ : VS).now (ZbO 2020)) 2020))) hbw.size (fun _ => ZdX) rfl (by omega) (fun X hX hmx _ => (Zot hX 2020 (by omega) (by show 0 < maxLen; unfold maxLen; omega)).mono fun e w' ⟨a, b, c⟩ => ⟨a, by rw [Zlp] at b; exact b, c⟩))
  rw [ZgA] at HO
  have HBW := Lib.hid hbw.size
  clear h1 hb1 hv hm hc hd2 hbw hD h2 hb2 hx H1 HM1
  go_wp2_with fail
  refine HO.out.mono ?_
  rintro u w3 ⟨rfl, h3, k3⟩
  have HO2 := Lib.hid (h3.ref (M := 2) (P := fun e _ T' => e = .returned (.int .i64 0) ∧ T' = Zkk) (Nat.le_trans HBW.out k3.size) (by omega) (fun X p q r a hX hmx hB => (ryOpenS32 hX (by omega) 2020 (by unfold ZS; omega)).mono fun e w' ⟨a, b, c⟩ => ⟨Zkk, ⟨by rw [a, ZgA], rfl⟩, by rw [Zlp] at b; exact b, ZdX.more (by omega), rfl, c⟩))
  have HK3 := Lib.hid (Nat.le_trans HBW.out k3.size)
  clear h3 k3 HO HBW
  go_wp2_with fail
  refine HO2.out.mono ?_
  rintro u w4 ⟨T', ⟨rfl, rfl⟩, h4, k4⟩
  have H0 := Lib.hid (show Duo (fun _ => False) w w.heap.size (2 + 2 * 0) v m c x (Zau (l.take 0)) (Zau (l.take 0)) w4 ∧ w.heap.size ≤ w4.heap.size from ⟨h4, Nat.le_trans HK3.out k4.size⟩)
  clear h4 k4 HO2 HK3
  go_wp2_with fail
  go_loopw [16] (fun iv wr => ∃ j : Nat, j ≤ n ∧ iv = .int .i64 j ∧ Hid (Duo (fun _ => False) w w.heap.size (2 + 2 * j) v m c x (Zau (l.take j)) (Zau (l.take j)) wr ∧ w.heap.size ≤ wr.heap.size)) (fun iv _ => n - (intOf iv).toNat)
  case atStart => exact ⟨0, Nat.zero_le _, rfl, H0⟩
  case round =>
    clear H0
    obtain ⟨j, hj, rfl, HJ⟩ := hrel
    by_cases hlt : j < n
    · have hlt' : (j : Int) < (n : Int) := by omega
      have hj0 : (0 : Int) ≤ (j : Int) := by omega
      obtain ⟨hdj, hwr⟩ := HJ.out
      obtain ⟨z, hz⟩ : ∃ z, l[j]? = some z := ⟨_, List.getElem?_eq_getElem (by rw [HR.out.len]; exact hlt)⟩
      have hzok := HR.out.ok z (List.mem_of_getElem? hz)
      obtain ⟨b, off, rfl, hb, hat⟩ := Zqy (HR.out.below hdj.was) hz
      obtain ⟨c0, c1, c2, c3, c4, c5, c6, c7, c8, c9, c10, c11⟩ := ZqU hat
      obtain ⟨wb, hwb⟩ : ∃ wb, wb = wr.alloc (.cells #[.int .i64 2020, .int .i64 z.i, .int .i64 z.p, .int .i64 z.f, .int .i64 z.o, .bool z.ab, .int .i64 z.li, .int .i64 z.pr, .int .i64 z.en, .int .i64 z.ex, .int .i64 z.la, .int .i64 z.ca] 40 (0, 0)) := ⟨_, rfl⟩
      have hbb : Below wr.heap.size wr wb := by rw [hwb]; exact (Below.refl _ _).alloc (Nat.le_refl _) _
      have hblk : wb.heap[wr.heap.size]? = some (.cells #[.int .i64 2020, .int .i64 z.i, .int .i64 z.p, .int .i64 z.f, .int .i64 z.o, .bool z.ab, .int .i64 z.li, .int .i64 z.pr, .int .i64 z.en, .int .i64 z.ex, .int .i64 z.la, .int .i64 z.ca] 40 (0, 0)) := by rw [hwb]; exact heap_alloc_new wr _
      have hsz : wb.heap.size = wr.heap.size + 1 := by rw [hwb]; simp
      have hown := hdj.own (Z := fun k => k = wr.heap.size) hwr hbb (fun k hk => .inr (by rw [hk]; omega))
      have HP := Lib.hid (hown.view (M := 3 + 2 * j) (S' := (Zau (l.take j)).putN (ZmI z)) (P := fun e _ => e = .returned (.int .i64 0)) (Nat.le_trans hwr hbb.size) (fun hms => (hms.put (by rw [ZkG]; omega) _).more (by omega)) rfl (by omega) (fun X hX hmx _ => (ZfD hX (ZmI z) (Zkj hzok) (by have := hmx.len; unfold maxLen; omega)).mono fun e w' ⟨a, b, c⟩ => ⟨a, b, c⟩))
      have HBK := Lib.hid (show ∀ W, ZbP (fun k => k = wr.heap.size) w.heap.size wb W → W.heap[wr.heap.size]? = some (.cells #[.int .i64 2020, .int .i64 z.i, .int .i64 z.p, .int .i64 z.f, .int .i64 z.o, .bool z.ab, .int .i64 z.li, .int .i64 z.pr, .int .i64 z.en, .int .i64 z.ex, .int .i64 z.la, .int .i64 z.ca] 40 (0, 0)) ∧ w.heap.size ≤ W.heap.size from fun W hW => ⟨(hW.1 _ rfl).trans hblk, Nat.le_trans (Nat.le_trans hwr hbb.size) hW.size⟩)
      have HOK := Lib.hid (Zkj hzok)
      have HST := Lib.hid (Zkl hz)
      clear hdj hwr hz hzok hb hat hbb hblk hsz hown HJ
      go_wp2_with fail
      rw [← hwb]
      clear hwb c0 c1 c2 c3 c4 c5 c6 c7 c8 c9 c10 c11
      refine HP.out.mono ?_
      rintro u w5 ⟨rfl, h5, k5⟩
      obtain ⟨hk5, hs5⟩ := HBK.out w5 k5
      obtain ⟨y0, y1, y2, y3, y4, y5, y6, y7, y8, y9, y10, y11⟩ := Zq hk5
      have HQ := Lib.hid (h5.ref (M := 4 + 2 * j) (P := fun e _ T' => e = .returned (.int .i64 0) ∧ T' = (Zau (l.take j)).putN (ZmI z)) hs5 (by omega) (fun X p q r a hX hmx hB => by
        have hPN := hmx.put (x := nKy (ZmI z).y (ZmI z).i) (by rw [ZkG]; omega) (ZhO (ZmI z))
        refine (Zh7 hX (by omega) (ZmI z) HOK.out).mono ?_
        rintro e w' ⟨rfl, q1, q2⟩
        exact ⟨_, ⟨rfl, rfl⟩, q1.more (by omega), hPN.more (by omega), rfl, q2⟩))
      clear h5 k5 HP hk5
      go_wp2_with fail
      refine HQ.out.mono ?_
      rintro u w6 ⟨T', ⟨rfl, rfl⟩, h6, k6⟩
      have HJ := Lib.hid (show Duo (fun _ => False) w w.heap.size (2 + 2 * (j + 1)) v m c x (Zau (l.take (j + 1))) (Zau (l.take (j + 1))) w6 ∧ w.heap.size ≤ w6.heap.size from ⟨by
        rw [HST.out, show 2 + 2 * (j + 1) = 4 + 2 * j by omega]
        exact h6.own (Nat.le_trans hs5 k6.size) (Below.refl _ _) (fun k hk => hk.elim), Nat.le_trans hs5 k6.size⟩)
      clear h6 k6 HQ y0 y1 y2 y3 y4 y5 y6 y7 y8 y9 y10 y11 HST HOK HBK hs5
      go_wp2_with fail
      go_roundw
      case rel => exact ⟨j + 1, by omega, by go_num, HJ⟩
      case measure => simp [intOf]; omega
    · obtain rfl : j = n := by omega
      have htk : l.take j = l := List.take_of_length_le (by have := HR.out.len; omega)
      have hdj := HJ.out.1
      rw [htk] at hdj
      have HE := Lib.hid (show Begun32 w wr (Zau l) (2 + 2 * j) (.returned (.tuple #[.pointer (some ⟨v, 0, none⟩), .pointer (some ⟨x, 0, none⟩)])) from ⟨v, m, c, x, rfl, hdj⟩)
      clear hdj HJ htk
      go_wp2_with fail
      go_ret2
      exact HE.out
end
end Go.Proofs.YtiknkbpojmgbhaaGreat
