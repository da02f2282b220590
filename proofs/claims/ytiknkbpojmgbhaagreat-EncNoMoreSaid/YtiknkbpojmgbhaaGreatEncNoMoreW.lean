/-
  EncNoMore: it returns true. No condition beyond those that the statement itself says.
-/
import Derived.Test.YtiknkbpojmgbhaaGreatEncM
import Derived.Test.YtiknkbpojmgbhaaGreatLawA32
import Derived.Test.YtiknkbpojmgbhaaGreatEncJ
import Derived.Test.YtiknkbpojmgbhaaGreatEncQ
import Derived.Test.YtiknkbpojmgbhaaGreatDocE
namespace Go.Proofs.YtiknkbpojmgbhaaGreat
open Go.RowKit Go.Maps
set_option maxRecDepth 100000
set_option linter.unusedVariables false

theorem meas_step {n i : Nat} (h : i + 1 ≤ n) : n - (((i + 1 : Nat) : Int)).toNat < n - ((i : Int)).toNat := by omega
set_option maxHeartbeats 12800000 in
theorem encNoMoreLaw_any {w : World} {A : Option Addr} {n cap : Nat} {l : List Nd} (hr : NdE.R w w.heap.size A n l) (hcap : n ≤ cap) (hn : n ≤ maxLen) (a b d : Int) (ha : 0 ≤ a ∧ a < 4294967296) (hb : 0 ≤ b ∧ b < 4294967296) (hd : 0 ≤ d ∧ d < 65536) :
    Calls Tryz.prog 3 #[.slice A n cap, .int .u32 a, .int .u32 b, .int .u16 d] w fun e w' => e = .returned (.bool true) ∧ Below w.heap.size w w' := by
  have HA := Lib.hid (fun W => awake32_any W)
  have HEND := Lib.hid (show ∀ W, Below w.heap.size w W → Calls Tryz.prog 8 #[] W fun e w' => e = .returned (.bool true) ∧ Below w.heap.size w w' from fun W hW => (awake32_any W).mono fun e w' h => ⟨h.1, hW.trans (h.2.mono hW.size)⟩)
  have hlen := hr.len
  obtain ⟨m, hm⟩ : ∃ m, 1 + a = m := ⟨_, rfl⟩
  have hmb : 1 ≤ m ∧ m ≤ 4294967296 := by omega
  obtain ⟨p, hp⟩ : ∃ p, 1 + b % m = p := ⟨_, rfl⟩
  have hpb : 1 ≤ p ∧ p ≤ m := by
    have h1 := Int.emod_nonneg b (b := m) (by omega)
    have h2 := Int.emod_lt_of_pos b (b := m) (by omega)
    omega
  have w1 : wrap64 m = m := by unfold wrap64; omega
  have w1' : IntKind.i64.wrap m = m := by rw [Zb7]; exact w1
  have w2 : wrap64 p = p := by unfold wrap64; omega
  have w2' : IntKind.i64.wrap p = p := by rw [Zb7]; exact w2
  have r1 : Int.tmod b m = b % m := Int.tmod_eq_emod_of_nonneg hb.1
  unfold maxLen at hn
  by_cases h20 : n ≤ 20
  · have k0 : decide ((n : Int) > 20) = false := decide_eq_false (by omega)
    have HBG := Lib.hid (begun32_any (cap := cap) hr (Nat.le_trans h20 (by omega)))
    have HB := Lib.hid (And.intro hmb (And.intro hpb (And.intro hd (And.intro h20 hlen))))
    clear hr hmb hpb hlen hcap HA
    go_enter Tryz.func3, Tryz.ntmps3
    go_wp2_with fail
    refine HBG.out.mono ?_
    rintro u wa ⟨v, mm, c, x, rfl, h2⟩
    obtain ⟨X, hX⟩ := h2.view_
    have hcw := hX.lt c hX.xc
    have hcB : w.heap.size ≤ c := by
      obtain ⟨X', p', q, r, a', z1, z2, z3, z4, z5, z6, z7, z8, z9⟩ := h2
      exact (z7 c z1.xc).1
    have hb2 : Below w.heap.size w wa := h2.was
    have hmany := h2.many.1
    obtain ⟨w3, hw3⟩ : ∃ w3, w3 = wa.alloc (.cells #[.int .i64 0, .int .i64 0, .int .i64 d, .int .i64 m] 34 (0, 0)) := ⟨_, rfl⟩
    have hb3 : Below wa.heap.size wa w3 := by rw [hw3]; exact (Below.refl _ _).alloc (Nat.le_refl _) _
    have hlok : Za7 ⟨0, 0, d, m⟩ := by
      have h1 := HB.out.1
      have h2 := HB.out.2.2.1
      exact ⟨⟨by show _ ≤ (0 : Int); decide, by show (0 : Int) ≤ _; decide⟩, ⟨by show _ ≤ (0 : Int); decide, by show (0 : Int) ≤ _; decide⟩, ⟨by show _ ≤ d; omega, by show d ≤ _; omega⟩, ⟨by show _ ≤ m; omega, by show m ≤ _; omega⟩⟩
    have HP := Lib.hid (preNew_any (cap := 1) (hX.below hb3) (y := 2020) (by unfold ZS; omega) (l := [⟨0, 0, d, m⟩]) (fun W hW => line_lit32 (w := wa) (x := ⟨0, 0, d, m⟩) hlok (Nat.ne_of_lt hcw) (by rw [hw3] at hW; exact hW)) (Nat.le_refl 1) (by unfold maxLen; omega) (by have := hmany.len; have := HB.out.2.2.2.1; omega))
    have HFACT := Lib.hid (fun (r : Int × Bool × Int) (S1 : VS) (hr : preNew (Zau l) 2020 [⟨0, 0, d, m⟩] = (r, S1)) (hr0 : r.2.2 = 0) (hok1 : ∀ n i, nodeAt S1 2020 i = some n → ZbR n) => enc_nomore (begunS_ok l) (begunS_year l) (begunS_seq l) (fun n i hn => hX.nodeOk hn) hok1 HB.out.2.2.1 HB.out.1 hr hr0 HB.out.2.1)
    have HM := Lib.hid (many_preNew hmany 2020 [⟨0, 0, d, m⟩])
    have HB3 := Lib.hid (And.intro (hb2.trans (hb3.mono hb2.size)) hcB)
    clear h2 hX hb2 hb3 hcB hcw HBG hmany hlok
    obtain ⟨R, hR⟩ : ∃ R, R = preNew (Zau l) 2020 [⟨0, 0, d, m⟩] := ⟨_, rfl⟩
    have HRR := Lib.hid hR
    rw [← hR] at HP HM
    clear hR
    obtain ⟨⟨ra, rb, re⟩, S1⟩ := R
    simp only at HP HM
    go_wp2_with fail
    rw [← hw3]
    clear hw3
    refine HP.out.mono ?_
    rintro u w4 ⟨rfl, h4, t4⟩
    have hb4 : Below w.heap.size w w4 := HB3.out.1.trans (t4.below (fun k hk => by rw [hk]; exact HB3.out.2) HB3.out.1.size)
    by_cases he : re = 0
    · subst he
      obtain ⟨f1, f2, f3⟩ := HFACT.out _ _ HRR.out.symm (by first | rfl | trivial) (fun n i hn => h4.nodeOk hn)
      have f1' : ra = 1 := f1
      subst f1'
      have hcw4 := h4.lt c h4.xc
      have HAL := Lib.hid (scansM h4 HM.out (by have := HB.out.2.2.2.1; omega) 2020 (by unfold ZS; omega))
      obtain ⟨L1, hL1⟩ : ∃ L1, L1 = allN S1 2020 := ⟨_, rfl⟩
      unfold NoMore at f3
      rw [← hL1] at HAL f3
      have hL1n := many_all HM.out 2020
      rw [← hL1] at hL1n
      have H4 := Lib.hid (And.intro h4 (And.intro hb4 (And.intro hcw4 HB3.out.2)))
      have HM1 := Lib.hid (And.intro HM.out hL1n)
      obtain ⟨E, hE⟩ : ∃ E, E = encNew S1 2020 1 [⟨0, 0, 0, p⟩] := ⟨_, rfl⟩
      rw [← hE] at f3
      have HEE := Lib.hid hE
      have HF := Lib.hid f3
      clear h4 t4 hb4 f1 f2 f3 hcw4 HP HFACT HM HB3 HRR hL1 hL1n hE
      go_wp2_with fail
      refine HAL.out.mono ?_
      rintro u w5 ⟨uv, rfl, own5, ok5, hb5⟩
      obtain ⟨A5, k5, rfl, hk5⟩ := own5.shape
      obtain ⟨w6, hw6⟩ : ∃ w6, w6 = w5.alloc (.cells #[.int .i64 0, .int .i64 0, .int .i64 0, .int .i64 p] 34 (0, 0)) := ⟨_, rfl⟩
      have hb6 : Below w5.heap.size w5 w6 := by rw [hw6]; exact (Below.refl _ _).alloc (Nat.le_refl _) _
      have hplok : Za7 ⟨0, 0, 0, p⟩ := by
        have h1 := HB.out.1
        have h2 := HB.out.2.1
        exact ⟨⟨by show _ ≤ (0 : Int); decide, by show (0 : Int) ≤ _; decide⟩, ⟨by show _ ≤ (0 : Int); decide, by show (0 : Int) ≤ _; decide⟩, ⟨by show _ ≤ (0 : Int); decide, by show (0 : Int) ≤ _; decide⟩, ⟨by show _ ≤ p; omega, by show p ≤ _; omega⟩⟩
      have hc5 : c < w5.heap.size := Nat.lt_of_lt_of_le H4.out.2.2.1 hb5.size
      have HN := Lib.hid (ZlJ (cap := 1) ((H4.out.1.below hb5).below hb6) (y := 2020) (f := 1) (by unfold ZS; omega) (by unfold ZS; omega) (l := [⟨0, 0, 0, p⟩]) (fun W hW => line_lit32 (w := w5) (x := ⟨0, 0, 0, p⟩) hplok (Nat.ne_of_lt hc5) (by rw [hw6] at hW; exact hW)) (Nat.le_refl 1) (by unfold maxLen; omega) (by have := HM1.out.1.len; have := HB.out.2.2.2.1; omega))
      rw [← HEE.out] at HN
      have HM2 := Lib.hid (show Zv E.2 (2 + 2 * n + 56 + 62) from by rw [HEE.out]; exact Zkh HM1.out.1 2020 1 _)
      have hb56 := H4.out.2.1.trans ((hb5.trans (hb6.mono hb5.size)).mono H4.out.2.1.size)
      have own6 := own5.below hb6
      have H6 := Lib.hid (And.intro hb56 (And.intro own6 (And.intro ok5 (And.intro hk5 (And.intro H4.out.2.2.1 (And.intro H4.out.2.2.2 hb6.size))))))
      clear own5 ok5 hb5 hb6 hplok hc5 hb56 own6 hk5 HAL HEE
      obtain ⟨⟨ea, eb, ee⟩, ES⟩ := E
      simp only at HN HM2 HF
      go_wp2_with fail
      rw [← hw6]
      clear hw6
      refine HN.out.mono ?_
      rintro u w7 ⟨rfl, h7, t7⟩
      have hb7 : Below w.heap.size w w7 := H6.out.1.trans (t7.below (fun k hk => by rw [hk]; exact H6.out.2.2.2.2.2.1) H6.out.1.size)
      have own7 := H6.out.2.1.stays (w' := w7) fun q hq => by
        have hq2 := H6.out.2.1.at_ q hq
        exact t7.block q hq2.2 (fun e => by have := H6.out.2.2.2.2.1; omega)
      have hrow7 := (own7.read H6.out.2.2.1).2.2
      have hL1m : L1.length ≤ maxLen := by have := HM1.out.2; have := HB.out.2.2.2.1; unfold maxLen; omega
      have HK5 := Lib.hid H6.out.2.2.2.1
      clear HN t7 own7 H6 H4
      rcases HF.out with q9 | ⟨q11, z, hz, hzu⟩ | ⟨q0, qb, qlen, qsame, d0, z0, qget, qr, ql⟩
      · have q9' : ee = 9 := q9
        subst q9'
        have HE := Lib.hid (HEND.out w7 hb7)
        clear h7 hb7 hrow7 HF HM2 q9
        go_wp2_with fail
        refine HE.out.mono ?_
        rintro u w8 ⟨rfl, h8⟩
        have HE2 := Lib.hid h8
        clear h8
        go_wp2_with fail
        go_ret
        exact ⟨rfl, HE2.out⟩
      · have q11' : ee = 11 := q11
        subst q11'
        have hany : L1.any overN = true := List.any_eq_true.2 ⟨z, hz, decide_eq_true hzu⟩
        have HC := Lib.hid (over_any k5 hrow7 hL1m (Nat.le_refl _))
        rw [hany] at HC
        have HE := Lib.hid (fun W (hW : Below w7.heap.size w7 W) => HEND.out W (hb7.trans (hW.mono hb7.size)))
        clear h7 hb7 hrow7 HF HM2 q11 hany hz hzu
        go_wp2_with fail
        refine HC.out.mono ?_
        rintro u w8 ⟨rfl, h8⟩
        have HE2 := Lib.hid (HE.out w8 h8)
        clear h8 HC HE
        go_wp2_with fail
        refine HE2.out.mono ?_
        rintro u w9 ⟨rfl, h9⟩
        have HE3 := Lib.hid h9
        clear h9
        go_wp2_with fail
        go_ret
        exact ⟨rfl, HE3.out⟩
      · have q0' : ee = 0 := q0
        have qb' : eb = false := qb
        subst q0' qb'
        have qlen' : (allN ES 2020).length = L1.length := qlen
        have qsame' : ∀ (k : Nat) (a b : Nd), L1[k]? = some a → (allN ES 2020)[k]? = some b → usedN b = usedN a := qsame
        have qget' : docGet ES 1 = some (d0, [z0]) := qget
        have HAL := Lib.hid (scansM h7 HM2.out (by have := HB.out.2.2.2.1; omega) 2020 (by unfold ZS; omega))
        obtain ⟨L2, hL2⟩ : ∃ L2, L2 = allN ES 2020 := ⟨_, rfl⟩
        rw [← hL2] at HAL qlen' qsame'
        have HQ := Lib.hid (And.intro qlen' (And.intro qsame' (And.intro qget' (And.intro qr ql))))
        have H7 := Lib.hid (And.intro h7 (And.intro hb7 (And.intro hrow7 hL1m)))
        clear h7 hb7 hrow7 hL1m HF HM2 q0 qb qlen qsame qget qlen' qsame' qget' qr ql hL2
        go_wp2_with fail
        refine HAL.out.mono ?_
        rintro u w8 ⟨uv, rfl, own8, ok8, hb8⟩
        obtain ⟨A8, k8, rfl, hk8⟩ := own8.shape
        have hrow8 := (own8.read ok8).2.2
        have H8 := Lib.hid (And.intro hrow8 (And.intro hb8 ((H7.out.2.2.1.below hb8).more hb8.size)))
        clear own8 ok8 hb8 hrow8 HAL hk8
        go_wp2_with fail
        go_loopw [83] (fun iv wr => ∃ i : Nat, i ≤ L2.length ∧ iv = .int .i64 i ∧ Hid (Below w8.heap.size w8 wr)) (fun iv _ => L2.length - (intOf iv).toNat)
        case atStart => exact ⟨0, Nat.zero_le _, rfl, Lib.hid (Below.refl _ _)⟩
        case round =>
          obtain ⟨i, hi, rfl, hbi⟩ := hrel
          by_cases hil : i < L2.length
          · have hil' : (i : Int) < (L2.length : Int) := by omega
            have hq := HQ.out.1
            have hil2 : (i : Int) < (L1.length : Int) := by omega
            have hi0 : (0 : Int) ≤ (i : Int) := by omega
            have HIL := Lib.hid (show i + 1 ≤ L2.length ∧ L2.length ≤ 9223372036854775807 from ⟨hil, by have := H7.out.2.2.2; unfold maxLen at this; omega⟩)
            obtain ⟨zb, hzb⟩ : ∃ x, L2[i]? = some x := ⟨_, List.getElem?_eq_getElem hil⟩
            obtain ⟨za, hza⟩ : ∃ x, L1[i]? = some x := ⟨_, List.getElem?_eq_getElem (by omega)⟩
            have hsame := HQ.out.2.1 i za zb hza hzb
            obtain ⟨bb, ob, rfl, hbb, hatb⟩ := Zqy H8.out.1 hzb
            obtain ⟨ba, oa, rfl, hba, hata⟩ := Zqy H8.out.2.2 hza
            have HC := Lib.hid (show ∀ W, Below w8.heap.size w8 W → W.cell? ⟨bb, ob + i * 12, none⟩ = some (.int .i64 zb.y) ∧ W.cell? ⟨bb, ob + i * 12 + 1, none⟩ = some (.int .i64 zb.i) ∧ W.cell? ⟨bb, ob + i * 12 + 2, none⟩ = some (.int .i64 zb.p) ∧ W.cell? ⟨bb, ob + i * 12 + 3, none⟩ = some (.int .i64 zb.f) ∧ W.cell? ⟨bb, ob + i * 12 + 4, none⟩ = some (.int .i64 zb.o) ∧ W.cell? ⟨bb, ob + i * 12 + 5, none⟩ = some (.bool zb.ab) ∧ W.cell? ⟨bb, ob + i * 12 + 6, none⟩ = some (.int .i64 zb.li) ∧ W.cell? ⟨bb, ob + i * 12 + 7, none⟩ = some (.int .i64 zb.pr) ∧ W.cell? ⟨bb, ob + i * 12 + 8, none⟩ = some (.int .i64 zb.en) ∧ W.cell? ⟨bb, ob + i * 12 + 9, none⟩ = some (.int .i64 zb.ex) ∧ W.cell? ⟨bb, ob + i * 12 + 10, none⟩ = some (.int .i64 zb.la) ∧ W.cell? ⟨bb, ob + i * 12 + 11, none⟩ = some (.int .i64 zb.ca) ∧ W.cell? ⟨ba, oa + i * 12, none⟩ = some (.int .i64 za.y) ∧ W.cell? ⟨ba, oa + i * 12 + 1, none⟩ = some (.int .i64 za.i) ∧ W.cell? ⟨ba, oa + i * 12 + 2, none⟩ = some (.int .i64 za.p) ∧ W.cell? ⟨ba, oa + i * 12 + 3, none⟩ = some (.int .i64 za.f) ∧ W.cell? ⟨ba, oa + i * 12 + 4, none⟩ = some (.int .i64 za.o) ∧ W.cell? ⟨ba, oa + i * 12 + 5, none⟩ = some (.bool za.ab) ∧ W.cell? ⟨ba, oa + i * 12 + 6, none⟩ = some (.int .i64 za.li) ∧ W.cell? ⟨ba, oa + i * 12 + 7, none⟩ = some (.int .i64 za.pr) ∧ W.cell? ⟨ba, oa + i * 12 + 8, none⟩ = some (.int .i64 za.en) ∧ W.cell? ⟨ba, oa + i * 12 + 9, none⟩ = some (.int .i64 za.ex) ∧ W.cell? ⟨ba, oa + i * 12 + 10, none⟩ = some (.int .i64 za.la) ∧ W.cell? ⟨ba, oa + i * 12 + 11, none⟩ = some (.int .i64 za.ca) from fun W hW => by
              obtain ⟨y0, y1, y2, y3, y4, y5, y6, y7, y8, y9, y10, y11⟩ := ZqU (fun k hk => (hW.cell (p := ⟨bb, ob + i * 12 + k, none⟩) hbb).trans (hatb k hk))
              exact ⟨y0, y1, y2, y3, y4, y5, y6, y7, y8, y9, y10, y11, ZqU (fun k hk => (hW.cell (p := ⟨ba, oa + i * 12 + k, none⟩) hba).trans (hata k hk))⟩)
            have HUB := Lib.hid (fun W => Zpz zb W)
            have HUA := Lib.hid (fun W => Zpz za W)
            rw [hsame] at HUB
            have hcur := hbi.out.trans (((Below.refl wr.heap.size wr).drew).mono hbi.out.size)
            have c5 := HC.out _ hcur
            clear hata hatb hbb hba hza hzb hsame hbi hq
            generalize usedN za = uz at HUA HUB
            go_wp2_with fail
            go_region_held3 (fun W => W.cell? ⟨bb, ob + i * 12, none⟩ = some (.int .i64 zb.y) ∧ W.cell? ⟨bb, ob + i * 12 + 1, none⟩ = some (.int .i64 zb.i) ∧ W.cell? ⟨bb, ob + i * 12 + 2, none⟩ = some (.int .i64 zb.p) ∧ W.cell? ⟨bb, ob + i * 12 + 3, none⟩ = some (.int .i64 zb.f) ∧ W.cell? ⟨bb, ob + i * 12 + 4, none⟩ = some (.int .i64 zb.o) ∧ W.cell? ⟨bb, ob + i * 12 + 5, none⟩ = some (.bool zb.ab) ∧ W.cell? ⟨bb, ob + i * 12 + 6, none⟩ = some (.int .i64 zb.li) ∧ W.cell? ⟨bb, ob + i * 12 + 7, none⟩ = some (.int .i64 zb.pr) ∧ W.cell? ⟨bb, ob + i * 12 + 8, none⟩ = some (.int .i64 zb.en) ∧ W.cell? ⟨bb, ob + i * 12 + 9, none⟩ = some (.int .i64 zb.ex) ∧ W.cell? ⟨bb, ob + i * 12 + 10, none⟩ = some (.int .i64 zb.la) ∧ W.cell? ⟨bb, ob + i * 12 + 11, none⟩ = some (.int .i64 zb.ca) ∧ W.cell? ⟨ba, oa + i * 12, none⟩ = some (.int .i64 za.y) ∧ W.cell? ⟨ba, oa + i * 12 + 1, none⟩ = some (.int .i64 za.i) ∧ W.cell? ⟨ba, oa + i * 12 + 2, none⟩ = some (.int .i64 za.p) ∧ W.cell? ⟨ba, oa + i * 12 + 3, none⟩ = some (.int .i64 za.f) ∧ W.cell? ⟨ba, oa + i * 12 + 4, none⟩ = some (.int .i64 za.o) ∧ W.cell? ⟨ba, oa + i * 12 + 5, none⟩ = some (.bool za.ab) ∧ W.cell? ⟨ba, oa + i * 12 + 6, none⟩ = some (.int .i64 za.li) ∧ W.cell? ⟨ba, oa + i * 12 + 7, none⟩ = some (.int .i64 za.pr) ∧ W.cell? ⟨ba, oa + i * 12 + 8, none⟩ = some (.int .i64 za.en) ∧ W.cell? ⟨ba, oa + i * 12 + 9, none⟩ = some (.int .i64 za.ex) ∧ W.cell? ⟨ba, oa + i * 12 + 10, none⟩ = some (.int .i64 za.la) ∧ W.cell? ⟨ba, oa + i * 12 + 11, none⟩ = some (.int .i64 za.ca))
              (first | with_reducible exact c5 | exact c5)
              (first
                | (go_at_call 15; with_reducible refine Calls.mono (HUB.out _) ?_; rintro e wk ⟨rfl, hbk⟩; have hcur := hcur.trans (hbk.mono hcur.size); have c5 := HC.out _ hcur)
                | (go_at_call 15; with_reducible refine Calls.mono (HUA.out _) ?_; rintro e wl ⟨rfl, hbk⟩; have hcur := hcur.trans (hbk.mono hcur.size); have c5 := HC.out _ hcur))
            have HJ := Lib.hid hcur
            have kk : (uz != uz) = false := by simp
            clear c5 hcur HUA HUB HC
            go_wp2_with fail
            have hil3 := HIL.out
            have kw : wrap64 ((i : Int) + 1) = ((i + 1 : Nat) : Int) := by unfold wrap64; omega
            go_roundw
            case rel => exact ⟨i + 1, hil3.1, congrArg (Value.int .i64) kw, HJ⟩
            case measure => rw [kw]; exact meas_step hil3.1
          · obtain rfl : i = L2.length := by omega
            have hbr := H8.out.2.1.trans (hbi.out.mono H8.out.2.1.size)
            have HG := Lib.hid (Zc4 (H7.out.1.below hbr) 1 (by omega))
            rw [HQ.out.2.2.1] at HG
            have HBR := Lib.hid (H7.out.2.1.trans (hbr.mono H7.out.2.1.size))
            have hzr := HQ.out.2.2.2.1
            have hzl := HQ.out.2.2.2.2
            clear hbr hbi hil H8 H7 HQ
            go_wp2_with fail
            refine HG.out.mono ?_
            rintro e w9 ⟨A9, k9, rfl, own9, ok9, _, hb9⟩
            clear HG
            simp only [Zet] at own9 ok9
            simp only [dcW, Option.map_some, Option.getD_some, Option.isSome_some, Zet]
            have hrow9 := (own9.read ok9).2.2
            obtain ⟨dI, dK, dY, dF, dN⟩ := d0
            obtain ⟨w10, hw10⟩ : ∃ w10, w10 = w9.alloc (.cells #[.int .i64 dI, .int .i64 dK, .int .i64 dY, .int .i64 dF, .int .i64 dN] 44 (0, 0)) := ⟨_, rfl⟩
            have hb10 : Below w9.heap.size w9 w10 := by rw [hw10]; exact (Below.refl _ _).alloc (Nat.le_refl _) _
            have HW10 := Lib.hid (HBR.out.trans ((hb9.trans (hb10.mono hb9.size)).mono HBR.out.size))
            obtain ⟨b9, o9, e9, hlt9, c0, c1, c2, c3⟩ := ZlF hrow9 (j := 0) (show [z0][0]? = some z0 from rfl)
            subst e9
            have HC := Lib.hid (show ∀ W, Below w10.heap.size w10 W → W.cell? ⟨b9, o9 + 0 * 4, none⟩ = some (.int .i64 z0.nd) ∧ W.cell? ⟨b9, o9 + 0 * 4 + 1, none⟩ = some (.int .i64 z0.o) ∧ W.cell? ⟨b9, o9 + 0 * 4 + 2, none⟩ = some (.int .i64 z0.l) ∧ W.cell? ⟨b9, o9 + 0 * 4 + 3, none⟩ = some (.int .i64 z0.c) from fun W hW => by
              have hb := hb10.trans (hW.mono hb10.size)
              exact ⟨(hb.cell (p := ⟨b9, _, none⟩) hlt9).trans c0, (hb.cell (p := ⟨b9, _, none⟩) hlt9).trans c1, (hb.cell (p := ⟨b9, _, none⟩) hlt9).trans c2, (hb.cell (p := ⟨b9, _, none⟩) hlt9).trans c3⟩)
            obtain ⟨d0', d1', d2', d3'⟩ := HC.out w10 (Below.refl _ _)
            have HRT := Lib.hid (docsRight_any z0 w10)
            rw [show rightL z0 = true from hzr] at HRT
            clear own9 ok9 hb9 hb10 hrow9 c0 c1 c2 c3 hlt9
            obtain ⟨zn, zo, zl, zc⟩ := z0
            simp only at HRT HC d0' d1' d2' d3' hzl
            subst hzl
            simp only [Nat.zero_mul, Nat.add_zero] at HC d0' d1' d2' d3'
            have s0 := d0'
            have s1 := d1'
            have s2 := d2'
            have s3 := d3'
            rw [hw10] at s0 s1 s2 s3
            clear d0' d1' d2' d3'
            go_wp2_with fail
            rw [← hw10]
            clear hw10 s0 s1 s2 s3
            refine HRT.out.mono ?_
            rintro u w11 ⟨rfl, h11⟩
            obtain ⟨x0, x1, x2, x3⟩ := HC.out w11 h11
            have HE := Lib.hid (HEND.out w11 (HW10.out.trans (h11.mono HW10.out.size)))
            clear h11 HC HRT
            go_wp2_with fail
            refine HE.out.mono ?_
            rintro u w12 ⟨rfl, h12⟩
            have HE2 := Lib.hid h12
            clear h12
            go_wp2_with fail
            go_ret
            exact ⟨rfl, HE2.out⟩
    · have k1 : (re != 0) = true := by simp [he]
      have HE := Lib.hid (HEND.out w4 hb4)
      clear h4 t4 hb4 HP HFACT HM HB3 HRR he
      go_wp2_with fail
      refine HE.out.mono ?_
      rintro u w5 ⟨rfl, h5⟩
      have HE2 := Lib.hid h5
      clear h5
      go_wp2_with fail
      go_ret
      exact ⟨rfl, HE2.out⟩
  · have k0 : decide ((n : Int) > 20) = true := decide_eq_true (by omega)
    have HE := Lib.hid (HEND.out w (Below.refl _ _))
    clear hr h20
    go_enter Tryz.func3, Tryz.ntmps3
    go_wp2_with fail
    refine HE.out.mono ?_
    rintro u w5 ⟨rfl, h5⟩
    have HE2 := Lib.hid h5
    clear h5
    go_wp2_with fail
    go_ret
    exact ⟨rfl, HE2.out⟩
end Go.Proofs.YtiknkbpojmgbhaaGreat
