/-
  Walk of RedoAtomic, over any disk that answers as it is to: it returns true. Condition: the table that crc.Step reads holds what the program's text lays in it.
-/
import Derived.Test.YtkmlmbakgmafjaaDoorG6
import Derived.Test.YtkmlmbakgmafjaaDoorG2
namespace Go.Proofs.YtkmlmbakgmafjaaDoor
open Go.RowKit
set_option maxRecDepth 100000
set_option linter.unusedVariables false

section
variable {D : World → (Nat → Prop) → Addr → DS → Prop}

set_option maxHeartbeats 16000000 in
theorem redoAtomic_walk (api : DiskApi D) {w : World} {A0 A1 A4 A5 : Option Addr} {n0 n1 n4 n5 p0 p1 p4 p5 x2 x3 : Nat} {l0 l1 l4 l5 : List Int}
    (hr0 : RB w w.heap.size A0 n0 l0) (hc0 : n0 ≤ p0) (hm0 : n0 ≤ maxLen) (hr1 : RB w w.heap.size A1 n1 l1) (hc1 : n1 ≤ p1) (hm1 : n1 ≤ maxLen) (hx2 : x2 < 256) (hx3 : x3 < 256)
    (hr4 : RI w w.heap.size A4 n4 l4) (hc4 : n4 ≤ p4) (hm4 : n4 ≤ maxLen) (hr5 : RI w w.heap.size A5 n5 l5) (hc5 : n5 ≤ p5) (hm5 : n5 ≤ maxLen) (ht : Tab w ∧ 1 < w.heap.size) :
    Calls Tryd.prog 4 #[.slice A0 n0 p0, .slice A1 n1 p1, .int .u8 (x2 : Int), .int .u8 (x3 : Int), .slice A4 n4 p4, .slice A5 n5 p5] w fun e w' => e = .returned (.bool true) ∧ Below w.heap.size w w' := by
  have HAW := Lib.hid (redoAwake_any api w ht)
  by_cases b0 : 12 < n0
  · have k0 : decide ((n0 : Int) > 12) = true := by simp; omega
    clear hr0 hr1 hr4 hr5 b0
    go_enter Tryd.func4, Tryd.ntmps4
    go_wp2_with fail
    refine HAW.out.mono ?_
    rintro e w1 ⟨rfl, hb⟩
    go_wp2
    go_ret
    exact ⟨rfl, hb⟩
  have k0 : decide ((n0 : Int) > 12) = false := by simp; omega
  by_cases b1 : 12 < n1
  · have k1 : decide ((n1 : Int) > 12) = true := by simp; omega
    clear hr0 hr1 hr4 hr5 b0 b1
    go_enter Tryd.func4, Tryd.ntmps4
    go_wp2_with fail
    refine HAW.out.mono ?_
    rintro e w1 ⟨rfl, hb⟩
    go_wp2
    go_ret
    exact ⟨rfl, hb⟩
  have k1 : decide ((n1 : Int) > 12) = false := by simp; omega
  by_cases b4 : 60 < n4
  · have k4 : decide ((n4 : Int) > 60) = true := by simp; omega
    clear hr0 hr1 hr4 hr5 b0 b1 b4
    go_enter Tryd.func4, Tryd.ntmps4
    go_wp2_with fail
    refine HAW.out.mono ?_
    rintro e w1 ⟨rfl, hb⟩
    go_wp2
    go_ret
    exact ⟨rfl, hb⟩
  have k4 : decide ((n4 : Int) > 60) = false := by simp; omega
  by_cases b5 : 60 < n5
  · have k5 : decide ((n5 : Int) > 60) = true := by simp; omega
    clear hr0 hr1 hr4 hr5 b0 b1 b4 b5
    go_enter Tryd.func4, Tryd.ntmps4
    go_wp2_with fail
    refine HAW.out.mono ?_
    rintro e w1 ⟨rfl, hb⟩
    go_wp2
    go_ret
    exact ⟨rfl, hb⟩
  have k5 : decide ((n5 : Int) > 60) = false := by simp; omega
  clear HAW
  obtain ⟨r1, r2, r3, r4, r5, r6, r7⟩ := fresh_log (m := 27) (by decide)
  have hfw := law_fresh_open (m := 27) (by decide)
  have HN := Lib.hid (law_new api (w0 := w) (w := w) (n := 27) (by decide) (by decide) ht (Below.refl _ _))
  rw [show Int.toNat 27 = 27 from rfl] at HN
  have HR := Lib.hid (And.intro hr0 (And.intro hr1 (And.intro hr4 hr5)))
  clear hr0 hr1 hr4 hr5
  go_enter Tryd.func4, Tryd.ntmps4
  go_wp2_with fail
  refine HN.out.mono ?_
  rintro e w1 ⟨p, F1, rfl, L1, _⟩
  have HFM := Lib.hid (law_format api L1 (by decide))
  rw [r1] at HFM
  go_wp2_with fail
  refine HFM.out.mono ?_
  rintro e w2 ⟨rfl, F2, L2, _⟩
  have HO := Lib.hid (law_open_ok api L2 hfw r2)
  rw [r3] at HO
  generalize (openS (markS (DS.new 27) 0 1).2).2.2 = S2 at *
  clear r1 r2 r3 hfw HN HFM L1 L2
  go_wp2_with fail
  refine HO.out.mono ?_
  rintro e w3 ⟨q, F3, rfl, hq3, L3, _⟩
  have HSM := Lib.hid (some_any (cap := p0) (HR.out.1.below L3.bel) L3.bel.size (by omega) 1 (by decide))
  have hlt3 := L3.lt api
  have hql := L3.log.cells.2.2.2
  have HL3 := Lib.hid L3
  clear HO L3
  go_wp2_with fail
  refine HSM.out.mono ?_
  rintro e w4 ⟨B4, c4, rfl, hri, hb4⟩
  have L4 := HL3.out.later api hb4
  have hI := some_imgs (c := 1) (seq := 1) HR.out.1.bytes n0 (by decide)
  have hfacts := some_facts l0 1 HR.out.1.bytes n0
  obtain ⟨e1, e2, e3, e4, e5, f4, e6⟩ := first_set (m := 27) (by rw [r5]) (by decide) hI r4 r7
  generalize hLL : someAt l0 1 n0 = LL at *
  have hll : LL.length ≤ 60 := by omega
  have HC := Lib.hid (law_commit (c := c4) (l := LL) api L4 (hri.weaken (fun k hk => by
    rcases hk with a | a
    · exact hlt3 k a
    · show k < _; omega)) (fun y hy => hI.bytes y hy) (fun y hy => by have := hfacts.1 y hy; omega) (by omega) (by decide) (by omega))
  rw [e1] at HC
  rw [r6] at e4
  have hwl : wantW LL.length ≤ 200 := by unfold wantW; split <;> omega
  generalize (commitS S2 1 LL) = CS at *
  obtain ⟨ce, cs, S5⟩ := CS
  simp only at e1 e2 e3 e4 e5 e6 HC
  rw [r5] at e2
  clear hri L4 hI hfacts hLL e1 r4 r5 r6 r7 hb4 HL3 HSM hll hlt3 hql hq3
  go_wp2_with fail
  refine HC.out.mono ?_
  rintro e w5 ⟨rfl, F5, L5, _⟩
  clear HC
  have hpg : pagesOf S5.n = ((13 : Nat) : Int) := by rw [e2]; decide
  have hld : ∀ k : Nat, k < 13 → loadS S5 (k : Int) = (pageIn 27 f4 k, 0) := fun k hk => load_rests (by rw [e2]; rfl) e6.rests (by rw [show pagesOf 27 = 13 from by decide]; omega)
  have HALL := Lib.hid (all_any api L5 (G := fun k : Nat => pageIn 27 f4 (k : Int)) hpg (by decide) (by decide) hld (fun k _ => pageIn_len _ _ _))
  have HL5 := Lib.hid L5
  clear L5 hpg hld
  go_wp2_with fail
  refine HALL.out.mono ?_
  rintro e w6 ⟨g6, c6, wasL, rfl, hc6, hg6, hnow6, hwasB, hfl6, hb6⟩
  have hr6 := hnow6.rb hfl6.1 hwasB
  have HCL := Lib.hid (CloneN_own c6 hr6 (Nat.le_refl _) (by decide) (by decide))
  have L6 := HL5.out.later api hb6
  have hg6F : ¬ orAt F5 q g6 := fun hf => by
    rcases hf with a | a
    · have := HL5.out.lt api g6 a; omega
    · have := HL5.out.log.cells.2.2.2; omega
  have hg6l := hnow6.lt
  have hw06 := L6.bel.size
  have HL6 := Lib.hid (And.intro L6 (And.intro hnow6 (And.intro hwasB (And.intro hfl6 hg6F))))
  clear L6 hr6 hfl6 hb6 HALL HL5 hnow6 hwasB hg6F
  go_wp2_with fail
  refine HCL.out.mono ?_
  rintro e w7 ⟨g7, c7, rfl, hc7, hg7, hnow, hb7⟩
  obtain ⟨L6, hnow6, hwasB, hfl6, hg6F⟩ := HL6.out
  have L7 := L6.later api hb7
  have hgF : ¬ orAt F5 q g7 := fun hf => by
    rcases hf with a | a
    · have := L6.lt api g7 a; omega
    · have := L6.log.cells.2.2.2; omega
  have HL7 := Lib.hid (And.intro L7 (And.intro hwasB (And.intro hfl6 (And.intro hnow hgF))))
  have H76 := Lib.hid (show Held w7 (orAt F5 q) [(g6, wasL)] from fun x hx => by
    obtain rfl := List.mem_singleton.1 hx
    exact ⟨hnow6.keep (hb7.block g6 hg6l), hg6F⟩)
  have hg7l := hnow.lt
  have hg67 : g6 < g7 := by omega
  have HSM := Lib.hid (some_any (cap := p1) (HR.out.2.1.below L7.bel) L7.bel.size (by omega) 100 (by decide))
  clear L6 hnow6 hwasB hfl6 hg6F L7 HL6 hnow hb7 HCL hgF
  go_wp2_with fail
  refine HSM.out.mono ?_
  rintro e w8 ⟨A8, c8, rfl, hri8, hb8⟩
  go_wp2_with fail
  obtain ⟨L7, hwas, hfl6, hnow, hgF⟩ := HL7.out
  have hw78 : w.heap.size ≤ w7.heap.size := L7.bel.size
  have hI2 := some_imgs (c := 100) (seq := cs) HR.out.2.1.bytes n1 (by omega)
  have hfacts := some_facts l1 100 HR.out.2.1.bytes n1
  generalize hLL : someAt l1 100 n1 = LL2 at *
  have hll2 : LL2.length ≤ 60 := by omega
  have hM0 : NowBlk w8 g7 wasL := hnow.keep (hb8.block g7 hnow.lt)
  have HI2 := Lib.hid (And.intro hI2 hfacts)
  have HLL2 := Lib.hid hLL
  have HRI := Lib.hid hri8
  have HB8 := Lib.hid hb8
  have H0 := Lib.hid (And.intro hM0 (And.intro hfl6 hwas))
  have hgw7 : w6.heap.size ≤ g7 := hg7
  clear L7 hfl6 hnow hgF hI2 hfacts hLL hM0 hwas hri8 hb8 HSM
  go_loopw [89] (fun i wr => ∃ (k : Nat) (L : List Int), k ≤ LL2.length ∧ i = .int .i64 k ∧ Hid (NowBlk wr g7 L ∧ AllBytes L ∧ IsFlat L (setAll (fun j : Nat => pageIn 27 f4 (j : Int)) (LL2.take k)) 13) ∧ Hid (Touch (fun j => j = g7) w8 wr)) (fun i _ => LL2.length - (intOf i).toNat)
  case atStart => exact ⟨0, wasL, Nat.zero_le _, rfl, Lib.hid ⟨H0.out.1, H0.out.2.2, H0.out.2.1⟩, Lib.hid (Touch.refl _ _)⟩
  case round =>
    obtain ⟨k, L, hk, rfl, hM, hT⟩ := hrel
    by_cases hlt : k < LL2.length
    · have hlt' : (k : Int) < (LL2.length : Int) := by omega
      obtain ⟨y, hy⟩ : ∃ y, LL2[k]? = some y := ⟨_, List.getElem?_eq_getElem hlt⟩
      have hypg := HI2.out.1.page y (List.mem_of_getElem? hy)
      rw [show pagesOf 27 = 13 from by decide] at hypg
      have hT' := hT.out
      have hg78 : g7 < w8.heap.size := by have := HB8.out.size; omega
      have hri := HRI.out.keep (w' := wr) (G' := fun k => k < w7.heap.size) hT'.size (fun _ _ h => h) (fun j hj hn => hT'.block j hj (fun e => hn (by show j < _; have : j = g7 := e; omega)))
      obtain ⟨b, rfl, hGb, hbl, hat⟩ := hri.2 (by omega)
      obtain ⟨d1, D1, m, cm, d2, hmc, hm63, hrb, hap⟩ := hat k y hy
      have hm240 : m = 240 := by rw [← hrb.len]; exact hypg.2.2
      subst hm240
      obtain ⟨db, dof, rfl, hdb, hdc⟩ := hrb.at_ (by decide)
      obtain ⟨y1, y2⟩ := y
      obtain ⟨pn, rfl⟩ := Int.eq_ofNat_of_zero_le hypg.1
      have hpn : pn < 13 := by have := hypg.2.1; simp only at this; omega
      simp only at d1 hdc hrb
      have hn63 : LL2.length ≤ 9223372036854775807 := by omega
      obtain ⟨N, hN⟩ : ∃ N : Nat, N = pn * 240 := ⟨_, rfl⟩
      have hwrp : IntKind.i64.wrap ((pn : Int) * 240) = (N : Int) := by rw [IntKind.wrap_i64]; omega
      have hN1 : (N : Int) ≤ 3120 := by omega
      have hN2 : N ≤ 2880 := by omega
      have HNN := Lib.hid hN
      clear hri hat hT' hN
      obtain ⟨hnb, hLb, hfl⟩ := hM.out
      obtain ⟨tl, hheap⟩ := hnb
      have hgr : g7 < wr.heap.size := (Array.getElem?_eq_some_iff.1 hheap).1
      have hX : Below wr.heap.size wr ((wr.alloc (.cells #[.int .i64 (pn : Int), .slice (some ⟨db, dof, none⟩) 240 cm] 64)).drew) := ((Below.refl _ _).alloc (Nat.le_refl _) _).drew
      have HHX := Lib.hid (show ((wr.alloc (.cells #[.int .i64 (pn : Int), .slice (some ⟨db, dof, none⟩) 240 cm] 64)).drew).heap[g7]? = some (.cells ((L.map (Value.int .u8)) ++ tl).toArray 5 (0, 0)) from (hX.block g7 hgr).trans hheap)
      have hyl : y2.length = 240 := hypg.2.2
      have hLl : L.length = 3120 := hfl.1
      have HCS := Lib.hid (show (y2.map (Value.int .u8)).length = Nat.min 240 (3120 - N) from by
        rw [List.length_map, hyl]
        show 240 = min 240 (3120 - N)
        omega)
      have HSRC := Lib.hid (show ∀ j v, (y2.map (Value.int .u8))[j]? = some v → ((wr.alloc (.cells #[.int .i64 (pn : Int), .slice (some ⟨db, dof, none⟩) 240 cm] 64)).drew).cell? ((⟨db, dof, none⟩ : Addr).add j) = some v from fun j v hv => by
        have hj : j < 240 := by
          have := (List.getElem?_eq_some_iff.1 hv).1
          rw [List.length_map, hyl] at this
          exact this
        have hc := hdc j hj
        rw [add_none]
        refine (hX.cell (p := ⟨db, dof + j, none⟩) hdb).trans (hc.trans ?_)
        rw [← hv, List.getElem?_map, List.getElem?_eq_getElem (by omega)]
        rfl)
      have HFIT := Lib.hid (show N + (y2.map (Value.int .u8)).length ≤ ((L.map (Value.int .u8)) ++ tl).length from by
        rw [List.length_append, List.length_map, List.length_map, hyl, hLl]; omega)
      have HONE := Lib.hid (oneCell_bytes y2)
      have HIF := Lib.hid (show (if c7 = N then some (⟨g7, 0, none⟩ : Addr) else some ⟨g7, N, none⟩) = some ⟨g7, N, none⟩ from if_neg (by omega))
      have HST := Lib.hid (IsFlat.set hfl (y := ((pn : Int), y2)) ⟨by show (0 : Int) ≤ (pn : Int); omega, by show (pn : Int) < ((13 : Nat) : Int); omega⟩ hyl)
      have HSB := Lib.hid (splice_bytes (o := N) hLb (HI2.out.1.bytes _ (List.mem_of_getElem? hy)))
      have HSM2 := Lib.hid (splice_map (L := L) (d := y2) (tl := tl) (o := N) (by rw [hyl, hLl]; omega))
      have HTX := Lib.hid (hT.out.join (F1 := fun j => j = g7) (fun k hk => .inl hk) (Touch.of_below hX))
      have HYK := Lib.hid (show setAll (fun j : Nat => pageIn 27 f4 (j : Int)) (LL2.take (k + 1)) = setP (setAll (fun j : Nat => pageIn 27 f4 (j : Int)) (LL2.take k)) ((pn : Int), y2) from by
        unfold setAll
        rw [List.take_add_one, hy, List.foldl_append]
        rfl)
      clear hheap hLb hfl hX hyl hLl hdc hrb hy hypg hM hT
      obtain ⟨YV, hYV⟩ : ∃ YV, YV = y2.map (Value.int .u8) := ⟨_, rfl⟩
      obtain ⟨LV, hLV⟩ : ∃ LV, LV = (L.map (Value.int .u8)) ++ tl := ⟨_, rfl⟩
      rw [← hYV] at HCS HSRC HFIT HONE HSM2
      rw [← hLV] at HHX HFIT HSM2
      have HV := Lib.hid (And.intro hYV hLV)
      clear hYV hLV
      go_wp2_with fail
      go_region_law (refine step_copy_at rfl (.tmp 97) (.tmp 99) 51 51 rfl 5 Tryd.underlying51 size_u8' (if c7 = N then some ⟨g7, 0, none⟩ else some ⟨g7, N, none⟩) ⟨db, dof, none⟩ (3120 - N) (c7 - N) 240 cm (by go_simp) (by go_simp) g7 N HIF.out LV 5 HHX.out YV HCS.out HSRC.out HFIT.out HONE.out ?_; intro w9 hblk9 ht9)
      all_goals
        have hM2 := Lib.hid (show NowBlk w9 g7 (splice L N y2) ∧ AllBytes (splice L N y2) ∧ IsFlat (splice L N y2) (setAll (fun j : Nat => pageIn 27 f4 (j : Int)) (LL2.take (k + 1))) 13 from by
          refine ⟨⟨tl, ?_⟩, HSB.out, ?_⟩
          · rw [← HSM2.out]; exact hblk9.out
          · rw [HYK.out, HNN.out]
            have := HST.out
            rw [show ((pn : Int), y2).1.toNat = pn from Int.toNat_natCast pn] at this
            exact this)
        have hT2 := Lib.hid (HTX.out.join (F1 := fun j => j = g7) (fun k hk => .inl hk) ht9.out)
        clear hblk9 ht9 HHX HSRC HSB HSM2 HST HYK HTX
        go_wp2
        go_roundw
        case rel => exact ⟨k + 1, splice L N y2, by omega, by go_num, hM2, hT2⟩
        case measure => simp [intOf]; omega
    · obtain rfl : k = LL2.length := by omega
      obtain ⟨L7, hwas, hfl6, _, hgF⟩ := HL7.out
      obtain ⟨hnb, hLb, hflN⟩ := hM.out
      rw [List.take_length] at hflN
      have hT' := hT.out
      have hb8 := HB8.out
      have hg78 : g7 < w8.heap.size := by have := hb8.size; omega
      have hgq : g7 ≠ q := fun e => hgF (.inr e)
      have hg5 : ¬ F5 g7 := fun e => hgF (.inl e)
      have L8 := L7.later api hb8
      have LR : LawL D w wr F5 p S5 q cs := ⟨⟨api.keep _ _ _ _ _ L8.d (fun k hk => hT'.block k (L8.lt api k hk) (fun e => hg5 (by have : k = g7 := e; rw [← this]; exact hk))), L8.out, L8.bel.trans (hT'.below (fun k hk => by have : k = g7 := hk; omega) L8.bel.size), L8.tab⟩, L8.log.keep (hT'.block q L8.log.cells.2.2.2 (fun e => hgq (by have : q = g7 := e; exact this.symm))), L8.qF, L8.q0⟩
      have hHR : Held wr (orAt F5 q) [(g6, wasL), (g7, L)] := fun x hx => by
        rcases List.mem_cons.1 hx with rfl | hx
        · obtain ⟨h1, h2⟩ := (H76.out.below hb8) (g6, wasL) (List.mem_singleton.2 rfl)
          exact ⟨h1.keep (hT'.block g6 h1.lt (fun e => by have : g6 = g7 := e; omega)), h2⟩
        · obtain rfl := List.mem_singleton.1 hx
          exact ⟨hnb, hgF⟩
      have HST := Lib.hid (And.intro hwas (And.intro hfl6 (And.intro hLb hflN)))
      have HARM := Lib.hid (law_arm api LR.toLawD ((x2 : Int) % 40) (by omega))
      have HLR := Lib.hid (And.intro LR hHR)
      clear L7 hwas hfl6 hgF hnb hLb hflN hT' hb8 L8 LR hHR hM hT H0 HL7 H76 HB8 HRI hgq hg5
      go_wp2_with fail
      refine HARM.out.mono ?_
      rintro e w10 ⟨rfl, F10, d10, t10, n10⟩
      have L10 := HLR.out.1.next d10 t10 n10
      have hH10 := HLR.out.2.touch (t10.weaken (fun k hk => .inl hk)) (orAt_new n10)
      have hs10 := L10.bel.size
      have HSM := Lib.hid (some_any (cap := p1) (HR.out.2.1.below L10.bel) hs10 (by omega) 100 (by decide))
      rw [HLL2.out] at HSM
      have HL10 := Lib.hid (And.intro L10 hH10)
      clear d10 t10 n10 L10 hH10 HLR HARM
      go_wp2_with fail
      refine HSM.out.mono ?_
      rintro e w11 ⟨A11, c11, rfl, hri11, hb11⟩
      have L11 := HL10.out.1.later api hb11
      have hH11 := HL10.out.2.below hb11
      have HAP := Lib.hid (atomic_plain (n := 27) (S := S5.fuse ((x2 : Int) % 40)) (f := f4) (by rw [show (S5.fuse ((x2 : Int) % 40)).n = 27 from e2]; rfl) (by decide) HI2.out.1 (e6.fuse _) l4 ((x3 : Int) % 40) l5)
      have HCM := Lib.hid (commit_more (n := 27) (S := S5.fuse ((x2 : Int) % 40)) (by rw [show (S5.fuse ((x2 : Int) % 40)).n = 27 from e2]; rfl) HI2.out.1)
      have HC := Lib.hid (law_commit (c := c11) (l := LL2) api L11 (hri11.weaken (fun k hk => by
        rcases hk with a | a
        · exact HL10.out.1.lt api k a
        · show k < _; have := HL10.out.1.log.cells.2.2.2; omega)) (fun y hy => HI2.out.1.bytes y hy) (fun y hy => by have := HI2.out.2.1 y hy; omega) (by omega) (by omega) (by show S5.writes ≤ _; omega))
      have hwr : (S5.fuse ((x2 : Int) % 40)).writes = S5.writes := rfl
      generalize hCS : commitS (S5.fuse ((x2 : Int) % 40)) cs LL2 = CS at HAP HCM HC
      obtain ⟨ce, cs2, S6⟩ := CS
      simp only at HAP HCM HC
      have HH11 := Lib.hid hH11
      clear L11 hri11 hb11 hH11 HL10 HSM hCS
      go_wp2_with fail
      refine HC.out.mono ?_
      rintro e w12 ⟨rfl, F12, L12, t12, n12⟩
      have hH12 := (HH11.out.touch t12 (orAt_new n12)).weaken (F' := F12) (fun k hk => .inl hk)
      have hw12 := L12.bel.size
      have HCR := Lib.hid (law_crash api L12.toLawD (HR.out.2.2.1.below L12.bel) hc4 hm4 (fun h0 a ha => by
        obtain ⟨b, off, e, hb, _⟩ := HR.out.2.2.1.2.2 h0
        rw [ha] at e
        cases e
        intro hf
        have h9 : w.heap.size ≤ b := L12.out _ hf
        omega))
      have HL12 := Lib.hid (And.intro L12.toLawD hH12)
      clear L12 t12 n12 hH12 HC HH11
      go_wp2_with fail
      refine HCR.out.mono ?_
      rintro e w13 ⟨rfl, F13, d13, t13, n13⟩
      have L13 := HL12.out.1.next d13 t13 n13
      have hH13 := HL12.out.2.touch t13 n13
      have HARM := Lib.hid (law_arm api L13 ((x3 : Int) % 40) (by omega))
      have HL13 := Lib.hid (And.intro L13 hH13)
      clear d13 t13 n13 L13 hH13 HL12 HCR
      go_wp2_with fail
      refine HARM.out.mono ?_
      rintro e w14 ⟨rfl, F14, d14, t14, n14⟩
      have L14 := HL13.out.1.next d14 t14 n14
      have hH14 := HL13.out.2.touch t14 n14
      obtain ⟨c1, c2, c3, c4'⟩ := HCM.out
      have hw14 : ((S6.crash l4).fuse ((x3 : Int) % 40)).writes ≤ 9223372036854700000 := by show S6.writes ≤ _; omega
      have HOP := Lib.hid (law_open_some api L14 hw14)
      have HL14 := Lib.hid hH14
      clear d14 t14 n14 L14 hH14 HL13 HARM
      go_wp2_with fail
      refine HOP.out.mono ?_
      rintro e w15 ⟨v15, F15, rfl, L15, t15, n15⟩
      have hH15 := HL14.out.touch t15 n15
      have hw15 := L15.bel.size
      have hom := open_more ((S6.crash l4).fuse ((x3 : Int) % 40))
      have HCR := Lib.hid (law_crash api L15 (HR.out.2.2.2.below L15.bel) hc5 hm5 (fun h0 a ha => by
        obtain ⟨b, off, e, hb, _⟩ := HR.out.2.2.2.2.2 h0
        rw [ha] at e
        cases e
        intro hf
        have h9 : w.heap.size ≤ b := L15.out _ hf
        omega))
      have HL15 := Lib.hid (And.intro L15 hH15)
      obtain ⟨g, a1, a2, a3, ⟨sq, a4⟩, a5⟩ := HAP.out
      have hw16 : ((openS ((S6.crash l4).fuse ((x3 : Int) % 40))).2.2.crash l5).writes ≤ 9223372036854700000 := by
        have h9 := hom.1
        show (openS ((S6.crash l4).fuse ((x3 : Int) % 40))).2.2.writes ≤ _
        have h10 : ((S6.crash l4).fuse ((x3 : Int) % 40)).writes = S6.writes := rfl
        omega
      have hom2 := open_more ((openS ((S6.crash l4).fuse ((x3 : Int) % 40))).2.2.crash l5)
      clear L15 t15 n15 hH15 HOP HL14 HAP
      go_wp2_with fail
      refine HCR.out.mono ?_
      rintro e w16 ⟨rfl, F16, d16, t16, n16⟩
      have L16 := HL15.out.1.next d16 t16 n16
      have hH16 := HL15.out.2.touch t16 n16
      have HOP := Lib.hid (law_open_ok api L16 hw16 a1)
      have HL16 := Lib.hid hH16
      clear d16 t16 n16 L16 hH16 HL15 HCR hom
      generalize hS9 : (openS ((S6.crash l4).fuse ((x3 : Int) % 40))).2.2.crash l5 = S9 at *
      generalize hS10 : openS S9 = O10 at *
      obtain ⟨oe, os, S10⟩ := O10
      simp only at a1 a2 a3 a4 HOP hom2
      have h9w : S9.writes ≤ 9223372036854700000 - 40000 := by
        rw [← hS9]
        have h9 := (open_more ((S6.crash l4).fuse ((x3 : Int) % 40))).1
        show (openS ((S6.crash l4).fuse ((x3 : Int) % 40))).2.2.writes ≤ _
        have h10 : ((S6.crash l4).fuse ((x3 : Int) % 40)).writes = S6.writes := rfl
        omega
      clear hS9 hS10 hw16
      go_wp2_with fail
      refine HOP.out.mono ?_
      rintro e w17 ⟨q17, F17, rfl, hq17, L17, t17, n17⟩
      have hH17 := HL16.out.touch t17 n17
      have hn10 : S10.n = 27 := a2.trans e2
      have hpg10 : pagesOf S10.n = ((13 : Nat) : Int) := by rw [hn10]; decide
      have hld10 : ∀ k : Nat, k < 13 → loadS S10 (k : Int) = (pageIn 27 g k, 0) := fun k hk => load_rests (by rw [hn10]; rfl) a4.rests (by rw [show pagesOf 27 = 13 from by decide]; omega)
      have HALL := Lib.hid (all_any api L17 (G := fun k : Nat => pageIn 27 g (k : Int)) hpg10 (by decide) (by decide) hld10 (fun k _ => pageIn_len _ _ _))
      obtain ⟨o1, o2, o3, o4, o5⟩ := open_free (n := 27) (S := S10) (by rw [hn10]; rfl) (by decide) a3 a4.rests a4.err
      have hop27 : opened 27 g = g := by have := a4.opn; rw [hn10] at this; exact this
      rw [hop27] at o3
      have HL17 := Lib.hid (And.intro L17 hH17)
      clear hpg10 hld10 L17 hH17 t17 n17 HL16 HOP
      go_wp2_with fail
      refine HALL.out.mono ?_
      rintro e w18 ⟨g18, c18, gotL, rfl, hc18, hg18, hnow18, hgotB, hfl18, hb18⟩
      have L18 := HL17.out.1.later api hb18
      have HOP := Lib.hid (law_open_ok api L18.toLawD (by have := hom2.1; omega) o1)
      have hH18 : Held w18 F17 [(g6, wasL), (g7, L), (g18, gotL)] := fun x hx => by
        rcases List.mem_cons.1 hx with rfl | hx
        · exact (HL17.out.2.below hb18) _ (List.mem_cons_self ..)
        · rcases List.mem_cons.1 hx with rfl | hx
          · exact (HL17.out.2.below hb18) _ (List.mem_cons_of_mem _ (List.mem_cons_self ..))
          · obtain rfl := List.mem_singleton.1 hx
            exact ⟨hnow18, fun hf => by have := HL17.out.1.lt api _ hf; simp only at this; omega⟩
      have HH18 := Lib.hid (And.intro hH18 (And.intro hgotB hfl18))
      clear L18 hH18 hnow18 hgotB hfl18 hb18 HL17 HALL
      go_wp2_with fail
      refine HOP.out.mono ?_
      rintro e w19 ⟨q19, F19, rfl, hq19, L19, t19, n19⟩
      have hH19 := HH18.out.1.touch t19 n19
      have hn11 : (openS S10).2.2.n = 27 := o5.trans hn10
      have hpg11 : pagesOf (openS S10).2.2.n = ((13 : Nat) : Int) := by rw [hn11]; decide
      have hld11 : ∀ k : Nat, k < 13 → loadS (openS S10).2.2 (k : Int) = (pageIn 27 g k, 0) := fun k hk => load_rests (by rw [hn11]; rfl) o3 (by rw [show pagesOf 27 = 13 from by decide]; omega)
      have HALL2 := Lib.hid (all_any api L19 (G := fun k : Nat => pageIn 27 g (k : Int)) hpg11 (by decide) (by decide) hld11 (fun k _ => pageIn_len _ _ _))
      obtain ⟨hgotB, hfl18⟩ := HH18.out.2
      obtain ⟨hwasB, hfl6, hLB, hflN⟩ := HST.out
      have hrW := ((hH19 (g6, wasL) (List.mem_cons_self ..)).1).rb hfl6.1 hwasB
      have hrN := ((hH19 (g7, L) (List.mem_cons_of_mem _ (List.mem_cons_self ..))).1).rb hflN.1 hLB
      have hrG := ((hH19 (g18, gotL) (List.mem_cons_of_mem _ (List.mem_cons_of_mem _ (List.mem_cons_self ..)))).1).rb hfl18.1 hgotB
      have hset := setAll_spec LL2 (fun j : Nat => pageIn 27 f4 (j : Int)) HI2.out.1.once (fun x hx => (HI2.out.1.page x hx).1)
      have hd : gotL = L ∨ (ce ≠ 0 ∧ gotL = wasL) := by
        rcases a5 with ⟨q1, q2⟩ | ⟨q1, q2⟩
        · left
          refine hfl18.same hflN (fun k hk => ?_)
          show pageIn 27 g (k : Int) = _
          by_cases hx : ∃ x ∈ LL2, x.1 = (k : Int)
          · obtain ⟨x, hx, e⟩ := hx
            have h3 := hset.1 x hx
            rw [show x.1.toNat = k by omega] at h3
            rw [h3, ← e]
            exact q1 x hx
          · rw [hset.2 k (fun x hx' e => hx ⟨x, hx', e⟩)]
            exact q2 k (by omega) (by rw [show pagesOf 27 = 13 from by decide]; omega) (fun x hx' e => hx ⟨x, hx', e⟩)
        · right
          exact ⟨q1, hfl18.same hfl6 (fun k hk => q2 k (by omega) (by rw [show pagesOf 27 = 13 from by decide]; omega))⟩
      have HL19 := Lib.hid L19
      have HG := Lib.hid (And.intro hgotB (And.intro hfl18 hrG))
      have HEGN := Lib.hid (show Calls Tryd.prog 24 #[.slice (some ⟨g18, 0, none⟩) 3120 c18, .slice (some ⟨g7, 0, none⟩) 3120 c7] w19 fun e w' => e = .returned (.bool (decide (gotL = L))) ∧ w' = w19 from (Equal_any c18 c7 hrG hrN).mono fun e w' h => ⟨h.1, h.2.symm⟩)
      have HEGW := Lib.hid (show Calls Tryd.prog 24 #[.slice (some ⟨g18, 0, none⟩) 3120 c18, .slice (some ⟨g6, 0, none⟩) 3120 c6] w19 fun e w' => e = .returned (.bool (decide (gotL = wasL))) ∧ w' = w19 from (Equal_any c18 c6 hrG hrW).mono fun e w' h => ⟨h.1, h.2.symm⟩)
      clear hH19 L19 t19 n19 HOP HH18 hgotB hfl18 hwasB hfl6 hLB hflN hrW hrN hrG hset hpg11 hld11 o1 o2 o3 o4 o5 hop27 a1 a2 a3 a4 a5 hom2 h9w HST hn10 hn11 HCM
      by_cases hce : ce = 0
      · have hgl : gotL = L := hd.resolve_right (fun h => h.1 hce)
        have kce : (ce == 0) = true := by simpa using hce
        rw [decide_eq_true hgl] at HEGN
        clear hd hce hgl
        go_wp2_with fail
        refine HEGN.out.mono ?_
        rintro e wq ⟨rfl, hwq⟩
        have hwq := hwq.symm
        subst hwq
        go_wp2_with fail
        refine HEGN.out.mono ?_
        rintro e wq ⟨rfl, hwq⟩
        have hwq := hwq.symm
        subst hwq
        go_wp2_with fail
        refine HALL2.out.mono ?_
        rintro e w20 ⟨g20, c20, lastL, rfl, hc20, hg20, hnow20, hlastB, hfl20, hb20⟩
        have hlast : lastL = gotL := hfl20.same HG.out.2.1 (fun _ _ => rfl)
        subst hlast
        have hrL := hnow20.rb hfl20.1 hlastB
        have hrG := (HG.out.2.2.below hb20)
        have HEQ := Lib.hid (Equal_any c20 c18 hrL hrG)
        rw [decide_eq_true (rfl : lastL = lastL)] at HEQ
        have hbw := HL19.out.bel.trans (hb20.mono HL19.out.bel.size)
        have HAW := Lib.hid (redoAwake_any api w20 ⟨ht.1.below hbw ht.2, Nat.lt_of_lt_of_le ht.2 hbw.size⟩)
        have HBW := Lib.hid hbw
        clear hnow20 hlastB hfl20 hb20 hrL hrG hbw
        go_wp2_with fail
        refine HEQ.out.mono ?_
        rintro e w21 ⟨rfl, rfl⟩
        go_wp2_with fail
        refine HAW.out.mono ?_
        rintro e w22 ⟨rfl, hb22⟩
        go_wp2
        go_ret
        exact ⟨rfl, HBW.out.trans (hb22.mono HBW.out.size)⟩
      · have kce : (ce == 0) = false := by simpa using hce
        by_cases hgl : gotL = L
        · rw [decide_eq_true hgl] at HEGN
          clear hd hce hgl
          go_wp2_with fail
          refine HEGN.out.mono ?_
          rintro e wq ⟨rfl, hwq⟩
          have hwq := hwq.symm
          subst hwq
          go_wp2_with fail
          refine HALL2.out.mono ?_
          rintro e w20 ⟨g20, c20, lastL, rfl, hc20, hg20, hnow20, hlastB, hfl20, hb20⟩
          have hlast : lastL = gotL := hfl20.same HG.out.2.1 (fun _ _ => rfl)
          subst hlast
          have hrL := hnow20.rb hfl20.1 hlastB
          have hrG := (HG.out.2.2.below hb20)
          have HEQ := Lib.hid (Equal_any c20 c18 hrL hrG)
          rw [decide_eq_true (rfl : lastL = lastL)] at HEQ
          have hbw := HL19.out.bel.trans (hb20.mono HL19.out.bel.size)
          have HAW := Lib.hid (redoAwake_any api w20 ⟨ht.1.below hbw ht.2, Nat.lt_of_lt_of_le ht.2 hbw.size⟩)
          have HBW := Lib.hid hbw
          clear hnow20 hlastB hfl20 hb20 hrL hrG hbw
          go_wp2_with fail
          refine HEQ.out.mono ?_
          rintro e w21 ⟨rfl, rfl⟩
          go_wp2_with fail
          refine HAW.out.mono ?_
          rintro e w22 ⟨rfl, hb22⟩
          go_wp2
          go_ret
          exact ⟨rfl, HBW.out.trans (hb22.mono HBW.out.size)⟩
        · have hgw : gotL = wasL := (hd.resolve_left hgl).2
          rw [decide_eq_false hgl] at HEGN
          rw [decide_eq_true hgw] at HEGW
          clear hd hce hgl hgw
          go_wp2_with fail
          refine HEGN.out.mono ?_
          rintro e wq ⟨rfl, hwq⟩
          have hwq := hwq.symm
          subst hwq
          go_wp2_with fail
          refine HEGW.out.mono ?_
          rintro e wq ⟨rfl, hwq⟩
          have hwq := hwq.symm
          subst hwq
          go_wp2_with fail
          refine HALL2.out.mono ?_
          rintro e w20 ⟨g20, c20, lastL, rfl, hc20, hg20, hnow20, hlastB, hfl20, hb20⟩
          have hlast : lastL = gotL := hfl20.same HG.out.2.1 (fun _ _ => rfl)
          subst hlast
          have hrL := hnow20.rb hfl20.1 hlastB
          have hrG := (HG.out.2.2.below hb20)
          have HEQ := Lib.hid (Equal_any c20 c18 hrL hrG)
          rw [decide_eq_true (rfl : lastL = lastL)] at HEQ
          have hbw := HL19.out.bel.trans (hb20.mono HL19.out.bel.size)
          have HAW := Lib.hid (redoAwake_any api w20 ⟨ht.1.below hbw ht.2, Nat.lt_of_lt_of_le ht.2 hbw.size⟩)
          have HBW := Lib.hid hbw
          clear hnow20 hlastB hfl20 hb20 hrL hrG hbw
          go_wp2_with fail
          refine HEQ.out.mono ?_
          rintro e w21 ⟨rfl, rfl⟩
          go_wp2_with fail
          refine HAW.out.mono ?_
          rintro e w22 ⟨rfl, hb22⟩
          go_wp2
          go_ret
          exact ⟨rfl, HBW.out.trans (hb22.mono HBW.out.size)⟩
end

end Go.Proofs.YtkmlmbakgmafjaaDoor
