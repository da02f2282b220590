/-
  Walk of RedoLives, over any disk that answers as it is to: it returns true. Condition: the table that crc.Step reads holds what the program's text lays in it.
-/
import Derived.Test.YtkmlmbakgmafjaaDoorG7
import Derived.Test.YtkmlmbakgmafjaaDoorG5
namespace Go.Proofs.YtkmlmbakgmafjaaDoor
open Go.RowKit
set_option maxRecDepth 100000
set_option linter.unusedVariables false

section
variable {D : World → (Nat → Prop) → Addr → DS → Prop}

theorem two_blk {w w' : World} {G : Nat → Prop} {x : Addr} {q k : Nat} {r : Int × Int × DS} (hc : Committed w G x q r w') (hk : k < w.heap.size) (hG : ¬ G k) (hq : k ≠ q) : w'.heap[k]? = w.heap[k]? := by
  obtain ⟨_, _, _, _, t, _⟩ := hc
  exact t.block k hk (fun hf => hf.elim hG hq)

set_option maxHeartbeats 16000000 in
theorem redoLives_walk (api : DiskApi D) {w : World} {A : Option Addr} {x len cap : Nat} {ds : List Do6} (hx : x < 256) (hr : RDos6 w w.heap.size A len ds) (hc : len ≤ cap) (hm : len ≤ maxLen) (ht : Tab w ∧ 1 < w.heap.size) :
    Calls Tryd.prog 3 #[.int .u8 (x : Int), .slice A len cap] w fun e w' => e = .returned (.bool true) ∧ Below w.heap.size w w' := by
  obtain ⟨n, hn⟩ : ∃ n : Nat, n = 3 + x % 40 := ⟨_, rfl⟩
  have hnn : 3 + (x : Int) % 40 = (n : Int) := by omega
  have hn42 : 3 ≤ n ∧ n ≤ 42 := by omega
  have HN := Lib.hid hn42
  obtain ⟨i1, i2, i3, i4⟩ := LInv.start (n := n) (by omega)
  have hfw := law_fresh_open (m := n) (by omega)
  have H1 := Lib.hid (law_new api (w0 := w) (w := w) (n := (n : Int)) (by omega) (by omega) ht (Below.refl _ _))
  rw [Int.toNat_natCast] at H1
  have HRD := Lib.hid hr
  clear hr hn
  go_enter Tryd.func3, Tryd.ntmps3
  go_wp2_with fail
  refine H1.out.mono ?_
  rintro e w1 ⟨p, F1, rfl, L1, _⟩
  have HNR := Lib.hid (refNew_any (n : Int) w1 (by omega))
  rw [Int.toNat_natCast] at HNR
  have HL1 := Lib.hid L1
  clear L1 H1
  go_wp2_with fail
  refine HNR.out.mono ?_
  rintro e w2 ⟨xa, G2, rfl, hx2, hb2, hG2⟩
  obtain ⟨gx, _, rfl, _⟩ := id hx2
  have hT2 : TwoL D w w2 F1 G2 p ⟨gx, 0, none⟩ (DS.new n) (DS.new n) := ⟨HL1.out.later api hb2, hx2, fun k hk => Nat.le_trans HL1.out.bel.size (hG2 k hk), fun k hf hg => by
    have := HL1.out.lt api k hf
    have := hG2 k hg
    omega⟩
  have HFW := Lib.hid (few_any cap (HRD.out.below hT2.d.bel) hm hT2.d.bel.size)
  have HT2 := Lib.hid hT2
  clear hx2 hb2 hG2 hT2 HL1 HNR
  go_wp2_with fail
  refine HFW.out.mono ?_
  rintro e w3 ⟨rfl, hb3⟩
  have hT3 := HT2.out.later api hb3
  cases hfd : fewD len ds with
  | false =>
    rw [hfd] at HFW
    have HFW3 := Lib.hid (few_any cap (HRD.out.below hT3.d.bel) hm hT3.d.bel.size)
    rw [hfd] at HFW3
    have HT3 := Lib.hid hT3
    clear hfd hT3 hb3 HT2 HFW
    go_wp2_with fail
    refine HFW3.out.mono ?_
    rintro e w4 ⟨rfl, hb4⟩
    have hb := HT3.out.d.bel.trans (hb4.mono HT3.out.d.bel.size)
    have HAW := Lib.hid (redoAwake_any api w4 ⟨ht.1.below hb ht.2, Nat.lt_of_lt_of_le ht.2 hb.size⟩)
    have HB := Lib.hid hb
    clear hb hb4
    go_wp2_with fail
    refine HAW.out.mono ?_
    rintro e w5 ⟨rfl, hb5⟩
    go_wp2
    go_ret
    exact ⟨rfl, HB.out.trans (hb5.mono HB.out.size)⟩
  | true =>
    have hfew : len ≤ 30 ∧ ∀ d ∈ ds, ¬ (60 < d.kn ∨ 30 < d.pn) := by
      unfold fewD at hfd
      rw [Bool.and_eq_true, decide_eq_true_eq, Bool.not_eq_true', decide_eq_false_iff_not] at hfd
      exact ⟨hfd.1, fun d hd h => hfd.2 ⟨d, hd, h⟩⟩
    have HFE := Lib.hid hfew
    have hl30 := hfew.1
    have HFM := Lib.hid (law_format api hT3.d (show (DS.new n).writes ≤ _ from Nat.zero_le _))
    rw [i4] at HFM
    have HT3 := Lib.hid hT3
    clear hfew hfd hT3 hb3 HT2 HFW
    go_wp2_with fail
    refine HFM.out.mono ?_
    rintro e w4 ⟨rfl, F4, L4, t4, n4⟩
    have hT4 := HT3.out.nextD L4 t4 n4
    have HFR := Lib.hid (refFormat_any hT4.r (show (DS.new n).writes ≤ _ from Nat.zero_le _))
    rw [i4] at HFR
    have HT4 := Lib.hid hT4
    clear hT4 L4 t4 n4 HT3 HFM
    go_wp2_with fail
    refine HFR.out.mono ?_
    rintro e w5 ⟨rfl, G5, r5, t5, n5⟩
    have hT5 := HT4.out.nextR api r5 t5 n5
    have HOD := Lib.hid (two_openD api hT5 hfw)
    generalize hS1 : (markS (DS.new n) 0 1).2 = S1 at *
    clear hS1 r5 t5 n5 hT5 HT4 HFR
    go_wp2_with fail
    refine HOD.out.mono ?_
    rintro e w6 (⟨h1, _⟩ | ⟨_, q, F6, rfl, hT6, hl6, hF6, hG6, hq6⟩)
    · exact absurd i3 h1
    have HOR := Lib.hid (two_openR api hT6 hl6 hF6 hG6 hq6 hfw i3)
    clear hT6 hl6 hF6 hG6 hq6 HOD
    go_wp2_with fail
    refine HOR.out.mono ?_
    rintro e w7 ⟨q', G7, rfl, hQ7⟩
    rw [i2] at hQ7
    have HST := Lib.hid (show LInv n 0 (openS S1).2.2 ∧ Lg D w w7 p ⟨gx, 0, none⟩ (openS S1).2.2 0 (.pointer (some ⟨q, 0, none⟩)) (.pointer (some ⟨q', 0, none⟩)) from ⟨i1, .inr ⟨q, q', 1, F6, G7, rfl, rfl, hQ7, by decide, by decide⟩⟩)
    clear hQ7 HOR i1 i2 i3 i4 hfw
    generalize (openS S1).2.2 = S7 at HST
    go_wp2_with fail
    go_loopw [7, 9, 10, 11, 83] (fun ev fv av bv i wr => ∃ (j : Nat) (S : DS) (z : Int), j ≤ len ∧ i = .int .i64 j ∧ ev = .int .i64 z ∧ fv = .int .i64 z ∧ Hid (LInv n j S ∧ Lg D w wr p ⟨gx, 0, none⟩ S j av bv)) (fun _ _ _ _ i _ => len - (intOf i).toNat)
    case atStart => exact ⟨0, S7, 0, Nat.zero_le _, rfl, rfl, rfl, HST⟩
    case round =>
      obtain ⟨j, S, z, hj, rfl, rfl, rfl, hM⟩ := hrel
      clear HST
      by_cases hlt : j < len
      · have hlt' : (j : Int) < (len : Int) := by omega
        obtain ⟨FT, GT, hTT⟩ := hM.out.2.two
        obtain ⟨db, doff, rfl, hdb, hdat⟩ := HRD.out.2 (by omega)
        obtain ⟨d, hd, hdo⟩ := hdat j hlt
        have hdo' := hdo.keep hdb (fun b o hbb => hTT.d.bel.cell (p := ⟨b, o, none⟩) hbb)
        obtain ⟨_, _, _, _, _, _, _, _, ⟨g1w, g2, g3⟩, g4w, g5, g6⟩ := hdo
        obtain ⟨d0, d1, d2, d3, d4, d5, d6, d7, _, _⟩ := hdo'
        have HFD := Lib.hid (HFE.out.2 d (List.mem_of_getElem? hd))
        have hX : Below wr.heap.size wr (wr.alloc (.cells #[.int .i64 d.op, .int .i64 d.i, .int .u8 d.b, .slice d.pa d.pn d.pc, .slice d.ka d.kn d.kc] 42)) := (Below.refl _ _).alloc (Nat.le_refl _) _
        have hwrs := hTT.d.bel.size
        have hKB : Do6Blk (wr.alloc (.cells #[.int .i64 d.op, .int .i64 d.i, .int .u8 d.b, .slice d.pa d.pn d.pc, .slice d.ka d.kn d.kc] 42)) wr.heap.size d := heap_alloc_new _ _
        obtain ⟨t2, t5⟩ := (hTT.later api hX).r.told
        have HPG := Lib.hid (And.intro g1w (And.intro g2 (And.intro g3 (And.intro g4w (And.intro g5 g6)))))
        have HKB := Lib.hid hKB
        have HWR := Lib.hid (fun (F G : Nat → Prop) (h : TwoL D w wr F G p ⟨gx, 0, none⟩ S S) (m : Nat) => law_writes api ((h.later api hX).later api (belowN (Below.refl _ _) m)).d)
        have HDN := Lib.hid (fun (F G : Nat → Prop) (h : TwoL D w wr F G p ⟨gx, 0, none⟩ S S) (m : Nat) => law_down api ((h.later api hX).later api (belowN (Below.refl _ _) m)).d)
        have HXB := Lib.hid hX
        have HINV := Lib.hid hM.out.1
        have hlen63 : len ≤ 9223372036854775807 := by omega
        have HWQ := Lib.hid (fun m => HWR.out FT GT hTT m)
        have HDQ := Lib.hid (fun m => HDN.out FT GT hTT m)
        have hLg := hM.out.2
        obtain ⟨k0, k1, k2, k3, k4, kl⟩ := hKB.cells
        have hwb : S.writes ≤ 9223372036854500000 := by have := HINV.out.writes; omega
        clear hdat hd g1w g4w hTT hKB hX hM HWR HDN
        rcases hLg with ⟨rfl, rfl, F, G, hL⟩ | ⟨q1, q1', sq, F, G, rfl, rfl, hQ, hs0, hs1⟩
        · have HL := Lib.hid hL
          have hFk : ¬ F wr.heap.size := fun hf => Nat.lt_irrefl _ (HL.out.d.lt api _ hf)
          clear hL
          go_wp2_with fail
          go_quiet (first
            | (go_at_call 16; exact Calls.quiet_of_same (HWQ.out _))
            | (go_at_call 17; exact Calls.quiet_of_same (HDQ.out _)))
          have HLY := Lib.hid ((HL.out.later api HXB.out).later api (belowN (Below.refl _ _) nq))
          by_cases h6 : d.op = 6
          · have k6 : (d.op == 6) = true := by simpa using h6
            clear h6
            go_wp2_with fail
            refine (law_arm api HLY.out.d d.i d6).mono ?_
            rintro e wa ⟨rfl, Fa, da, ta, na⟩
            have kc1 : wa.cell? ⟨wr.heap.size, 1, none⟩ = some (.int .i64 d.i) := (World.cell?_of_block (a := ⟨wr.heap.size, 1, none⟩) (ta.block wr.heap.size kl hFk)).trans k1
            have HLa := Lib.hid (HLY.out.nextD (HLY.out.d.next da ta na) ta na)
            clear da ta na
            go_wp2_with fail
            refine (refFuse_any HLa.out.r d.i d6).mono ?_
            rintro e wb ⟨rfl, rb, tb⟩
            have HLb := Lib.hid (HLa.out.nextR api rb tb (fun k hk => .inl hk))
            clear rb tb
            go_wp2
            go_roundw
            case rel => exact ⟨j + 1, S.fuse d.i, z, by omega, by go_num, rfl, rfl, Lib.hid ⟨HINV.out.fuse d.i, .inl ⟨rfl, rfl, _, _, HLb.out⟩⟩⟩
            case measure => simp [intOf]; omega
          · by_cases h7 : d.op > 6
            · have k6 : (d.op == 6) = false := by rw [beq_eq_false_iff_ne]; omega
              have k7 : decide (d.op > 6) = true := by simpa using h7
              by_cases h8 : d.op = 7
              · have k8 : (d.op == 7) = true := by simpa using h8
                clear h6 h7 h8
                have HLL := Lib.hid (HLY.out)
                have hwc : (S.crash d.keep).writes ≤ 9223372036854700000 := by show S.writes ≤ _; omega
                go_wp2_with fail
                refine (law_crash api HLL.out.d (HPG.out.2.2.2.1.below HLL.out.d.bel) HPG.out.2.2.2.2.1 HPG.out.2.2.2.2.2 (fun h0 a ha => by
                  obtain ⟨b, off, e, hb, _⟩ := HPG.out.2.2.2.1.2.2 h0
                  rw [ha] at e
                  cases e
                  intro hf
                  have h9 : w.heap.size ≤ b := HLL.out.d.out _ hf
                  omega)).mono ?_
                rintro e wc ⟨rfl, Fc, dc, tc, nc⟩
                have kc4 : wc.cell? ⟨wr.heap.size, 4, none⟩ = some (.slice d.ka d.kn d.kc) := (World.cell?_of_block (a := ⟨wr.heap.size, 4, none⟩) (tc.block wr.heap.size kl hFk)).trans k4
                have HLc := Lib.hid (HLL.out.nextD (HLL.out.d.next dc tc nc) tc nc)
                clear dc tc nc
                go_wp2_with fail
                refine (refCrash_any HLc.out.r d.kc (HPG.out.2.2.2.1.below HLc.out.d.bel) HLc.out.d.bel.size HPG.out.2.2.2.2.2 (fun h0 a ha => by
                  obtain ⟨b, off, e, hb, _⟩ := HPG.out.2.2.2.1.2.2 h0
                  rw [ha] at e
                  cases e
                  intro hf
                  have h9 : w.heap.size ≤ b := HLc.out.gout _ hf
                  omega)).mono ?_
                rintro e wc2 ⟨rfl, Gc, rc, tgc, ngc⟩
                have HLd := Lib.hid (HLc.out.nextR api rc tgc ngc)
                clear rc tgc ngc
                go_wp2_with fail
                refine (two_openD api HLd.out hwc).mono ?_
                rintro e wd (⟨h1, rfl, Fd, Ld⟩ | ⟨h1, q2, Fd, rfl, Ld, pl, nf, ng, q0⟩)
                · have HE := Lib.hid (two_openR_no api Ld hwc h1)
                  have HH1 := Lib.hid h1
                  clear Ld h1
                  go_wp2_with fail
                  refine HE.out.mono ?_
                  rintro e we ⟨rfl, Ge, Le⟩
                  have HLe := Lib.hid Le
                  clear Le
                  go_wp2
                  go_roundw
                  case rel => exact ⟨j + 1, (openS (S.crash d.keep)).2.2, (openS (S.crash d.keep)).1, by omega, by go_num, rfl, rfl, Lib.hid ⟨(HINV.out.crash d.keep).open_.1, .inl ⟨rfl, rfl, Fd, Ge, HLe.out⟩⟩⟩
                  case measure => simp [intOf]; omega
                · have HE := Lib.hid (two_openR api Ld pl nf ng q0 hwc h1)
                  have HH1 := Lib.hid h1
                  clear Ld pl nf ng q0 h1
                  go_wp2_with fail
                  refine HE.out.mono ?_
                  rintro e we ⟨q3, Ge, rfl, Qe⟩
                  have HQe := Lib.hid Qe
                  clear Qe
                  go_wp2
                  go_roundw
                  case rel => exact ⟨j + 1, (openS (S.crash d.keep)).2.2, 0, by omega, by go_num, rfl, rfl, Lib.hid ⟨(HINV.out.crash d.keep).open_.1, .inr ⟨q2, q3, _, Fd, Ge, rfl, rfl, HQe.out, ((HINV.out.crash d.keep).open_.2 HH1.out).1, ((HINV.out.crash d.keep).open_.2 HH1.out).2⟩⟩⟩
                  case measure => simp [intOf]; omega
              · have k8 : (d.op == 7) = false := by simpa using h8
                clear h6 h7 h8
                have HLL := Lib.hid (HLY.out)
                have hwc : S.writes ≤ 9223372036854700000 := by omega
                go_wp2_with fail
                refine (two_openD api HLL.out hwc).mono ?_
                rintro e wd (⟨h1, rfl, Fd, Ld⟩ | ⟨h1, q2, Fd, rfl, Ld, pl, nf, ng, q0⟩)
                · have HE := Lib.hid (two_openR_no api Ld hwc h1)
                  have HH1 := Lib.hid h1
                  clear Ld h1
                  go_wp2_with fail
                  refine HE.out.mono ?_
                  rintro e we ⟨rfl, Ge, Le⟩
                  have HLe := Lib.hid Le
                  clear Le
                  go_wp2
                  go_roundw
                  case rel => exact ⟨j + 1, (openS (S)).2.2, (openS (S)).1, by omega, by go_num, rfl, rfl, Lib.hid ⟨HINV.out.open_.1, .inl ⟨rfl, rfl, Fd, Ge, HLe.out⟩⟩⟩
                  case measure => simp [intOf]; omega
                · have HE := Lib.hid (two_openR api Ld pl nf ng q0 hwc h1)
                  have HH1 := Lib.hid h1
                  clear Ld pl nf ng q0 h1
                  go_wp2_with fail
                  refine HE.out.mono ?_
                  rintro e we ⟨q3, Ge, rfl, Qe⟩
                  have HQe := Lib.hid Qe
                  clear Qe
                  go_wp2
                  go_roundw
                  case rel => exact ⟨j + 1, (openS (S)).2.2, 0, by omega, by go_num, rfl, rfl, Lib.hid ⟨HINV.out.open_.1, .inr ⟨q2, q3, _, Fd, Ge, rfl, rfl, HQe.out, (HINV.out.open_.2 HH1.out).1, (HINV.out.open_.2 HH1.out).2⟩⟩⟩
                  case measure => simp [intOf]; omega
            · have k6 : (d.op == 6) = false := by rw [beq_eq_false_iff_ne]; omega
              have k7 : decide (d.op > 6) = false := by simpa using h7
              clear h6 h7
              go_wp2
              go_roundw
              case rel => exact ⟨j + 1, S, z, by omega, by go_num, rfl, rfl, Lib.hid ⟨HINV.out.same, .inl ⟨rfl, rfl, F, G, HLY.out⟩⟩⟩
              case measure => simp [intOf]; omega
        · have HQ := Lib.hid hQ
          have hFk : ¬ F wr.heap.size := fun hf => Nat.lt_irrefl _ (HQ.out.d.lt api _ hf)
          have hql : q1 < wr.heap.size := HQ.out.log.cells.2.2.2
          have hql' : q1' < wr.heap.size := HQ.out.ref.cells.2.2.2
          have hGk : ¬ G wr.heap.size := fun hg => Nat.lt_irrefl _ (HQ.out.r.lt _ hg)
          have hQX := hQ.later api HXB.out
          obtain ⟨_, y1, _, _⟩ := hQX.ref.cells
          have HSQ := Lib.hid (fun m => law_seq ((hQX.later api (belowN (Below.refl _ _) m)).law))
          clear hQ hQX
          go_wp2_with fail
          go_quiet (first
            | (go_at_call 15; exact Calls.quiet_of_same (HSQ.out _))
            | (go_at_call 16; exact Calls.quiet_of_same (HWQ.out _))
            | (go_at_call 17; exact Calls.quiet_of_same (HDQ.out _)))
          have HLY := Lib.hid ((HQ.out.later api HXB.out).later api (belowN (Below.refl _ _) nq))
          clear y1
          by_cases h6 : d.op = 6
          · have k6 : (d.op == 6) = true := by simpa using h6
            clear h6
            go_wp2_with fail
            refine (law_arm api HLY.out.d d.i d6).mono ?_
            rintro e wa ⟨rfl, Fa, da, ta, na⟩
            have kc1 : wa.cell? ⟨wr.heap.size, 1, none⟩ = some (.int .i64 d.i) := (World.cell?_of_block (a := ⟨wr.heap.size, 1, none⟩) (ta.block wr.heap.size kl hFk)).trans k1
            have HLa := Lib.hid (HLY.out.nextD (HLY.out.d.next da ta na) ta na)
            clear da ta na
            go_wp2_with fail
            refine (refFuse_any HLa.out.r d.i d6).mono ?_
            rintro e wb ⟨rfl, rb, tb⟩
            have HLb := Lib.hid (HLa.out.nextR api rb tb (fun k hk => .inl hk))
            clear rb tb
            go_wp2
            go_roundw
            case rel => exact ⟨j + 1, S.fuse d.i, z, by omega, by go_num, rfl, rfl, Lib.hid ⟨HINV.out.fuse d.i, .inr ⟨q1, q1', sq, _, _, rfl, rfl, HLb.out, hs0, by omega⟩⟩⟩
            case measure => simp [intOf]; omega
          · by_cases h7 : d.op > 6
            · have k6 : (d.op == 6) = false := by rw [beq_eq_false_iff_ne]; omega
              have k7 : decide (d.op > 6) = true := by simpa using h7
              by_cases h8 : d.op = 7
              · have k8 : (d.op == 7) = true := by simpa using h8
                clear h6 h7 h8
                have HLL := Lib.hid (HLY.out.toTwoL)
                have hwc : (S.crash d.keep).writes ≤ 9223372036854700000 := by show S.writes ≤ _; omega
                go_wp2_with fail
                refine (law_crash api HLL.out.d (HPG.out.2.2.2.1.below HLL.out.d.bel) HPG.out.2.2.2.2.1 HPG.out.2.2.2.2.2 (fun h0 a ha => by
                  obtain ⟨b, off, e, hb, _⟩ := HPG.out.2.2.2.1.2.2 h0
                  rw [ha] at e
                  cases e
                  intro hf
                  have h9 : w.heap.size ≤ b := HLL.out.d.out _ hf
                  omega)).mono ?_
                rintro e wc ⟨rfl, Fc, dc, tc, nc⟩
                have kc4 : wc.cell? ⟨wr.heap.size, 4, none⟩ = some (.slice d.ka d.kn d.kc) := (World.cell?_of_block (a := ⟨wr.heap.size, 4, none⟩) (tc.block wr.heap.size kl hFk)).trans k4
                have HLc := Lib.hid (HLL.out.nextD (HLL.out.d.next dc tc nc) tc nc)
                clear dc tc nc
                go_wp2_with fail
                refine (refCrash_any HLc.out.r d.kc (HPG.out.2.2.2.1.below HLc.out.d.bel) HLc.out.d.bel.size HPG.out.2.2.2.2.2 (fun h0 a ha => by
                  obtain ⟨b, off, e, hb, _⟩ := HPG.out.2.2.2.1.2.2 h0
                  rw [ha] at e
                  cases e
                  intro hf
                  have h9 : w.heap.size ≤ b := HLc.out.gout _ hf
                  omega)).mono ?_
                rintro e wc2 ⟨rfl, Gc, rc, tgc, ngc⟩
                have HLd := Lib.hid (HLc.out.nextR api rc tgc ngc)
                clear rc tgc ngc
                go_wp2_with fail
                refine (two_openD api HLd.out hwc).mono ?_
                rintro e wd (⟨h1, rfl, Fd, Ld⟩ | ⟨h1, q2, Fd, rfl, Ld, pl, nf, ng, q0⟩)
                · have HE := Lib.hid (two_openR_no api Ld hwc h1)
                  have HH1 := Lib.hid h1
                  clear Ld h1
                  go_wp2_with fail
                  refine HE.out.mono ?_
                  rintro e we ⟨rfl, Ge, Le⟩
                  have HLe := Lib.hid Le
                  clear Le
                  go_wp2
                  go_roundw
                  case rel => exact ⟨j + 1, (openS (S.crash d.keep)).2.2, (openS (S.crash d.keep)).1, by omega, by go_num, rfl, rfl, Lib.hid ⟨(HINV.out.crash d.keep).open_.1, .inl ⟨rfl, rfl, Fd, Ge, HLe.out⟩⟩⟩
                  case measure => simp [intOf]; omega
                · have HE := Lib.hid (two_openR api Ld pl nf ng q0 hwc h1)
                  have HH1 := Lib.hid h1
                  clear Ld pl nf ng q0 h1
                  go_wp2_with fail
                  refine HE.out.mono ?_
                  rintro e we ⟨q3, Ge, rfl, Qe⟩
                  have HQe := Lib.hid Qe
                  clear Qe
                  go_wp2
                  go_roundw
                  case rel => exact ⟨j + 1, (openS (S.crash d.keep)).2.2, 0, by omega, by go_num, rfl, rfl, Lib.hid ⟨(HINV.out.crash d.keep).open_.1, .inr ⟨q2, q3, _, Fd, Ge, rfl, rfl, HQe.out, ((HINV.out.crash d.keep).open_.2 HH1.out).1, ((HINV.out.crash d.keep).open_.2 HH1.out).2⟩⟩⟩
                  case measure => simp [intOf]; omega
              · have k8 : (d.op == 7) = false := by simpa using h8
                clear h6 h7 h8
                have HLL := Lib.hid (HLY.out.toTwoL)
                have hwc : S.writes ≤ 9223372036854700000 := by omega
                go_wp2_with fail
                refine (two_openD api HLL.out hwc).mono ?_
                rintro e wd (⟨h1, rfl, Fd, Ld⟩ | ⟨h1, q2, Fd, rfl, Ld, pl, nf, ng, q0⟩)
                · have HE := Lib.hid (two_openR_no api Ld hwc h1)
                  have HH1 := Lib.hid h1
                  clear Ld h1
                  go_wp2_with fail
                  refine HE.out.mono ?_
                  rintro e we ⟨rfl, Ge, Le⟩
                  have HLe := Lib.hid Le
                  clear Le
                  go_wp2
                  go_roundw
                  case rel => exact ⟨j + 1, (openS (S)).2.2, (openS (S)).1, by omega, by go_num, rfl, rfl, Lib.hid ⟨HINV.out.open_.1, .inl ⟨rfl, rfl, Fd, Ge, HLe.out⟩⟩⟩
                  case measure => simp [intOf]; omega
                · have HE := Lib.hid (two_openR api Ld pl nf ng q0 hwc h1)
                  have HH1 := Lib.hid h1
                  clear Ld pl nf ng q0 h1
                  go_wp2_with fail
                  refine HE.out.mono ?_
                  rintro e we ⟨q3, Ge, rfl, Qe⟩
                  have HQe := Lib.hid Qe
                  clear Qe
                  go_wp2
                  go_roundw
                  case rel => exact ⟨j + 1, (openS (S)).2.2, 0, by omega, by go_num, rfl, rfl, Lib.hid ⟨HINV.out.open_.1, .inr ⟨q2, q3, _, Fd, Ge, rfl, rfl, HQe.out, (HINV.out.open_.2 HH1.out).1, (HINV.out.open_.2 HH1.out).2⟩⟩⟩
                  case measure => simp [intOf]; omega
            · have k6 : (d.op == 6) = false := by rw [beq_eq_false_iff_ne]; omega
              have k7 : decide (d.op > 6) = false := by simpa using h7
              by_cases h5 : d.op = 5
              · have k5 : (d.op == 5) = true := by simpa using h5
                clear h5 h6 h7
                have HLD := Lib.hid (law_load api HLY.out.law d.i d6)
                go_wp2_with fail
                refine HLD.out.mono ?_
                rintro e wl ⟨A1, n1, c1, rfl, hc1, hr1, _, hb1⟩
                have HL1 := Lib.hid (And.intro (HLY.out.later api hb1) hr1)
                have kc1 := (hb1.cell (p := ⟨wr.heap.size, 1, none⟩) kl).trans k1
                clear hc1 hr1 hb1
                go_wp2_with fail
                refine (refLoad_any HL1.out.1.r HL1.out.1.ref d.i).mono ?_
                rintro e wl2 ⟨A2, n2, c2, rfl, hc2, hr2, hb2⟩
                have HL2 := Lib.hid (HL1.out.1.later api hb2)
                have HEQ := Lib.hid (Equal_any c1 c2 (HL1.out.2.below hb2) hr2)
                rw [decide_eq_true (rfl : (loadS S d.i).1 = (loadS S d.i).1)] at HEQ
                clear hc2 hr2 hb2
                go_wp2_with fail
                refine HEQ.out.mono ?_
                rintro e wl3 ⟨rfl, rfl⟩
                go_wp2
                go_roundw
                case rel => exact ⟨j + 1, S, z, by omega, by go_num, rfl, rfl, Lib.hid ⟨HINV.out.same, .inr ⟨q1, q1', sq, F, G, rfl, rfl, HL2.out, hs0, by omega⟩⟩⟩
                case measure => simp [intOf]; omega
              · have k5 : (d.op == 5) = false := by simpa using h5
                clear h5 h6 h7
                have hpn : d.pn ≤ 30 := by have := HFD.out; omega
                have hllen : (imgs6 d.b d.pages).length = d.pn := by unfold imgs6; rw [List.length_map]; exact HPG.out.1.len
                have hYd : Below wr.heap.size wr ((wr.alloc (.cells #[.int .i64 d.op, .int .i64 d.i, .int .u8 d.b, .slice d.pa d.pn d.pc, .slice d.ka d.kn d.kc] 42)).drewN nq).drew := (belowN HXB.out nq).drew
                have HLZ := Lib.hid ((HQ.out.later api hYd))
                have HIM1 := Lib.hid (images_any d (HPG.out.1.below HLZ.out.d.bel) HLZ.out.d.bel.size hpn)
                have hin : ∀ y ∈ imgs6 d.b d.pages, -9223372036854775808 ≤ y.1 ∧ y.1 ≤ 9223372036854775807 := fun y hy => by
                  obtain ⟨zz, hz, rfl⟩ := List.mem_map.1 hy
                  exact HPG.out.1.2.1 zz hz
                have HIN := Lib.hid hin
                have hkz : Do6Blk ((wr.alloc (.cells #[.int .i64 d.op, .int .i64 d.i, .int .u8 d.b, .slice d.pa d.pn d.pc, .slice d.ka d.kn d.kc] 42)).drewN nq).drew wr.heap.size d := HKB.out
                have HCC := Lib.hid (HINV.out.commit (seq := sq) (l := imgs6 d.b d.pages) ⟨hs0, hs1⟩ (by omega) (imgs6_bytes _ _) (by omega))
                have klz : wr.heap.size < ((wr.alloc (.cells #[.int .i64 d.op, .int .i64 d.i, .int .u8 d.b, .slice d.pa d.pn d.pc, .slice d.ka d.kn d.kc] 42)).drewN nq).drew.heap.size := kl
                clear hin
                go_wp2_with fail
                go_region_held3 (fun w' => Do6Blk w' wr.heap.size d ∧ w'.cell? ⟨wr.heap.size, 0, none⟩ = some (.int .i64 d.op) ∧ w'.cell? ⟨wr.heap.size, 1, none⟩ = some (.int .i64 d.i) ∧ w'.cell? ⟨wr.heap.size, 2, none⟩ = some (.int .u8 d.b) ∧ w'.cell? ⟨wr.heap.size, 3, none⟩ = some (.slice d.pa d.pn d.pc) ∧ w'.cell? ⟨wr.heap.size, 4, none⟩ = some (.slice d.ka d.kn d.kc))
                  (first | exact ⟨hkz, hkz.cells.1, hkz.cells.2.1, hkz.cells.2.2.1, hkz.cells.2.2.2.1, hkz.cells.2.2.2.2.1⟩ | exact ⟨hk21, hk21.cells.1, hk21.cells.2.1, hk21.cells.2.2.1, hk21.cells.2.2.2.1, hk21.cells.2.2.2.2.1⟩ | exact ⟨hk22, hk22.cells.1, hk22.cells.2.1, hk22.cells.2.2.1, hk22.cells.2.2.2.1, hk22.cells.2.2.2.2.1⟩ | exact ⟨hk23, hk23.cells.1, hk23.cells.2.1, hk23.cells.2.2.1, hk23.cells.2.2.2.1, hk23.cells.2.2.2.2.1⟩ | exact ⟨hk24, hk24.cells.1, hk24.cells.2.1, hk24.cells.2.2.1, hk24.cells.2.2.2.1, hk24.cells.2.2.2.2.1⟩)
                  (first
                    | (go_at_call 26; refine HIM1.out.mono ?_; rintro e w21 ⟨A21, c21, rfl, hri21, hb21⟩; have hk21 : Do6Blk w21 wr.heap.size d := (hb21.block _ klz).trans hkz; have hQ21 := HLZ.out.later api hb21; have hlz := HLZ.out.d.lt api)
                    | (go_at_call 25; refine (law_commit (c := c21) (l := imgs6 d.b d.pages) api hQ21.law (hri21.weaken (fun k hk => by rcases hk with a | a; exact hlz k a; show k < _; omega)) (imgs6_bytes _ _) HIN.out (by omega) (by omega) (by omega)).mono ?_; rintro e w22 ⟨rfl, F22, L22, t22, n22⟩; have hk22 : Do6Blk w22 wr.heap.size d := (t22.block _ (Nat.lt_of_lt_of_le klz hb21.size) (fun hf => hf.elim hFk (fun a => by omega))).trans hk21; have hQ22 := hQ21.commitD L22 t22 n22; have HIM2 := Lib.hid (images_any d (HPG.out.1.below hQ22.d.bel) hQ22.d.bel.size hpn))
                    | (go_at_call 26; refine HIM2.out.mono ?_; rintro e w23 ⟨A23, c23, rfl, hri23, hb23⟩; have hk23 : Do6Blk w23 wr.heap.size d := (hb23.block _ hk22.cells.2.2.2.2.2).trans hk22; have hQ23 := hQ22.later api hb23; have hlr := hQ22.r.lt)
                    | (go_at_call 27; refine (refCommit_any (c := c23) (l := imgs6 d.b d.pages) hQ23.r hQ23.ref hQ23.rG (hri23.weaken (fun k hk => hlr k hk)) (imgs6_bytes _ _) (by omega) (by omega) (by omega)).mono ?_; rintro e w24 ⟨rfl, hc24⟩; obtain ⟨G24, hQ24⟩ := hQ23.commitR api hc24; have hk24 : Do6Blk w24 wr.heap.size d := (two_blk hc24 hk23.cells.2.2.2.2.2 hGk (by omega)).trans hk23))
                have HQE := Lib.hid hQ24
                clear hk21 hk22 hk23 hk24 hQ21 hQ22 hQ23 hQ24 hri21 hri23 hb21 hb23 L22 t22 n22 hc24 HIM1 HIM2 hkz hlz hlr klz hYd
                go_wp2
                go_roundw
                case rel => exact ⟨j + 1, (commitS S sq (imgs6 d.b d.pages)).2.2, z, by omega, by go_num, rfl, rfl, Lib.hid ⟨HCC.out.1, .inr ⟨q1, q1', (commitS S sq (imgs6 d.b d.pages)).2.1, F22, G24, rfl, rfl, HQE.out, HCC.out.2.1, HCC.out.2.2⟩⟩⟩
                case measure => simp [intOf]; omega
      · obtain rfl : j = len := by omega
        obtain ⟨F, G, hL⟩ := hM.out.2.two
        have HSN := Lib.hid hM.out.1.n_
        have HL := Lib.hid hL
        have hLg := hM.out.2
        clear hL hM
        rcases hLg with ⟨rfl, rfl, _⟩ | ⟨q1, q1', sq, _, _, rfl, rfl, _⟩
        · go_wp2_with fail
          go_loopw [216] (fun i wr2 => ∃ k : Nat, k ≤ n ∧ i = .int .i64 k ∧ Hid (TwoL D w wr2 F G p ⟨gx, 0, none⟩ S S)) (fun i _ => n - (intOf i).toNat)
          case atStart => exact ⟨0, Nat.zero_le _, rfl, HL⟩
          case round =>
            obtain ⟨k, hk, rfl, hT⟩ := hrel
            by_cases hkn : k < n
            · have hkn' : (k : Int) < (n : Int) := by omega
              have HR1 := Lib.hid (api.read (k : Int) _ _ _ _ hT.out.d.d)
              go_wp2_with fail
              refine HR1.out.mono ?_
              rintro e wA ⟨A1, m1, c1, rfl, hc1, hr1, hb1⟩
              have HT1 := Lib.hid (And.intro (hT.out.later api hb1) hr1)
              clear hc1 hr1 hb1
              go_wp2_with fail
              refine (refRead_any HT1.out.1.r (k : Int)).mono ?_
              rintro e wB ⟨A2, m2, c2, rfl, hc2, hr2, hb2⟩
              have HT2 := Lib.hid (HT1.out.1.later api hb2)
              have HEQ := Lib.hid (Equal_any c1 c2 (HT1.out.2.below hb2) hr2)
              rw [decide_eq_true (rfl : S.readL (k : Int) = S.readL (k : Int))] at HEQ
              clear hc2 hr2 hb2
              go_wp2_with fail
              refine HEQ.out.mono ?_
              rintro e wC ⟨rfl, rfl⟩
              go_wp2
              go_roundw
              case rel => exact ⟨k + 1, by omega, by go_num, HT2⟩
              case measure => simp [intOf]; omega
            · obtain rfl : k = n := by omega
              have hb := hT.out.d.bel
              have HAW := Lib.hid (redoAwake_any api _ ⟨ht.1.below hb ht.2, Nat.lt_of_lt_of_le ht.2 hb.size⟩)
              have HB := Lib.hid hb
              clear hb
              go_wp2_with fail
              refine HAW.out.mono ?_
              rintro e wD ⟨rfl, hbD⟩
              go_wp2
              go_ret
              exact ⟨rfl, HB.out.trans (hbD.mono HB.out.size)⟩
        · go_wp2_with fail
          go_loopw [216] (fun i wr2 => ∃ k : Nat, k ≤ n ∧ i = .int .i64 k ∧ Hid (TwoL D w wr2 F G p ⟨gx, 0, none⟩ S S)) (fun i _ => n - (intOf i).toNat)
          case atStart => exact ⟨0, Nat.zero_le _, rfl, HL⟩
          case round =>
            obtain ⟨k, hk, rfl, hT⟩ := hrel
            by_cases hkn : k < n
            · have hkn' : (k : Int) < (n : Int) := by omega
              have HR1 := Lib.hid (api.read (k : Int) _ _ _ _ hT.out.d.d)
              go_wp2_with fail
              refine HR1.out.mono ?_
              rintro e wA ⟨A1, m1, c1, rfl, hc1, hr1, hb1⟩
              have HT1 := Lib.hid (And.intro (hT.out.later api hb1) hr1)
              clear hc1 hr1 hb1
              go_wp2_with fail
              refine (refRead_any HT1.out.1.r (k : Int)).mono ?_
              rintro e wB ⟨A2, m2, c2, rfl, hc2, hr2, hb2⟩
              have HT2 := Lib.hid (HT1.out.1.later api hb2)
              have HEQ := Lib.hid (Equal_any c1 c2 (HT1.out.2.below hb2) hr2)
              rw [decide_eq_true (rfl : S.readL (k : Int) = S.readL (k : Int))] at HEQ
              clear hc2 hr2 hb2
              go_wp2_with fail
              refine HEQ.out.mono ?_
              rintro e wC ⟨rfl, rfl⟩
              go_wp2
              go_roundw
              case rel => exact ⟨k + 1, by omega, by go_num, HT2⟩
              case measure => simp [intOf]; omega
            · obtain rfl : k = n := by omega
              have hb := hT.out.d.bel
              have HAW := Lib.hid (redoAwake_any api _ ⟨ht.1.below hb ht.2, Nat.lt_of_lt_of_le ht.2 hb.size⟩)
              have HB := Lib.hid hb
              clear hb
              go_wp2_with fail
              refine HAW.out.mono ?_
              rintro e wD ⟨rfl, hbD⟩
              go_wp2
              go_ret
              exact ⟨rfl, HB.out.trans (hbD.mono HB.out.size)⟩
end

end Go.Proofs.YtkmlmbakgmafjaaDoor
