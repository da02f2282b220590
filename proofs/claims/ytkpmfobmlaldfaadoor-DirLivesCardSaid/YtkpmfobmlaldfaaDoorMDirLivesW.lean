/-
  Walk of DirLives, over any disk that answers as it is to: it returns true. Condition: the table that crc.Step reads holds what the program's text lays in it.
-/
import Derived.Test.YtkpmfobmlaldfaaDoorG7
namespace Go.Proofs.YtkpmfobmlaldfaaDoor
open Go.RowKit
set_option maxRecDepth 100000
set_option linter.unusedVariables false

section
variable {D : World → (Nat → Prop) → Addr → DS → Prop}
/-- Both pagers behind k calls. -/
def DLInv (D : World → (Nat → Prop) → Addr → DS → Prop) (w0 : World) (S : DS) (k : Nat) (p xa : Addr) (q q' r b xr : Nat) (wr : World) : Prop :=
  ∃ (F O G : Nat → Prop) (v : Value) (L : List (Int × List Int)), TwoPg D w0 wr F O G p xa S S q q' 1 1 r b xr v L L

theorem TwoPg.lens30 {w w0 : World} {F O G : Nat → Prop} {p xa : Addr} {S T : DS} {q q' r b xr : Nat} {s t : Int} {v : Value} {L M : List (Int × List Int)} (h : TwoPg D w0 w F O G p xa S T q q' s t r b xr v L M) (hn : S.n = 61) : L.length ≤ 64 := by
  have hf := few_set h.pg.up h.pg.all
  have hP : S.P = 30 := by unfold DS.P; rw [hn]; decide
  omega

set_option maxHeartbeats 16000000 in
theorem dirLives_walk (api : DiskApi D) {w : World} {d f n c : Int} {MA : Option Addr} {mk mcap : Nat} {ml : List Int} (hmi : MetaIn w d f n c MA mk mcap ml) {A : Option Addr} {len cap : Nat} {ds : List Do11} (hr : RDos11 w w.heap.size A len ds) (hc : len ≤ cap) (hm : len ≤ maxLen) {dd : Int} (hdd : (Lit.int .i64 dd).wf = true) (ht : Tab w ∧ 0 < w.heap.size) :
    Calls Tryd.prog 3 #[.agg #[.int .i64 d, .int .i64 f, .int .i64 n, .int .i64 c, .slice MA mk mcap], .slice A len cap, .int .i64 dd] w fun e w' => e = .returned (.bool true) ∧ Below w.heap.size w w' := by
  unfold maxLen at hm
  obtain ⟨_, r5, _, r7⟩ := S0_facts (n := 61) (by decide)
  have hX : Below w.heap.size w (w.alloc (.cells #[.int .i64 d, .int .i64 f, .int .i64 n, .int .i64 c, .slice MA mk mcap] 24)) := (Below.refl _ _).alloc (Nat.le_refl _) _
  have hbx := DBox.new w d f n c (.slice MA mk mcap)
  have hmk := hmi.hm
  have hmc := hmi.hc
  have hri := hmi.hr.below hX
  have hrd := hr.below hX
  have htX : Tab (w.alloc (.cells #[.int .i64 d, .int .i64 f, .int .i64 n, .int .i64 c, .slice MA mk mcap] 24)) ∧ 0 < (w.alloc (.cells #[.int .i64 d, .int .i64 f, .int .i64 n, .int .i64 c, .slice MA mk mcap] 24)).heap.size := ⟨ht.1.below hX ht.2, Nat.lt_of_lt_of_le ht.2 hX.size⟩
  have hFR := fresh11_any api _ htX
  have hsX : (w.alloc (.cells #[.int .i64 d, .int .i64 f, .int .i64 n, .int .i64 c, .slice MA mk mcap] 24)).heap.size = w.heap.size + 1 := by simp
  have HX := Lib.hid hX
  have HFR := Lib.hid hFR
  have HBX := Lib.hid hbx
  have HRI := Lib.hid hri
  have HRD := Lib.hid hrd
  have HAWK := Lib.hid (fun w1 (hb : Below w.heap.size w w1) => dirAwake_any api w1 ⟨ht.1.below hb ht.2, Nat.lt_of_lt_of_le ht.2 hb.size⟩)
  have HN1 := Lib.hid (fun w => Need_any dd w)
  have HN2 := Lib.hid (fun w => refNeed_any dd w)
  obtain ⟨z0, z1, z2, z3, z4, _⟩ := hbx.cells
  generalize S0 61 = S at *
  have HS := Lib.hid (And.intro r5 r7)
  clear r5 r7 hX hbx hri hrd htX hFR hr hmi
  generalize needD dd = nd at HN1 HN2
  by_cases hgo : mk ≤ 60 ∧ len ≤ 60
  case neg =>
    by_cases hm60 : mk ≤ 60
    · have k1 : decide ((mk : Int) > 60) = false := by simp; omega
      have k2 : decide ((len : Int) > 60) = true := by simp; omega
      go_enter Tryd.func3, Tryd.ntmps3
      go_wp2_with fail
      refine HFR.out.mono ?_
      rintro e w1 ⟨r, xr, b, q, q', F, O, G, p, xa, rfl, hT⟩
      have hb1 := HX.out.trans (hT.bel.mono HX.out.size)
      have hbb := HBX.out.below (hT.bel.mono (Nat.le_refl _))
      obtain ⟨y0, y1, y2, y3, y4, _⟩ := hbb.cells
      have HB1 := Lib.hid hb1
      have HAW := Lib.hid (HAWK.out w1 hb1)
      clear hT HFR hb1 hbb z0 z1 z2 z3 z4
      go_wp2_with fail
      refine HAW.out.mono ?_
      rintro e we ⟨rfl, hbe⟩
      have HF := Lib.hid (HB1.out.trans (hbe.mono HB1.out.size))
      clear hbe
      go_wp2
      go_ret
      exact ⟨rfl, HF.out⟩
    · have k1 : decide ((mk : Int) > 60) = true := by simp; omega
      go_enter Tryd.func3, Tryd.ntmps3
      go_wp2_with fail
      refine HFR.out.mono ?_
      rintro e w1 ⟨r, xr, b, q, q', F, O, G, p, xa, rfl, hT⟩
      have hb1 := HX.out.trans (hT.bel.mono HX.out.size)
      have hbb := HBX.out.below (hT.bel.mono (Nat.le_refl _))
      obtain ⟨y0, y1, y2, y3, y4, _⟩ := hbb.cells
      have HB1 := Lib.hid hb1
      have HAW := Lib.hid (HAWK.out w1 hb1)
      clear hT HFR hb1 hbb z0 z1 z2 z3 z4
      go_wp2_with fail
      refine HAW.out.mono ?_
      rintro e we ⟨rfl, hbe⟩
      have HF := Lib.hid (HB1.out.trans (hbe.mono HB1.out.size))
      clear hbe
      go_wp2
      go_ret
      exact ⟨rfl, HF.out⟩
  obtain ⟨hm60, h60⟩ := hgo
  have k1 : decide ((mk : Int) > 60) = false := by simp; omega
  have k2 : decide ((len : Int) > 60) = false := by simp; omega
  go_enter Tryd.func3, Tryd.ntmps3
  go_wp2_with fail
  refine HFR.out.mono ?_
  rintro e w1 ⟨r, xr, b, q, q', F, O, G, p, xa, rfl, hT⟩
  obtain ⟨y0, y1, y2, y3, y4, _⟩ := (HBX.out.below (hT.bel.mono (Nat.le_refl _))).cells
  generalize hwX : w.alloc (.cells #[.int .i64 d, .int .i64 f, .int .i64 n, .int .i64 c, .slice MA mk mcap] 24) = wX at *
  clear hwX
  have HM0 : Hid (DLInv D wX S 0 p xa q q' r b xr w1) := Lib.hid ⟨F, O, G, _, [], hT⟩
  clear hT HFR z0 z1 z2 z3 z4 F O G
  go_wp2_with fail
  clear y0 y1 y2 y3 y4
  go_loopw [39] (fun i wr => ∃ k : Nat, k ≤ len ∧ i = .int .i64 k ∧ Hid (DLInv D wX S k p xa q q' r b xr wr)) (fun i _ => len - (intOf i).toNat)
  case atStart => exact ⟨0, Nat.zero_le _, rfl, HM0⟩
  case round =>
    clear HM0
    obtain ⟨k, hk, rfl, hM⟩ := hrel
    by_cases hlt : k < len
    · have hlt' : (k : Int) < (len : Int) := by omega
      obtain ⟨F, O, G, v, L, hT⟩ := hM.out
      obtain ⟨db, doff, rfl, hdb, hdat⟩ := HRD.out.2 (by omega)
      obtain ⟨⟨dst, di, dp⟩, hd, hdo⟩ := hdat k hlt
      obtain ⟨d0, d1, d2, d4, d5⟩ := hdo.keep (B := w.heap.size) hdb (fun b o hbb => hT.bel.cell (p := ⟨b, o, none⟩) (by show b < _; omega))
      dsimp only at d0 d1 d2 d4 d5
      have hY : Below wr.heap.size wr (wr.alloc (.cells #[.bool dst, .int .i64 di, .int .i64 dp] 32)) := (Below.refl _ _).alloc (Nat.le_refl _) _
      have hKB : Do11Blk (wr.alloc (.cells #[.bool dst, .int .i64 di, .int .i64 dp] 32)) wr.heap.size ⟨dst, di, dp⟩ := heap_alloc_new wr _
      obtain ⟨kc0, kc1, kc2, hkl⟩ := hKB.cells
      dsimp only at kc0 kc1 kc2
      have hTY := hT.later api hY
      have HWX := Lib.hid (fun (w2 : World) (hb : Below wX.heap.size wX w2) => And.intro (HBX.out.below hb) (HRI.out.below (hb.mono HX.out.size)))
      have hsz : w.heap.size ≤ wX.heap.size := HX.out.size
      obtain ⟨z0, z1, z2, z3, z4, zl⟩ := (HWX.out _ hTY.bel).1.cells
      have HT0 := Lib.hid hT
      have HTY := Lib.hid hTY
      have HD := Lib.hid (And.intro d4 d5)
      clear hdat hd hdo hT hTY hM d4 d5
      cases dst with
      | true =>
        skip
        have hTd := HTY.out.later api (Below.refl _ _).drew
        have HTD := Lib.hid hTd
        have HLT := Lib.hid (show ∀ k, (O k ∨ rpY G q' xr v k) → k < wr.heap.size from fun k hk => by
          rcases hk with a | a | a | a | a
          · exact HT0.out.pg.lt k a
          · exact HT0.out.R.ref.lt k a
          · have := HT0.out.R.log.cells.2.2.2; omega
          · have := HT0.out.R.cells.2.2.2; omega
          · obtain ⟨vs0, hrow0, _⟩ := HT0.out.R.row.row
            exact (own_at hrow0 k a).2)
        have hno5 : ¬ O wr.heap.size := fun ho => Nat.lt_irrefl _ (HLT.out _ (.inl ho))
        have hno7 : ¬ rpY G q' xr v wr.heap.size := fun ho => Nat.lt_irrefl _ (HLT.out _ (.inr ho))
        have y0 : (wr.alloc (.cells #[.bool true, .int .i64 di, .int .i64 dp] 32)).drew.cell? ⟨wr.heap.size, 1, none⟩ = some (.int .i64 di) ∧ (wr.alloc (.cells #[.bool true, .int .i64 di, .int .i64 dp] 32)).drew.cell? ⟨wr.heap.size, 2, none⟩ = some (.int .i64 dp) ∧ (wr.alloc (.cells #[.bool true, .int .i64 di, .int .i64 dp] 32)).drew.cell? ⟨w.heap.size, 0, none⟩ = some (.int .i64 d) ∧ (wr.alloc (.cells #[.bool true, .int .i64 di, .int .i64 dp] 32)).drew.cell? ⟨w.heap.size, 1, none⟩ = some (.int .i64 f) ∧ (wr.alloc (.cells #[.bool true, .int .i64 di, .int .i64 dp] 32)).drew.cell? ⟨w.heap.size, 2, none⟩ = some (.int .i64 n) ∧ (wr.alloc (.cells #[.bool true, .int .i64 di, .int .i64 dp] 32)).drew.cell? ⟨w.heap.size, 3, none⟩ = some (.int .i64 c) ∧ (wr.alloc (.cells #[.bool true, .int .i64 di, .int .i64 dp] 32)).drew.cell? ⟨w.heap.size, 4, none⟩ = some (.slice MA mk mcap) := ⟨kc1, kc2, z0, z1, z2, z3, z4⟩
        have HSD := Lib.hid (TwoPg.dirSet (cap := mcap) api hTd HS.out.1 HS.out.2 d f n c di dp HD.out.2 (HWX.out _ hTd.bel).2 (by have := hTd.bel.size; omega) hmc hmk)
        have hkd : wr.heap.size < (wr.alloc (.cells #[.bool true, .int .i64 di, .int .i64 dp] 32)).drew.heap.size := hkl
        clear hTd kc0 kc1 kc2 z0 z1 z2 z3 z4
        generalize hE : dirSetR S L d mk ml di dp = E at *
        go_wp2_with fail
        go_region_held3 (fun w' => w'.cell? ⟨wr.heap.size, 1, none⟩ = some (.int .i64 di) ∧ w'.cell? ⟨wr.heap.size, 2, none⟩ = some (.int .i64 dp) ∧ w'.cell? ⟨w.heap.size, 0, none⟩ = some (.int .i64 d) ∧ w'.cell? ⟨w.heap.size, 1, none⟩ = some (.int .i64 f) ∧ w'.cell? ⟨w.heap.size, 2, none⟩ = some (.int .i64 n) ∧ w'.cell? ⟨w.heap.size, 3, none⟩ = some (.int .i64 c) ∧ w'.cell? ⟨w.heap.size, 4, none⟩ = some (.slice MA mk mcap))
          (first | with_reducible exact y7 | with_reducible exact y5 | exact y0)
          (first
            | (go_at_call 7; refine HSD.out.mono ?_; rintro e w5 ⟨rfl, O5, h5, t5, n5⟩; have y5 : w5.cell? ⟨wr.heap.size, 1, none⟩ = some (.int .i64 di) ∧ w5.cell? ⟨wr.heap.size, 2, none⟩ = some (.int .i64 dp) ∧ w5.cell? ⟨w.heap.size, 0, none⟩ = some (.int .i64 d) ∧ w5.cell? ⟨w.heap.size, 1, none⟩ = some (.int .i64 f) ∧ w5.cell? ⟨w.heap.size, 2, none⟩ = some (.int .i64 n) ∧ w5.cell? ⟨w.heap.size, 3, none⟩ = some (.int .i64 c) ∧ w5.cell? ⟨w.heap.size, 4, none⟩ = some (.slice MA mk mcap) := ⟨(World.cell?_of_block (a := ⟨wr.heap.size, 1, none⟩) (t5.block _ hkd hno5)).trans y0.1, (World.cell?_of_block (a := ⟨wr.heap.size, 2, none⟩) (t5.block _ hkd hno5)).trans y0.2.1, (HWX.out _ h5.bel).1.cells.1, (HWX.out _ h5.bel).1.cells.2.1, (HWX.out _ h5.bel).1.cells.2.2.1, (HWX.out _ h5.bel).1.cells.2.2.2.1, (HWX.out _ h5.bel).1.cells.2.2.2.2.1⟩; have hl5 := Nat.lt_of_lt_of_le hkd t5.size; have hq := HT0.out.lens30 HS.out.1; have HSR := (TwoPg.rdirSet (cap := mcap) api h5 (by omega) HT0.out.toLawP.lens HS.out.1 HS.out.2 d f n c di dp HD.out.2 (HWX.out _ h5.bel).2 (by have := h5.bel.size; omega) hmc hmk); rw [hE] at HSR)
            | (go_at_call 8; refine HSR.mono ?_; rintro e w7 ⟨rfl, G7, v7, h7, t7⟩; have y7 : w7.cell? ⟨wr.heap.size, 1, none⟩ = some (.int .i64 di) ∧ w7.cell? ⟨wr.heap.size, 2, none⟩ = some (.int .i64 dp) ∧ w7.cell? ⟨w.heap.size, 0, none⟩ = some (.int .i64 d) ∧ w7.cell? ⟨w.heap.size, 1, none⟩ = some (.int .i64 f) ∧ w7.cell? ⟨w.heap.size, 2, none⟩ = some (.int .i64 n) ∧ w7.cell? ⟨w.heap.size, 3, none⟩ = some (.int .i64 c) ∧ w7.cell? ⟨w.heap.size, 4, none⟩ = some (.slice MA mk mcap) := ⟨(World.cell?_of_block (a := ⟨wr.heap.size, 1, none⟩) (t7.block _ hl5 hno7)).trans y5.1, (World.cell?_of_block (a := ⟨wr.heap.size, 2, none⟩) (t7.block _ hl5 hno7)).trans y5.2.1, (HWX.out _ h7.bel).1.cells.1, (HWX.out _ h7.bel).1.cells.2.1, (HWX.out _ h7.bel).1.cells.2.2.1, (HWX.out _ h7.bel).1.cells.2.2.2.1, (HWX.out _ h7.bel).1.cells.2.2.2.2.1⟩))
        have HW := Lib.hid h7
        have hkw := Nat.lt_of_lt_of_le hl5 t7.size
        obtain ⟨yc1, _, z0, z1, z2, z3, z4⟩ := y7
        clear h5 h7 t5 t7 n5 y0 y5 HSD HSR hE HTD hl5 hkd hno5 hno7 hq
        obtain ⟨Ee, EL⟩ := E
        dsimp only at HW ⊢
        have HGT := Lib.hid (dirGet_any (cap := mcap) api HW.out.pg HW.out.tabF (got_len HS.out.1 HS.out.2 HW.out.toLawP.lens) d f n c di (HWX.out _ HW.out.bel).2 (by have := HW.out.bel.size; omega) hmc hmk)
        go_wp2_with fail
        refine HGT.out.mono ?_
        rintro e wg1 ⟨rfl, hbg1⟩
        have hT1 := HW.out.later api hbg1
        have hq := HW.out.lens30 HS.out.1
        have HGR := Lib.hid (refDirGet_any (cap := mcap) hT1.R (by omega) hT1.toLawP.lens (got_len HS.out.1 HS.out.2 hT1.toLawP.lens) d f n c di (HWX.out _ hT1.bel).2 (by have := hT1.bel.size; omega) hmc hmk)
        obtain ⟨x0, x1, x2, x3, x4, _⟩ := (HWX.out _ hT1.bel).1.cells
        have xc1 := (hbg1.cell (p := ⟨wr.heap.size, 1, none⟩) hkw).trans yc1
        have HT1 := Lib.hid hT1
        clear hT1 hbg1 HGT z0 z1 z2 z3 z4
        generalize (dirGetR S EL d mk ml di).1 = gv at *
        generalize (dirGetR S EL d mk ml di).2 = ge at *
        go_wp2_with fail
        refine HGR.out.mono ?_
        rintro e wg2 ⟨rfl, hbg2⟩
        have HE := Lib.hid (show DLInv D wX S (k + 1) p xa q q' r b xr wg2 from ⟨F, O5, G7, v7, EL, HT1.out.later api hbg2⟩)
        clear hbg2 HGR x0 x1 x2 x3 x4 xc1
        go_wp2
        go_roundw
        case rel => exact ⟨k + 1, by omega, by go_num, HE⟩
        case measure => simp [intOf]; omega
      | false =>
        skip
        have HW := HTY
        have hkw := hkl
        have HGT := Lib.hid (dirGet_any (cap := mcap) api HW.out.pg HW.out.tabF (got_len HS.out.1 HS.out.2 HW.out.toLawP.lens) d f n c di (HWX.out _ HW.out.bel).2 (by have := HW.out.bel.size; omega) hmc hmk)
        go_wp2_with fail
        refine HGT.out.mono ?_
        rintro e wg1 ⟨rfl, hbg1⟩
        have hT1 := HW.out.later api hbg1
        have hq := HW.out.lens30 HS.out.1
        have HGR := Lib.hid (refDirGet_any (cap := mcap) hT1.R (by omega) hT1.toLawP.lens (got_len HS.out.1 HS.out.2 hT1.toLawP.lens) d f n c di (HWX.out _ hT1.bel).2 (by have := hT1.bel.size; omega) hmc hmk)
        obtain ⟨x0, x1, x2, x3, x4, _⟩ := (HWX.out _ hT1.bel).1.cells
        have xc1 := (hbg1.cell (p := ⟨wr.heap.size, 1, none⟩) hkw).trans kc1
        have HT1 := Lib.hid hT1
        clear hT1 hbg1 HGT z0 z1 z2 z3 z4
        generalize (dirGetR S L d mk ml di).1 = gv at *
        generalize (dirGetR S L d mk ml di).2 = ge at *
        go_wp2_with fail
        refine HGR.out.mono ?_
        rintro e wg2 ⟨rfl, hbg2⟩
        have HE := Lib.hid (show DLInv D wX S (k + 1) p xa q q' r b xr wg2 from ⟨F, O, G, v, L, HT1.out.later api hbg2⟩)
        clear hbg2 HGR x0 x1 x2 x3 x4 xc1
        go_wp2
        go_roundw
        case rel => exact ⟨k + 1, by omega, by go_num, HE⟩
        case measure => simp [intOf]; omega
    · obtain rfl : k = len := by omega
      obtain ⟨_, _, _, _, _, hT⟩ := hM.out
      have hb := HX.out.trans (hT.bel.mono HX.out.size)
      have HB := Lib.hid hb
      have HAW := Lib.hid (HAWK.out wr hb)
      clear hT hM hb
      go_wp2_with fail
      refine (HN1.out _).mono ?_
      rintro e w2 ⟨rfl, rfl⟩
      go_wp2_with fail
      refine (HN2.out _).mono ?_
      rintro e w2 ⟨rfl, rfl⟩
      go_wp2_with fail
      refine HAW.out.mono ?_
      rintro e wD ⟨rfl, hbD⟩
      have HF := Lib.hid (HB.out.trans (hbD.mono HB.out.size))
      clear hbD
      go_wp2
      go_ret
      exact ⟨rfl, HF.out⟩
end
end Go.Proofs.YtkpmfobmlaldfaaDoor
