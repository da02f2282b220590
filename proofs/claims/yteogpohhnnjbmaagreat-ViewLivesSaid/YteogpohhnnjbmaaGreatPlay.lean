/-
  The view law's play by contract: both views do any calls alike. Conditions: the calls' bytes lie below the views' blocks.
-/
import Derived.Test.YteogpohhnnjbmaaGreatPlayV
namespace Go.Proofs.YteogpohhnnjbmaaGreat
open Go.RowKit Go.Maps
set_option maxRecDepth 100000
set_option linter.unusedVariables false

section
variable {w w0 : World} {v m c x B j : Nat}
set_option maxHeartbeats 6400000 in
theorem play_any {A : Option Addr} {n k : Nat} {ds : List Do14} (h : PlayInv w B 0 v m c x w) (hr : RDos14 w B A n ds) (hBw : B ≤ w.heap.size) (hn : n ≤ maxLen) :
    Calls Tryz.prog 6 #[.pointer (some ⟨v, 0, none⟩), .pointer (some ⟨x, 0, none⟩), .slice A n k] w fun e w' => e = .returned (.bool true) ∧ RowKit.Below B w w' := by
  have H0 := Lib.hid h
  have HR := Lib.hid hr
  unfold maxLen at hn
  clear h hr
  go_enter Tryz.func6, Tryz.ntmps6
  go_wp2_with fail
  go_loopw [20] (fun i wr => ∃ j : Nat, j ≤ n ∧ j ≤ 60 ∧ i = .int .i64 j ∧ Hid (PlayInv w B j v m c x wr)) (fun i _ => n - (intOf i).toNat)
  case atStart => exact ⟨0, Nat.zero_le _, by omega, rfl, H0⟩
  case round =>
    clear H0
    obtain ⟨j, hj, hj60, rfl, hM⟩ := hrel
    have hbw : RowKit.Below B w wr := by obtain ⟨_, _, _, _, _, _, _, _, _, _, _, h⟩ := hM.out; exact h
    have HSM := Lib.hid (show ∀ w', RowKit.Below B wr w' → RowKit.Below wr.heap.size wr w' → Calls Tryz.prog 25 #[.pointer (some ⟨v, 0, none⟩), .pointer (some ⟨x, 0, none⟩)] w' fun e w' => e = .returned (.bool true) ∧ RowKit.Below B w w' from fun w' h1 h2 => by
      obtain ⟨X, p, q, r, S, a, b, d, hb, hs, hX, hw⟩ := hM.out
      exact PlayInv.same ⟨X, p, q, r, S, a, b, d, hb.below h2, hs, hX, hw.trans h1⟩ hj60 (Nat.le_trans hBw (Nat.le_trans hw.size h2.size)))
    by_cases hlt : j < n
    · have hlt' : (j : Int) < (n : Int) := by omega
      obtain ⟨db, doff, rfl, hdb, hdat⟩ := HR.out.2 (by omega)
      obtain ⟨⟨dop, dk, dv⟩, hd, hdo⟩ := hdat j hlt
      obtain ⟨ka, kn, kc, va, vn, vc, d0, d1, d2, d3, d4, d5, d6, d7⟩ := hdo.below hdb hbw
      dsimp only at d0 d1 d2 d3 d4 d6
      have hY : RowKit.Below wr.heap.size wr (wr.alloc (.cells #[.int .i64 dop, .slice ka kn kc, .slice va vn vc] 47 (0, 0))) := (RowKit.Below.refl _ _).alloc (Nat.le_refl _) _
      have HY := Lib.hid (And.intro (hY.mono (Nat.le_trans hBw hbw.size)) hY)
      clear hd hdo hY hdat
      by_cases hbrk : 60 ≤ j ∨ 60 < kn ∨ 200 < vn
      · have HSM' := Lib.hid (HSM.out _ HY.out.1 HY.out.2)
        have hg : (decide ((60 : Int) ≤ (j : Int)) || decide ((60 : Int) < (kn : Int)) || decide ((200 : Int) < (vn : Int))) = true := by
          simp only [Bool.or_eq_true, decide_eq_true_eq]; omega
        by_cases b1 : (60 : Int) ≤ (j : Int)
        · go_wp2_with fail
          refine HSM'.out.mono ?_
          rintro e w' ⟨rfl, hbe⟩
          go_wp2_with fail
          go_ret
          exact ⟨rfl, hbe⟩
        · by_cases b2 : (60 : Int) < (kn : Int)
          · go_wp2_with fail
            refine HSM'.out.mono ?_
            rintro e w' ⟨rfl, hbe⟩
            go_wp2_with fail
            go_ret
            exact ⟨rfl, hbe⟩
          · have b3 : (200 : Int) < (vn : Int) := by omega
            go_wp2_with fail
            refine HSM'.out.mono ?_
            rintro e w' ⟨rfl, hbe⟩
            go_wp2_with fail
            go_ret
            exact ⟨rfl, hbe⟩
      · have b1 : ¬ (60 : Int) ≤ (j : Int) := by omega
        have b2 : ¬ (60 : Int) < (kn : Int) := by omega
        have b3 : ¬ (200 : Int) < (vn : Int) := by omega
        have HIY := Lib.hid (hM.out.below HY.out.1 HY.out.2)
        have HBY := Lib.hid (Nat.le_trans hBw (Nat.le_trans hbw.size HY.out.2.size))
        have hk4 := d4.below HY.out.1
        have HLTY := Lib.hid (show wr.heap.size < (wr.alloc (.cells #[.int .i64 dop, .slice ka kn kc, .slice va vn vc] 47 (0, 0))).heap.size by show wr.heap.size < (wr.heap.push _).size; rw [Array.size_push]; omega)
        have HYC0 := Lib.hid (show (wr.alloc (.cells #[.int .i64 dop, .slice ka kn kc, .slice va vn vc] 47 (0, 0))).cell? ⟨wr.heap.size, 1, none⟩ = some (.slice ka kn kc) by rw [World.cell?_alloc_new]; rfl)
        have hD1 : RowKit.Below B wr (wr.alloc (.cells #[.int .i64 dop, .slice ka kn kc, .slice va vn vc] 47 (0, 0))).drew := HY.out.1.drew
        have hD2 : RowKit.Below wr.heap.size wr (wr.alloc (.cells #[.int .i64 dop, .slice ka kn kc, .slice va vn vc] 47 (0, 0))).drew := HY.out.2.drew
        have HLT := Lib.hid (show wr.heap.size < (wr.alloc (.cells #[.int .i64 dop, .slice ka kn kc, .slice va vn vc] 47 (0, 0))).drew.heap.size from HLTY.out)
        have HPD := Lib.hid (hM.out.at_ hD1 hD2 HLT.out)
        have HBYD := Lib.hid (show B ≤ (wr.alloc (.cells #[.int .i64 dop, .slice ka kn kc, .slice va vn vc] 47 (0, 0))).drew.heap.size from HBY.out)
        have HYC := Lib.hid (show (wr.alloc (.cells #[.int .i64 dop, .slice ka kn kc, .slice va vn vc] 47 (0, 0))).drew.cell? ⟨wr.heap.size, 1, none⟩ = some (.slice ka kn kc) ∧ (wr.alloc (.cells #[.int .i64 dop, .slice ka kn kc, .slice va vn vc] 47 (0, 0))).drew.cell? ⟨wr.heap.size, 2, none⟩ = some (.slice va vn vc) from ⟨HYC0.out, by show (wr.alloc (.cells #[.int .i64 dop, .slice ka kn kc, .slice va vn vc] 47 (0, 0))).cell? _ = _; rw [World.cell?_alloc_new]; rfl⟩)
        have hk4d := d4.below hD1
        have hk6d := d6.below hD1
        have HID := Lib.hid (hM.out.below hD1 hD2)
        have HPUT := Lib.hid (HPD.out.put hj60 HBYD.out hk4d (by omega) d5.1 hk6d (by omega) d7.1)
        have HDEL := Lib.hid (HPD.out.delete hj60 HBYD.out hk4d (by omega) d5.1)
        have HGET := Lib.hid (HIY.out.get (k := kc) hj60 HBY.out hk4 (by omega))
        have HSCAN := Lib.hid (HID.out.scan hj60 HBYD.out hk4d (by omega) d5.1)
        have HCOM := Lib.hid (HIY.out.commit hj60 HBY.out)
        have HABT := Lib.hid (HIY.out.abort HBY.out)
        clear hk4 hk4d hk6d hD1 hD2
        go_wp2_with fail
        · have y0 := HYC.out
          have hltY := HLT.out
          have hc1 := HPUT.out
          go_region_held3 (fun w' => w'.cell? ⟨wr.heap.size, 1, none⟩ = some (.slice ka kn kc) ∧ w'.cell? ⟨wr.heap.size, 2, none⟩ = some (.slice va vn vc))
            (first | with_reducible exact y2 | with_reducible exact y1 | exact y0)
            (first
              | (go_at_call 8; refine hc1.mono ?_; rintro e w1 ⟨rfl, _, g1, h1⟩; have y1 : w1.cell? ⟨wr.heap.size, 1, none⟩ = some (.slice ka kn kc) ∧ w1.cell? ⟨wr.heap.size, 2, none⟩ = some (.slice va vn vc) := ⟨(World.cell?_of_block g1).trans y0.1, (World.cell?_of_block g1).trans y0.2⟩)
              | (go_at_call 9; refine h1.mono ?_; rintro e w2 ⟨rfl, g2, hbB, hi2⟩; have y2 : w2.cell? ⟨wr.heap.size, 1, none⟩ = some (.slice ka kn kc) ∧ w2.cell? ⟨wr.heap.size, 2, none⟩ = some (.slice va vn vc) := ⟨(World.cell?_of_block g2).trans y0.1, (World.cell?_of_block g2).trans y0.2⟩))
          have HI2 := Lib.hid hi2
          have HBS := Lib.hid (Nat.le_trans HBYD.out hbB.size)
          clear hi2 hbB y0 y1 y2 h1 hltY
          clear hc1 g1 g2
          have HT := Lib.hid (HI2.out.tail (by omega))
          go_wp2_with fail
          refine HT.out.mono ?_
          rintro e w3 ⟨A1, n1, k1, A2, n2, k2, rfl, hb3, h3⟩
          have H3 := Lib.hid h3
          clear hb3 h3
          go_wp2_with fail
          refine H3.out.mono ?_
          rintro e w4 ⟨C1, l1, i1, C2, l2, i2, rfl, hb4, h4, h5⟩
          have HB4 := Lib.hid hb4
          have H4 := Lib.hid h4
          have H5 := Lib.hid h5
          clear hb4 h4 h5
          go_wp2_with fail
          refine H4.out.mono ?_
          rintro e w5 ⟨rfl, hb5⟩
          have H6 := Lib.hid (H5.out w5 hb5)
          have HB5 := Lib.hid (HB4.out.trans (hb5.mono HB4.out.size))
          clear hb5
          go_wp2_with fail
          refine H6.out.mono ?_
          rintro e w6 ⟨rfl, hb6⟩
          have hb26 := HB5.out.trans (hb6.mono HB5.out.size)
          have HI6 := Lib.hid (HI2.out.below (hb26.mono HBS.out) hb26)
          clear hb6 hb26
          go_wp2_with fail
          go_roundw
          case rel => exact ⟨j + 1, by omega, by omega, by go_num, HI6⟩
          case measure => simp [intOf]; omega
        · have y0 := HYC.out
          have hltY := HLT.out
          have hc1 := HPUT.out
          go_region_held3 (fun w' => w'.cell? ⟨wr.heap.size, 1, none⟩ = some (.slice ka kn kc) ∧ w'.cell? ⟨wr.heap.size, 2, none⟩ = some (.slice va vn vc))
            (first | with_reducible exact y2 | with_reducible exact y1 | exact y0)
            (first
              | (go_at_call 8; refine hc1.mono ?_; rintro e w1 ⟨rfl, _, g1, h1⟩; have y1 : w1.cell? ⟨wr.heap.size, 1, none⟩ = some (.slice ka kn kc) ∧ w1.cell? ⟨wr.heap.size, 2, none⟩ = some (.slice va vn vc) := ⟨(World.cell?_of_block g1).trans y0.1, (World.cell?_of_block g1).trans y0.2⟩)
              | (go_at_call 9; refine h1.mono ?_; rintro e w2 ⟨rfl, g2, hbB, hi2⟩; have y2 : w2.cell? ⟨wr.heap.size, 1, none⟩ = some (.slice ka kn kc) ∧ w2.cell? ⟨wr.heap.size, 2, none⟩ = some (.slice va vn vc) := ⟨(World.cell?_of_block g2).trans y0.1, (World.cell?_of_block g2).trans y0.2⟩))
          have HI2 := Lib.hid hi2
          have HBS := Lib.hid (Nat.le_trans HBYD.out hbB.size)
          clear hi2 hbB y0 y1 y2 h1 hltY
          clear hc1 g1 g2
          have HT := Lib.hid (HI2.out.tail (by omega))
          go_wp2_with fail
          refine HT.out.mono ?_
          rintro e w3 ⟨A1, n1, k1, A2, n2, k2, rfl, hb3, h3⟩
          have H3 := Lib.hid h3
          clear hb3 h3
          go_wp2_with fail
          refine H3.out.mono ?_
          rintro e w4 ⟨C1, l1, i1, C2, l2, i2, rfl, hb4, h4, h5⟩
          have HB4 := Lib.hid hb4
          have H4 := Lib.hid h4
          have H5 := Lib.hid h5
          clear hb4 h4 h5
          go_wp2_with fail
          refine H4.out.mono ?_
          rintro e w5 ⟨rfl, hb5⟩
          have H6 := Lib.hid (H5.out w5 hb5)
          have HB5 := Lib.hid (HB4.out.trans (hb5.mono HB4.out.size))
          clear hb5
          go_wp2_with fail
          refine H6.out.mono ?_
          rintro e w6 ⟨rfl, hb6⟩
          have hb26 := HB5.out.trans (hb6.mono HB5.out.size)
          have HI6 := Lib.hid (HI2.out.below (hb26.mono HBS.out) hb26)
          clear hb6 hb26
          go_wp2_with fail
          go_roundw
          case rel => exact ⟨j + 1, by omega, by omega, by go_num, HI6⟩
          case measure => simp [intOf]; omega
        · have y0 := HYC.out
          have hltY := HLT.out
          have hc1 := HPUT.out
          go_region_held3 (fun w' => w'.cell? ⟨wr.heap.size, 1, none⟩ = some (.slice ka kn kc) ∧ w'.cell? ⟨wr.heap.size, 2, none⟩ = some (.slice va vn vc))
            (first | with_reducible exact y2 | with_reducible exact y1 | exact y0)
            (first
              | (go_at_call 8; refine hc1.mono ?_; rintro e w1 ⟨rfl, _, g1, h1⟩; have y1 : w1.cell? ⟨wr.heap.size, 1, none⟩ = some (.slice ka kn kc) ∧ w1.cell? ⟨wr.heap.size, 2, none⟩ = some (.slice va vn vc) := ⟨(World.cell?_of_block g1).trans y0.1, (World.cell?_of_block g1).trans y0.2⟩)
              | (go_at_call 9; refine h1.mono ?_; rintro e w2 ⟨rfl, g2, hbB, hi2⟩; have y2 : w2.cell? ⟨wr.heap.size, 1, none⟩ = some (.slice ka kn kc) ∧ w2.cell? ⟨wr.heap.size, 2, none⟩ = some (.slice va vn vc) := ⟨(World.cell?_of_block g2).trans y0.1, (World.cell?_of_block g2).trans y0.2⟩))
          have HI2 := Lib.hid hi2
          have HBS := Lib.hid (Nat.le_trans HBYD.out hbB.size)
          clear hi2 hbB y0 y1 y2 h1 hltY
          clear hc1 g1 g2
          have HT := Lib.hid (HI2.out.tail (by omega))
          go_wp2_with fail
          refine HT.out.mono ?_
          rintro e w3 ⟨A1, n1, k1, A2, n2, k2, rfl, hb3, h3⟩
          have H3 := Lib.hid h3
          clear hb3 h3
          go_wp2_with fail
          refine H3.out.mono ?_
          rintro e w4 ⟨C1, l1, i1, C2, l2, i2, rfl, hb4, h4, h5⟩
          have HB4 := Lib.hid hb4
          have H4 := Lib.hid h4
          have H5 := Lib.hid h5
          clear hb4 h4 h5
          go_wp2_with fail
          refine H4.out.mono ?_
          rintro e w5 ⟨rfl, hb5⟩
          have H6 := Lib.hid (H5.out w5 hb5)
          have HB5 := Lib.hid (HB4.out.trans (hb5.mono HB4.out.size))
          clear hb5
          go_wp2_with fail
          refine H6.out.mono ?_
          rintro e w6 ⟨rfl, hb6⟩
          have hb26 := HB5.out.trans (hb6.mono HB5.out.size)
          have HI6 := Lib.hid (HI2.out.below (hb26.mono HBS.out) hb26)
          clear hb6 hb26
          go_wp2_with fail
          go_roundw
          case rel => exact ⟨j + 1, by omega, by omega, by go_num, HI6⟩
          case measure => simp [intOf]; omega
        · have y0 := HYC.out
          have hltY := HLT.out
          obtain ⟨is, hc1⟩ := HDEL.out
          go_region_held3 (fun w' => w'.cell? ⟨wr.heap.size, 1, none⟩ = some (.slice ka kn kc) ∧ w'.cell? ⟨wr.heap.size, 2, none⟩ = some (.slice va vn vc))
            (first | with_reducible exact y2 | with_reducible exact y1 | exact y0)
            (first
              | (go_at_call 10; refine hc1.mono ?_; rintro e w1 ⟨rfl, _, g1, h1⟩; have y1 : w1.cell? ⟨wr.heap.size, 1, none⟩ = some (.slice ka kn kc) ∧ w1.cell? ⟨wr.heap.size, 2, none⟩ = some (.slice va vn vc) := ⟨(World.cell?_of_block g1).trans y0.1, (World.cell?_of_block g1).trans y0.2⟩)
              | (go_at_call 11; refine h1.mono ?_; rintro e w2 ⟨rfl, g2, hbB, hi2⟩; have y2 : w2.cell? ⟨wr.heap.size, 1, none⟩ = some (.slice ka kn kc) ∧ w2.cell? ⟨wr.heap.size, 2, none⟩ = some (.slice va vn vc) := ⟨(World.cell?_of_block g2).trans y0.1, (World.cell?_of_block g2).trans y0.2⟩))
          have HI2 := Lib.hid hi2
          have HBS := Lib.hid (Nat.le_trans HBYD.out hbB.size)
          clear hi2 hbB y0 y1 y2 h1 hltY
          clear hc1 g1 g2
          have HT := Lib.hid (HI2.out.tail (by omega))
          go_wp2_with fail
          refine HT.out.mono ?_
          rintro e w3 ⟨A1, n1, k1, A2, n2, k2, rfl, hb3, h3⟩
          have H3 := Lib.hid h3
          clear hb3 h3
          go_wp2_with fail
          refine H3.out.mono ?_
          rintro e w4 ⟨C1, l1, i1, C2, l2, i2, rfl, hb4, h4, h5⟩
          have HB4 := Lib.hid hb4
          have H4 := Lib.hid h4
          have H5 := Lib.hid h5
          clear hb4 h4 h5
          go_wp2_with fail
          refine H4.out.mono ?_
          rintro e w5 ⟨rfl, hb5⟩
          have H6 := Lib.hid (H5.out w5 hb5)
          have HB5 := Lib.hid (HB4.out.trans (hb5.mono HB4.out.size))
          clear hb5
          go_wp2_with fail
          refine H6.out.mono ?_
          rintro e w6 ⟨rfl, hb6⟩
          have hb26 := HB5.out.trans (hb6.mono HB5.out.size)
          have HI6 := Lib.hid (HI2.out.below (hb26.mono HBS.out) hb26)
          clear hb6 hb26
          go_wp2_with fail
          go_roundw
          case rel => exact ⟨j + 1, by omega, by omega, by go_num, HI6⟩
          case measure => simp [intOf]; omega
        · obtain ⟨is, hget⟩ := HGET.out
          refine hget.mono ?_
          rintro e w1 ⟨A0, n0, k0, rfl, b1, h1⟩
          have y1 := (b1.cell (p := ⟨wr.heap.size, 1, none⟩) HLTY.out).trans HYC0.out
          have H1 := Lib.hid h1
          clear h1 hget b1
          go_wp2_with fail
          refine H1.out.mono ?_
          rintro e w2 ⟨B0, m0, l0, rfl, hbB, hi2, h2⟩
          have HI2 := Lib.hid hi2
          have H2 := Lib.hid h2
          have HBS := Lib.hid (Nat.le_trans HBY.out hbB.size)
          clear hi2 hbB h2
          have hq : (is == is) = true := by simp
          go_wp2_with fail
          refine H2.out.mono ?_
          rintro e w2' ⟨rfl, rfl⟩
          have HT := Lib.hid (HI2.out.tail (by omega))
          go_wp2_with fail
          refine HT.out.mono ?_
          rintro e w3 ⟨A1, n1, k1, A2, n2, k2, rfl, hb3, h3⟩
          have H3 := Lib.hid h3
          clear hb3 h3
          go_wp2_with fail
          refine H3.out.mono ?_
          rintro e w4 ⟨C1, l1, i1, C2, l2, i2, rfl, hb4, h4, h5⟩
          have HB4 := Lib.hid hb4
          have H4 := Lib.hid h4
          have H5 := Lib.hid h5
          clear hb4 h4 h5
          go_wp2_with fail
          refine H4.out.mono ?_
          rintro e w5 ⟨rfl, hb5⟩
          have H6 := Lib.hid (H5.out w5 hb5)
          have HB5 := Lib.hid (HB4.out.trans (hb5.mono HB4.out.size))
          clear hb5
          go_wp2_with fail
          refine H6.out.mono ?_
          rintro e w6 ⟨rfl, hb6⟩
          have hb26 := HB5.out.trans (hb6.mono HB5.out.size)
          have HI6 := Lib.hid (HI2.out.below (hb26.mono HBS.out) hb26)
          clear hb6 hb26
          go_wp2_with fail
          go_roundw
          case rel => exact ⟨j + 1, by omega, by omega, by go_num, HI6⟩
          case measure => simp [intOf]; omega
        · have y0 := HYC.out
          have hltY := HLT.out
          have hc1 := HSCAN.out
          go_region_held3 (fun w' => w'.cell? ⟨wr.heap.size, 1, none⟩ = some (.slice ka kn kc) ∧ w'.cell? ⟨wr.heap.size, 2, none⟩ = some (.slice va vn vc))
            (first | with_reducible exact y3 | with_reducible exact y2 | with_reducible exact y1 | exact y0)
            (first
              | (go_at_call 16; refine hc1.mono ?_; rintro e w1 ⟨A0, n0, k0, rfl, b1, h1⟩; have y1 : w1.cell? ⟨wr.heap.size, 1, none⟩ = some (.slice ka kn kc) ∧ w1.cell? ⟨wr.heap.size, 2, none⟩ = some (.slice va vn vc) := ⟨((b1).cell (p := ⟨wr.heap.size, 1, none⟩) hltY).trans y0.1, ((b1).cell (p := ⟨wr.heap.size, 2, none⟩) hltY).trans y0.2⟩)
              | (go_at_call 17; refine h1.mono ?_; rintro e w2 ⟨B0, m0, l0, rfl, b2, h2⟩; have y2 : w2.cell? ⟨wr.heap.size, 1, none⟩ = some (.slice ka kn kc) ∧ w2.cell? ⟨wr.heap.size, 2, none⟩ = some (.slice va vn vc) := ⟨((b2).cell (p := ⟨wr.heap.size, 1, none⟩) hltY).trans y0.1, ((b2).cell (p := ⟨wr.heap.size, 2, none⟩) hltY).trans y0.2⟩)
              | (go_at_call 15; refine h2.mono ?_; rintro e w3 ⟨rfl, b3, hbB, hi2⟩; have y3 : w3.cell? ⟨wr.heap.size, 1, none⟩ = some (.slice ka kn kc) ∧ w3.cell? ⟨wr.heap.size, 2, none⟩ = some (.slice va vn vc) := ⟨((b3).cell (p := ⟨wr.heap.size, 1, none⟩) hltY).trans y0.1, ((b3).cell (p := ⟨wr.heap.size, 2, none⟩) hltY).trans y0.2⟩))
          have HI2 := Lib.hid hi2
          have HBS := Lib.hid (Nat.le_trans HBYD.out hbB.size)
          clear hi2 hbB y0 y1 y2 h1 hltY
          clear hc1 b1 b2 b3 h2 y3
          have HT := Lib.hid (HI2.out.tail (by omega))
          go_wp2_with fail
          refine HT.out.mono ?_
          rintro e w3 ⟨A1, n1, k1, A2, n2, k2, rfl, hb3, h3⟩
          have H3 := Lib.hid h3
          clear hb3 h3
          go_wp2_with fail
          refine H3.out.mono ?_
          rintro e w4 ⟨C1, l1, i1, C2, l2, i2, rfl, hb4, h4, h5⟩
          have HB4 := Lib.hid hb4
          have H4 := Lib.hid h4
          have H5 := Lib.hid h5
          clear hb4 h4 h5
          go_wp2_with fail
          refine H4.out.mono ?_
          rintro e w5 ⟨rfl, hb5⟩
          have H6 := Lib.hid (H5.out w5 hb5)
          have HB5 := Lib.hid (HB4.out.trans (hb5.mono HB4.out.size))
          clear hb5
          go_wp2_with fail
          refine H6.out.mono ?_
          rintro e w6 ⟨rfl, hb6⟩
          have hb26 := HB5.out.trans (hb6.mono HB5.out.size)
          have HI6 := Lib.hid (HI2.out.below (hb26.mono HBS.out) hb26)
          clear hb6 hb26
          go_wp2_with fail
          go_roundw
          case rel => exact ⟨j + 1, by omega, by omega, by go_num, HI6⟩
          case measure => simp [intOf]; omega
        · refine HCOM.out.mono ?_
          rintro e w1 ⟨rfl, h1⟩
          have H1 := Lib.hid h1
          clear h1
          go_wp2_with fail
          refine H1.out.mono ?_
          rintro e w2 ⟨rfl, hbB, hi2⟩
          have HI2 := Lib.hid hi2
          have HBS := Lib.hid (Nat.le_trans HBY.out hbB.size)
          clear hi2 hbB
          have HT := Lib.hid (HI2.out.tail (by omega))
          go_wp2_with fail
          refine HT.out.mono ?_
          rintro e w3 ⟨A1, n1, k1, A2, n2, k2, rfl, hb3, h3⟩
          have H3 := Lib.hid h3
          clear hb3 h3
          go_wp2_with fail
          refine H3.out.mono ?_
          rintro e w4 ⟨C1, l1, i1, C2, l2, i2, rfl, hb4, h4, h5⟩
          have HB4 := Lib.hid hb4
          have H4 := Lib.hid h4
          have H5 := Lib.hid h5
          clear hb4 h4 h5
          go_wp2_with fail
          refine H4.out.mono ?_
          rintro e w5 ⟨rfl, hb5⟩
          have H6 := Lib.hid (H5.out w5 hb5)
          have HB5 := Lib.hid (HB4.out.trans (hb5.mono HB4.out.size))
          clear hb5
          go_wp2_with fail
          refine H6.out.mono ?_
          rintro e w6 ⟨rfl, hb6⟩
          have hb26 := HB5.out.trans (hb6.mono HB5.out.size)
          have HI6 := Lib.hid (HI2.out.below (hb26.mono HBS.out) hb26)
          clear hb6 hb26
          go_wp2_with fail
          go_roundw
          case rel => exact ⟨j + 1, by omega, by omega, by go_num, HI6⟩
          case measure => simp [intOf]; omega
        · refine HABT.out.mono ?_
          rintro e w1 ⟨rfl, h1⟩
          have H1 := Lib.hid h1
          clear h1
          go_wp2_with fail
          refine H1.out.mono ?_
          rintro e w2 ⟨rfl, hbB, hi2⟩
          have HI2 := Lib.hid hi2
          have HBS := Lib.hid (Nat.le_trans HBY.out hbB.size)
          clear hi2 hbB
          have HT := Lib.hid (HI2.out.tail (by omega))
          go_wp2_with fail
          refine HT.out.mono ?_
          rintro e w3 ⟨A1, n1, k1, A2, n2, k2, rfl, hb3, h3⟩
          have H3 := Lib.hid h3
          clear hb3 h3
          go_wp2_with fail
          refine H3.out.mono ?_
          rintro e w4 ⟨C1, l1, i1, C2, l2, i2, rfl, hb4, h4, h5⟩
          have HB4 := Lib.hid hb4
          have H4 := Lib.hid h4
          have H5 := Lib.hid h5
          clear hb4 h4 h5
          go_wp2_with fail
          refine H4.out.mono ?_
          rintro e w5 ⟨rfl, hb5⟩
          have H6 := Lib.hid (H5.out w5 hb5)
          have HB5 := Lib.hid (HB4.out.trans (hb5.mono HB4.out.size))
          clear hb5
          go_wp2_with fail
          refine H6.out.mono ?_
          rintro e w6 ⟨rfl, hb6⟩
          have hb26 := HB5.out.trans (hb6.mono HB5.out.size)
          have HI6 := Lib.hid (HI2.out.below (hb26.mono HBS.out) hb26)
          clear hb6 hb26
          go_wp2_with fail
          go_roundw
          case rel => exact ⟨j + 1, by omega, by omega, by go_num, HI6⟩
          case measure => simp [intOf]; omega
    · have hnl : ¬ (j : Int) < (n : Int) := by omega
      have HSM' := Lib.hid (HSM.out wr (RowKit.Below.refl _ _) (RowKit.Below.refl _ _))
      go_wp2_with fail
      refine HSM'.out.mono ?_
      rintro e w' ⟨rfl, hbe⟩
      go_wp2_with fail
      go_ret
      exact ⟨rfl, hbe⟩
end

end Go.Proofs.YteogpohhnnjbmaaGreat
