/-
  BucketPuts by the walk: any bucket's page, its size, and where any key stands, is the plain one's. Condition: what came in is two buckets, and bytes.
-/
import Derived.Test.YthpgcdfbngngjaaBkU
import Derived.Test.YthpgcdfbngngjaaBkN
namespace Go.Proofs.Ythpgcdfbngngjaa
open Go.RowKit
set_option maxRecDepth 100000
set_option linter.unusedVariables false

/-- Two buckets in variables, one behind the other. -/
structure Bk2 (w : World) (g : Nat) (d x : Int) (A : Option Addr) (n c : Nat) (d' x' : Int) (A' : Option Addr) (m c' : Nat) : Prop where
  a : BkBox w g d x A n c
  b : BkBox w (g + 1) d' x' A' m c'
theorem Bk2.below {w w' : World} {g n c m c' : Nat} {d x d' x' : Int} {A A' : Option Addr} (h : Bk2 w g d x A n c d' x' A' m c') (hb : Below w.heap.size w w') : Bk2 w' g d x A n c d' x' A' m c' := ⟨h.a.below hb, h.b.below hb⟩
theorem Bk2.cells {w : World} {g n c m c' : Nat} {d x d' x' : Int} {A A' : Option Addr} (h : Bk2 w g d x A n c d' x' A' m c') : w.cell? ⟨g, 0, none⟩ = some (.int .i64 d) ∧ w.cell? ⟨g, 1, none⟩ = some (.int .i64 x) ∧ w.cell? ⟨g, 2, none⟩ = some (.slice A n c) ∧ w.cell? ⟨g + 1, 0, none⟩ = some (.int .i64 d') ∧ w.cell? ⟨g + 1, 1, none⟩ = some (.int .i64 x') ∧ w.cell? ⟨g + 1, 2, none⟩ = some (.slice A' m c') := ⟨h.a.cells.1, h.a.cells.2.1, h.a.cells.2.2.1, h.b.cells.1, h.b.cells.2.1, h.b.cells.2.2.1⟩

set_option maxHeartbeats 6400000 in
theorem bucketPuts_any {w : World} {A A' A2 : Option Addr} {n c m c' n2 c2 : Nat} (d x d' x' : Int) {ps qs : List KV} {key : List Int} (hr : RPairs w w.heap.size A n ps) (hr' : RPairs w w.heap.size A' m qs) (hrK : RB w w.heap.size A2 n2 key) (hm : n ≤ maxLen) (hm' : m ≤ maxLen) (hmK : n2 ≤ maxLen) (hd : -9223372036854775808 ≤ d ∧ d ≤ 9223372036854775807) (hx : -9223372036854775808 ≤ x ∧ x ≤ 9223372036854775807) :
    Calls Try.prog 5 #[.agg #[.int .i64 d, .int .i64 x, .slice A n c], .agg #[.int .i64 d', .int .i64 x', .slice A' m c'], .slice A2 n2 c2] w fun e w' => e = .returned (.bool true) ∧ Below w.heap.size w w' := by
  have hX : Below w.heap.size w ((w.alloc (BkObj d x A n c)).alloc (BkObj d' x' A' m c')) := ((Below.refl _ _).alloc (Nat.le_refl _) _).alloc (by simp) _
  have hbx : Bk2 ((w.alloc (BkObj d x A n c)).alloc (BkObj d' x' A' m c')) w.heap.size d x A n c d' x' A' m c' := by
    have hby := BkBox.new (w.alloc (BkObj d x A n c)) d' x' A' m c'
    rw [show (w.alloc (BkObj d x A n c)).heap.size = w.heap.size + 1 by simp] at hby
    exact ⟨(BkBox.new w d x A n c).below ((Below.refl _ _).alloc (Nat.le_refl _) _), hby⟩
  have HF := Lib.hid (bkFew_any c (hr.below hX) hm hX.size)
  have HFC := Lib.hid (fun (W : World) (hW : Below w.heap.size w W) => bkFew_any c' (hr'.below hW) hm' hW.size)
  have HX := Lib.hid hX
  have HBX := Lib.hid hbx
  obtain ⟨x0, x1, x2, y0, y1, y2⟩ := hbx.cells
  have hmK' := hmK
  unfold maxLen at hmK'
  cases hfew : fewKV ps
  · rw [hfew] at HF
    clear hX hbx hr hr' hrK hfew HFC
    unfold BkObj at *
    go_enter Try.func5, Try.ntmps5
    go_wp2_with fail
    refine HF.out.mono ?_
    rintro e w1 ⟨rfl, hb1⟩
    have HB1 := Lib.hid (And.intro (HX.out.trans (hb1.mono HX.out.size)) (HBX.out.below hb1))
    clear x0 x1 x2 y0 y1 y2
    clear hb1
    go_wp2_with fail
    refine (bkAwake_any _).mono ?_
    rintro e w2 ⟨rfl, hb2⟩
    have HB2 := Lib.hid (HB1.out.1.trans (hb2.mono HB1.out.1.size))
    clear hb2
    go_wp2
    go_ret
    exact ⟨rfl, HB2.out⟩
  rw [hfew] at HF
  cases hfew2 : fewKV qs
  · rw [hfew2] at HFC
    clear hX hbx hr hr' hrK hfew hfew2
    unfold BkObj at *
    go_enter Try.func5, Try.ntmps5
    go_wp2_with fail
    refine HF.out.mono ?_
    rintro e w1 ⟨rfl, hb1⟩
    have HB1 := Lib.hid (And.intro (HX.out.trans (hb1.mono HX.out.size)) (HBX.out.below hb1))
    obtain ⟨x0, x1, x2, y0, y1, y2⟩ := HB1.out.2.cells
    clear hb1
    have HF2 := Lib.hid (HFC.out _ HB1.out.1)
    go_wp2_with fail
    refine HF2.out.mono ?_
    rintro e w1' ⟨rfl, hb1⟩
    have HB1 := Lib.hid (And.intro (HB1.out.1.trans (hb1.mono HB1.out.1.size)) (HB1.out.2.below hb1))
    clear x0 x1 x2 y0 y1 y2
    clear hb1
    go_wp2_with fail
    refine (bkAwake_any _).mono ?_
    rintro e w2 ⟨rfl, hb2⟩
    have HB2 := Lib.hid (HB1.out.1.trans (hb2.mono HB1.out.1.size))
    clear hb2
    go_wp2
    go_ret
    exact ⟨rfl, HB2.out⟩
  rw [hfew2] at HFC
  by_cases hbig : 300 < n2
  · have k0 : decide ((n2 : Int) > 300) = true := by simp; omega
    clear hX hbx hr hr' hrK hfew hfew2
    unfold BkObj at *
    go_enter Try.func5, Try.ntmps5
    go_wp2_with fail
    refine HF.out.mono ?_
    rintro e w1 ⟨rfl, hb1⟩
    have HB1 := Lib.hid (And.intro (HX.out.trans (hb1.mono HX.out.size)) (HBX.out.below hb1))
    obtain ⟨x0, x1, x2, y0, y1, y2⟩ := HB1.out.2.cells
    clear hb1
    have HF2 := Lib.hid (HFC.out _ HB1.out.1)
    go_wp2_with fail
    refine HF2.out.mono ?_
    rintro e w1' ⟨rfl, hb1⟩
    have HB1 := Lib.hid (And.intro (HB1.out.1.trans (hb1.mono HB1.out.1.size)) (HB1.out.2.below hb1))
    clear x0 x1 x2 y0 y1 y2
    clear hb1
    go_wp2_with fail
    refine (bkAwake_any _).mono ?_
    rintro e w2 ⟨rfl, hb2⟩
    have HB2 := Lib.hid (HB1.out.1.trans (hb2.mono HB1.out.1.size))
    clear hb2
    go_wp2
    go_ret
    exact ⟨rfl, HB2.out⟩
  have k0 : decide ((n2 : Int) > 300) = false := by simp; omega
  obtain ⟨hlen60, hsz⟩ := fewKV_size hfew
  have HP := Lib.hid (fun (W : World) (hW : Below w.heap.size w W) => bkPut_any d x c (hr.below hW) hW.size hm (by omega) hd hx)
  have HQ := Lib.hid (fun (W : World) (hW : Below w.heap.size w W) => refBkPut_any d x c (hr.below hW) hW.size hm (by omega) hd hx)
  have HSZ := Lib.hid (fun (W : World) (hW : Below w.heap.size w W) => bkSize_any d x c (hr.below hW) hW.size hm (by omega))
  have HRZ := Lib.hid (fun (W : World) (hW : Below w.heap.size w W) => refBkSize_any d x c (hr.below hW) hW.size hm (by omega))
  have HFT := Lib.hid (fun (W : World) (hW : Below w.heap.size w W) => bkFits_any d x c (hr.below hW) hW.size hm (by omega))
  have HFI := Lib.hid (fun (W : World) (hW : Below w.heap.size w W) => bkFind_any d x c c2 (hr.below hW) hW.size hm (hrK.below hW))
  have HRI := Lib.hid (fun (W : World) (hW : Below w.heap.size w W) => refBkFind_any d x c c2 (hr.below hW) hW.size hm (hrK.below hW))
  have HS := Lib.hid (fun (W : World) (hW : Below w.heap.size w W) => bkSame_any d x d' x' c c' (hr.below hW) (hr'.below hW) hW.size hm hm')
  have HL := Lib.hid (fun (W : World) (hW : Below w.heap.size w W) => lawSame_any d x d' x' c c' (hr.below hW) (hr'.below hW) hW.size hm hm')
  generalize sameBk ⟨d, x, ps⟩ ⟨d', x', qs⟩ = sb at HS HL
  generalize findI ps key = fi at HFI HRI
  generalize hpq : putBk ⟨d, x, ps⟩ = PQ at HP HQ
  obtain ⟨pl, pe⟩ := PQ
  have hs8 : 8 + szP ps ≤ 40008 := by omega
  generalize 8 + szP ps = s at HSZ HRZ HFT hs8
  clear hpq hr hr' hrK hX hbx hfew hfew2 hlen60 hsz hbig
  unfold BkObj at *
  by_cases hfit : s ≤ 240
  · rw [decide_eq_true hfit] at HFT
    have hdi : decide ((s : Int) ≤ 240) = true := decide_eq_true (by omega)
    clear hfit
    go_enter Try.func5, Try.ntmps5
    go_wp2_with fail
    refine HF.out.mono ?_
    rintro e w1 ⟨rfl, hb1⟩
    have HB1 := Lib.hid (And.intro (HX.out.trans (hb1.mono HX.out.size)) (HBX.out.below hb1))
    have HF2 := Lib.hid (HFC.out _ HB1.out.1)
    clear hb1 x0 x1 x2 y0 y1 y2
    obtain ⟨x0, x1, x2, y0, y1, y2⟩ := HB1.out.2.cells
    go_wp2_with fail
    refine HF2.out.mono ?_
    rintro e w2 ⟨rfl, hb2⟩
    have HB2 := Lib.hid (And.intro (HB1.out.1.trans (hb2.mono HB1.out.1.size)) (HB1.out.2.below hb2))
    have HP2 := Lib.hid (HP.out _ HB2.out.1)
    clear hb2 x0 x1 x2 y0 y1 y2 HB1 HF HF2
    obtain ⟨x0, x1, x2, y0, y1, y2⟩ := HB2.out.2.cells
    go_wp2_with fail
    refine HP2.out.mono ?_
    rintro e w3 ⟨A3, n3, c3, rfl, hc3, hr3, hb3⟩
    have hr3 : RB w3 w3.heap.size A3 n3 pl := hr3
    have HB3 := Lib.hid (And.intro (HB2.out.1.trans (hb3.mono HB2.out.1.size)) (And.intro (HB2.out.2.below hb3) hr3))
    have HQ3 := Lib.hid (HQ.out _ HB3.out.1)
    clear hr3 hb3 x0 x1 x2 y0 y1 y2 HB2 HP2
    obtain ⟨x0, x1, x2, y0, y1, y2⟩ := HB3.out.2.1.cells
    go_wp2_with fail
    refine HQ3.out.mono ?_
    rintro e w4 ⟨A4, n4, c4, rfl, hc4, hr4, hb4⟩
    have hr4 : RB w4 w4.heap.size A4 n4 pl := hr4
    have HE := Lib.hid (Equal_any (w := w4.drew) c3 c4 (HB3.out.2.2.below hb4).drew hr4.drew)
    rw [decide_eq_true rfl] at HE
    have hT : Below w.heap.size w w4.drew := (HB3.out.1.trans (hb4.mono HB3.out.1.size)).drew
    have hbx : Bk2 w4.drew w.heap.size d x A n c d' x' A' m c' := HB3.out.2.1.below hb4.drew
    have c5 := hbx.cells
    clear hr4 hb4 x0 x1 x2 y0 y1 y2 HB3 HQ3 HP HQ
    go_wp2_with fail
    go_region_held3 (fun w' => w'.cell? ⟨w.heap.size, 0, none⟩ = some (.int .i64 d) ∧ w'.cell? ⟨w.heap.size, 1, none⟩ = some (.int .i64 x) ∧ w'.cell? ⟨w.heap.size, 2, none⟩ = some (.slice A n c) ∧ w'.cell? ⟨w.heap.size + 1, 0, none⟩ = some (.int .i64 d') ∧ w'.cell? ⟨w.heap.size + 1, 1, none⟩ = some (.int .i64 x') ∧ w'.cell? ⟨w.heap.size + 1, 2, none⟩ = some (.slice A' m c'))
      (first | with_reducible exact c5 | exact c5)
      (first
        | (go_at_call 17; refine HE.out.mono ?_; rintro e wE ⟨rfl, rfl⟩)
        | (go_at_call 18; refine (HSZ.out _ hT).mono ?_; rintro e wN ⟨rfl, hbN⟩; have hbx := hbx.below hbN; have hT := hT.trans (hbN.mono hT.size); have c5 := hbx.cells)
        | (go_at_call 19; refine (HRZ.out _ hT).mono ?_; rintro e wN ⟨rfl, hbN⟩; have hbx := hbx.below hbN; have hT := hT.trans (hbN.mono hT.size); have c5 := hbx.cells)
        | (go_at_call 20; refine (HFT.out _ hT).mono ?_; rintro e wN ⟨rfl, hbN⟩; have hbx := hbx.below hbN; have hT := hT.trans (hbN.mono hT.size); have c5 := hbx.cells)
        | (go_at_call 21; refine (HFI.out _ hT).mono ?_; rintro e wN ⟨rfl, hbN⟩; have hbx := hbx.below hbN; have hT := hT.trans (hbN.mono hT.size); have c5 := hbx.cells)
        | (go_at_call 22; refine (HRI.out _ hT).mono ?_; rintro e wN ⟨rfl, hbN⟩; have hbx := hbx.below hbN; have hT := hT.trans (hbN.mono hT.size); have c5 := hbx.cells)
        | (go_at_call 23; refine (HS.out _ hT).mono ?_; rintro e wN ⟨rfl, hbN⟩; have hbx := hbx.below hbN; have hT := hT.trans (hbN.mono hT.size); have c5 := hbx.cells)
        | (go_at_call 24; refine (HL.out _ hT).mono ?_; rintro e wN ⟨rfl, hbN⟩; have hbx := hbx.below hbN; have hT := hT.trans (hbN.mono hT.size); have c5 := hbx.cells)
        | (go_at_call 14; refine (bkAwake_any _).mono ?_; rintro e wN ⟨rfl, hbN⟩; have hbx := hbx.below hbN; have hT := hT.trans (hbN.mono hT.size); have c5 := hbx.cells))
    all_goals go_wp2
    all_goals go_ret
    all_goals exact ⟨rfl, hT⟩
  · rw [decide_eq_false hfit] at HFT
    have hdi : decide ((s : Int) ≤ 240) = false := decide_eq_false (by omega)
    clear hfit
    go_enter Try.func5, Try.ntmps5
    go_wp2_with fail
    refine HF.out.mono ?_
    rintro e w1 ⟨rfl, hb1⟩
    have HB1 := Lib.hid (And.intro (HX.out.trans (hb1.mono HX.out.size)) (HBX.out.below hb1))
    have HF2 := Lib.hid (HFC.out _ HB1.out.1)
    clear hb1 x0 x1 x2 y0 y1 y2
    obtain ⟨x0, x1, x2, y0, y1, y2⟩ := HB1.out.2.cells
    go_wp2_with fail
    refine HF2.out.mono ?_
    rintro e w2 ⟨rfl, hb2⟩
    have HB2 := Lib.hid (And.intro (HB1.out.1.trans (hb2.mono HB1.out.1.size)) (HB1.out.2.below hb2))
    have HP2 := Lib.hid (HP.out _ HB2.out.1)
    clear hb2 x0 x1 x2 y0 y1 y2 HB1 HF HF2
    obtain ⟨x0, x1, x2, y0, y1, y2⟩ := HB2.out.2.cells
    go_wp2_with fail
    refine HP2.out.mono ?_
    rintro e w3 ⟨A3, n3, c3, rfl, hc3, hr3, hb3⟩
    have hr3 : RB w3 w3.heap.size A3 n3 pl := hr3
    have HB3 := Lib.hid (And.intro (HB2.out.1.trans (hb3.mono HB2.out.1.size)) (And.intro (HB2.out.2.below hb3) hr3))
    have HQ3 := Lib.hid (HQ.out _ HB3.out.1)
    clear hr3 hb3 x0 x1 x2 y0 y1 y2 HB2 HP2
    obtain ⟨x0, x1, x2, y0, y1, y2⟩ := HB3.out.2.1.cells
    go_wp2_with fail
    refine HQ3.out.mono ?_
    rintro e w4 ⟨A4, n4, c4, rfl, hc4, hr4, hb4⟩
    have hr4 : RB w4 w4.heap.size A4 n4 pl := hr4
    have HE := Lib.hid (Equal_any (w := w4.drew) c3 c4 (HB3.out.2.2.below hb4).drew hr4.drew)
    rw [decide_eq_true rfl] at HE
    have hT : Below w.heap.size w w4.drew := (HB3.out.1.trans (hb4.mono HB3.out.1.size)).drew
    have hbx : Bk2 w4.drew w.heap.size d x A n c d' x' A' m c' := HB3.out.2.1.below hb4.drew
    have c5 := hbx.cells
    clear hr4 hb4 x0 x1 x2 y0 y1 y2 HB3 HQ3 HP HQ
    go_wp2_with fail
    go_region_held3 (fun w' => w'.cell? ⟨w.heap.size, 0, none⟩ = some (.int .i64 d) ∧ w'.cell? ⟨w.heap.size, 1, none⟩ = some (.int .i64 x) ∧ w'.cell? ⟨w.heap.size, 2, none⟩ = some (.slice A n c) ∧ w'.cell? ⟨w.heap.size + 1, 0, none⟩ = some (.int .i64 d') ∧ w'.cell? ⟨w.heap.size + 1, 1, none⟩ = some (.int .i64 x') ∧ w'.cell? ⟨w.heap.size + 1, 2, none⟩ = some (.slice A' m c'))
      (first | with_reducible exact c5 | exact c5)
      (first
        | (go_at_call 17; refine HE.out.mono ?_; rintro e wE ⟨rfl, rfl⟩)
        | (go_at_call 18; refine (HSZ.out _ hT).mono ?_; rintro e wN ⟨rfl, hbN⟩; have hbx := hbx.below hbN; have hT := hT.trans (hbN.mono hT.size); have c5 := hbx.cells)
        | (go_at_call 19; refine (HRZ.out _ hT).mono ?_; rintro e wN ⟨rfl, hbN⟩; have hbx := hbx.below hbN; have hT := hT.trans (hbN.mono hT.size); have c5 := hbx.cells)
        | (go_at_call 20; refine (HFT.out _ hT).mono ?_; rintro e wN ⟨rfl, hbN⟩; have hbx := hbx.below hbN; have hT := hT.trans (hbN.mono hT.size); have c5 := hbx.cells)
        | (go_at_call 21; refine (HFI.out _ hT).mono ?_; rintro e wN ⟨rfl, hbN⟩; have hbx := hbx.below hbN; have hT := hT.trans (hbN.mono hT.size); have c5 := hbx.cells)
        | (go_at_call 22; refine (HRI.out _ hT).mono ?_; rintro e wN ⟨rfl, hbN⟩; have hbx := hbx.below hbN; have hT := hT.trans (hbN.mono hT.size); have c5 := hbx.cells)
        | (go_at_call 23; refine (HS.out _ hT).mono ?_; rintro e wN ⟨rfl, hbN⟩; have hbx := hbx.below hbN; have hT := hT.trans (hbN.mono hT.size); have c5 := hbx.cells)
        | (go_at_call 24; refine (HL.out _ hT).mono ?_; rintro e wN ⟨rfl, hbN⟩; have hbx := hbx.below hbN; have hT := hT.trans (hbN.mono hT.size); have c5 := hbx.cells)
        | (go_at_call 14; refine (bkAwake_any _).mono ?_; rintro e wN ⟨rfl, hbN⟩; have hbx := hbx.below hbN; have hT := hT.trans (hbN.mono hT.size); have c5 := hbx.cells))
    all_goals go_wp2
    all_goals go_ret
    all_goals exact ⟨rfl, hT⟩
end Go.Proofs.Ythpgcdfbngngjaa
