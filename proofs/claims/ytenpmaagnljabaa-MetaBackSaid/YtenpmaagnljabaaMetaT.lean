/-
  Contract of the plain meta's Parse. Condition: a slice of bytes.
-/
import Derived.Test.YtenpmaagnljabaaMetaS
import Derived.Test.YtenpmaagnljabaaMetaG
import Derived.Test.YtenpmaagnljabaaIntApp
import Derived.Test.YtenpmaagnljabaaEqual
namespace Go.Proofs.Ytenpmaagnljabaa
open Go.RowKit
set_option maxRecDepth 100000
set_option linter.unusedVariables false

theorem MBox.set1 {w : World} {b : Nat} {d f n c : Int} {v : Value} (h : MBox w b d f n c v) (y : Int) : MBox (w.setCell ⟨b, 1, none⟩ (.int .i64 y)) b d y n c v := heap_setCell_same w b 1 _ _ (.int .i64 y) h
theorem MBox.set2 {w : World} {b : Nat} {d f n c : Int} {v : Value} (h : MBox w b d f n c v) (y : Int) : MBox (w.setCell ⟨b, 2, none⟩ (.int .i64 y)) b d f y c v := heap_setCell_same w b 2 _ _ (.int .i64 y) h
theorem MBox.set3 {w : World} {b : Nat} {d f n c : Int} {v : Value} (h : MBox w b d f n c v) (y : Int) : MBox (w.setCell ⟨b, 3, none⟩ (.int .i64 y)) b d f n y v := heap_setCell_same w b 3 _ _ (.int .i64 y) h
theorem MBox.set4 {w : World} {b : Nat} {d f n c : Int} {v : Value} (h : MBox w b d f n c v) (u : Value) : MBox (w.setCell ⟨b, 4, none⟩ u) b d f n c u := heap_setCell_same w b 4 _ _ u h
theorem MBox.apart {w : World} {b g i : Nat} {d f n c : Int} {v u : Value} (h : MBox w b d f n c v) (hg : b ≠ g) : MBox (w.setCell ⟨g, i, none⟩ u) b d f n c v := h.keep (Below.heap_setCell _ _ _ _ hg)

theorem at_byte {data : List Int} (hb : AllBytes data) (hl : data.length = 240) {i : Nat} (hi : i < 240) : at_ data i 1 = data[i]?.getD 0 := by
  obtain ⟨h0, h1⟩ := hb.getD i
  have e : at_ data i 1 = numOf ((data.drop i).take 1) := by
    unfold at_ getR
    rw [if_pos ⟨by decide, by omega⟩, if_neg (by rw [hl]; omega)]
    simp
  have e2 : (data.drop i).take 1 = [data[i]?.getD 0] := by
    rw [List.drop_eq_getElem_cons (show i < data.length by omega), List.getElem?_eq_getElem (show i < data.length by omega)]
    rfl
  rw [e, e2]
  generalize data[i]?.getD 0 = x at h0 h1
  rw [numOf_eq _ (fun y hy => by obtain rfl := List.mem_singleton.1 hy; exact ⟨h0, h1⟩)]
  show wrap64 (0 * 256 + x) = _
  unfold wrap64
  omega

theorem parse_yes {data : List Int} (hl : data.length = 240) (hb : AllBytes data) {j : Nat} (hj : j = min (countM data) 20) (h1 : mayB (readM data j) = true) (h2 : metaL (readM data j) = data) : parseM data = (readM data j, 0) := by
  subst hj
  have h := (parse_twenty hl hb).1 ⟨h1, h2⟩
  have hk := (may_few h.2.1).2.1.2
  rw [show (readM data (countM data)).l.length = countM data from cutL_length _ _ _ _] at hk
  rw [Nat.min_eq_left hk]
  unfold parseM
  rw [if_pos h]
theorem parse_no {data : List Int} (hl : data.length = 240) (hb : AllBytes data) {j : Nat} (hj : j = min (countM data) 20) (h : ¬ (mayB (readM data j) = true ∧ metaL (readM data j) = data)) : parseM data = (MV.zero, 4) := by
  subst hj
  unfold parseM
  rw [if_neg (fun h' => h ((parse_twenty hl hb).2 h'))]

set_option maxHeartbeats 6400000 in
theorem refMetaParse_any {w : World} {B n c : Nat} {A : Option Addr} {data : List Int} (hr : RB w B A n data) (hc : n ≤ c) (hB : B ≤ w.heap.size) (hm : n ≤ maxLen) :
    Calls Try.prog 13 #[.slice A n c] w fun e w' => ∃ A' k' c', e = .returned (.tuple #[.agg #[.int .i64 (parseM data).1.d, .int .i64 (parseM data).1.f, .int .i64 (parseM data).1.n, .int .i64 (parseM data).1.c, .slice A' k' c'], .int .i64 (parseM data).2]) ∧ k' ≤ c' ∧ RI w' w'.heap.size A' k' (parseM data).1.l ∧ Below w.heap.size w w' := by
  unfold maxLen at hm
  have hlen := hr.len
  have hby := hr.bytes
  have hmb0 := MBox.new w 0 0 0 0 (.slice none 0 0)
  have hX : Below w.heap.size w (w.alloc (.cells #[.int .i64 0, .int .i64 0, .int .i64 0, .int .i64 0, .slice none 0 0] 24)) := (Below.refl _ _).alloc (Nat.le_refl _) _
  have hsX : (w.alloc (.cells #[.int .i64 0, .int .i64 0, .int .i64 0, .int .i64 0, .slice none 0 0] 24)).heap.size = w.heap.size + 1 := by simp
  have HB0 := Lib.hid hmb0
  have HX := Lib.hid hX
  by_cases h240 : n = 240
  · subst h240
    have HRX := Lib.hid (fun (w1 : World) (hb : Below w.heap.size w w1) => hr.below (hb.mono hB))
    have HBY := Lib.hid hby
    have HLEN := Lib.hid hlen
    have hmb1 := MBox.new (w.alloc (.cells #[.int .i64 0, .int .i64 0, .int .i64 0, .int .i64 0, .slice none 0 0] 24)) (at_ data 4 1) 0 0 0 (.slice none 0 0)
    rw [hsX] at hmb1
    have hX2 := hX.alloc hX.size (.cells #[.int .i64 (at_ data 4 1), .int .i64 0, .int .i64 0, .int .i64 0, .slice none 0 0] 24)
    have hmb0' := hmb0.below ((Below.refl _ _).alloc (Nat.le_refl _) (.cells #[.int .i64 (at_ data 4 1), .int .i64 0, .int .i64 0, .int .i64 0, .slice none 0 0] 24))
    have hcl := (HRX.out _ hX)
    obtain ⟨ab, ao, rfl, hab, hcell⟩ := hcl.at_ (by decide)
    have hc4 := hcell 4 (by decide)
    have hx4 := at_byte hby hlen (i := 4) (by decide)
    have hx4' := hby.getD 4
    rw [show ((4 : Nat) : Int) = 4 from rfl] at hx4
    rw [← hx4] at hc4 hx4'
    have HS1 := Lib.hid (And.intro hmb1 (And.intro hmb0' hX2))
    have hw4 : IntKind.i64.wrap (at_ data 4 1) = at_ data 4 1 := by rw [IntKind.wrap_i64]; omega
    have HMV : Hid (∀ k : Nat, readM data k = ⟨at_ data 4 1, at_ data 6 4, at_ data 10 4, at_ data 14 4, cutL data 18 4 k⟩) := Lib.hid (fun k => rfl)
    have HBD := Lib.hid (And.intro (at_bounds hby 4 1) (And.intro (at_bounds hby 6 4) (And.intro (at_bounds hby 10 4) (at_bounds hby 14 4))))
    have HGET := Lib.hid (fun (w1 : World) (hb : Below w.heap.size w w1) (x : Int) => refGet_any (some ⟨ab, ao, none⟩) 240 c B data x 4 w1 (HRX.out w1 hb) hc (by decide))
    have HG6 : Hid (∀ W : World, Below w.heap.size w W → Calls Try.prog 21 #[.slice (some ⟨ab, ao, none⟩) 240 c, .int .i64 6, .int .i64 4] W fun e w' => e = .returned (.tuple #[.int .i64 (at_ data 6 4), .int .i64 (getR data 6 4).2]) ∧ W = w') := Lib.hid (fun W hb => HGET.out W hb 6)
    have HG10 : Hid (∀ W : World, Below w.heap.size w W → Calls Try.prog 21 #[.slice (some ⟨ab, ao, none⟩) 240 c, .int .i64 10, .int .i64 4] W fun e w' => e = .returned (.tuple #[.int .i64 (at_ data 10 4), .int .i64 (getR data 10 4).2]) ∧ W = w') := Lib.hid (fun W hb => HGET.out W hb 10)
    have HG14 : Hid (∀ W : World, Below w.heap.size w W → Calls Try.prog 21 #[.slice (some ⟨ab, ao, none⟩) 240 c, .int .i64 14, .int .i64 4] W fun e w' => e = .returned (.tuple #[.int .i64 (at_ data 14 4), .int .i64 (getR data 14 4).2]) ∧ W = w') := Lib.hid (fun W hb => HGET.out W hb 14)
    have HGJ : Hid (∀ W : World, Below w.heap.size w W → ∀ x : Int, Calls Try.prog 21 #[.slice (some ⟨ab, ao, none⟩) 240 c, .int .i64 x, .int .i64 4] W fun e w' => e = .returned (.tuple #[.int .i64 (at_ data x 4), .int .i64 (getR data x 4).2]) ∧ W = w') := Lib.hid (fun W hb x => HGET.out W hb x)
    obtain ⟨hk5, hK255⟩ := at_one hby hlen
    have hx5 := at_byte hby hlen (i := 5) (by decide)
    rw [show ((5 : Nat) : Int) = 5 from rfl, hk5] at hx5
    have HC5 : Hid (∀ W : World, Below w.heap.size w W → W.cell? ⟨ab, ao + 5, none⟩ = some (.int .u8 ((countM data : Nat) : Int))) := Lib.hid (fun W hW => by
      obtain ⟨b', o', he, _, hcl2⟩ := (HRX.out W hW).at_ (by decide)
      cases he
      rw [hx5]
      exact hcl2 5 (by decide))
    have HPY := Lib.hid (fun (j : Nat) => parse_yes (j := j) hlen hby)
    have HPN := Lib.hid (fun (j : Nat) => parse_no (j := j) hlen hby)
    have HCB := Lib.hid (fun (k : Nat) => cut_bounds hby 18 4 k)
    clear hX hX2 hr hby hlen hmb0 hmb1 hmb0' hcell hx4 hx4' hcl HB0 HGET hk5 hx5
    generalize hKK : countM data = K at *
    clear hKK
    generalize hq0 : at_ data 4 1 = y0 at *
    generalize hq1 : at_ data 6 4 = y1 at *
    generalize hq2 : at_ data 10 4 = y2 at *
    generalize hq3 : at_ data 14 4 = y3 at *
    clear hq0 hq1 hq2 hq3
    go_enter Try.func13, Try.ntmps13
    go_wp2_with fail
    have hpw : w.heap.size < w.heap.size + 1 := Nat.lt_succ_self _
    clear hc4 hw4 hsX HX
    generalize ((w.alloc (.cells #[.int .i64 0, .int .i64 0, .int .i64 0, .int .i64 0, .slice none 0 0] 24)).alloc (.cells #[.int .i64 y0, .int .i64 0, .int .i64 0, .int .i64 0, .slice none 0 0] 24)) = W1 at *
    generalize w.heap.size + 1 = p at *
    have hne : w.heap.size ≠ p := by omega
    refine (HG6.out _ HS1.out.2.2).mono ?_
    rintro e w' ⟨rfl, rfl⟩
    have g1 := HS1.out.1.frozen 1
    have x1 := HS1.out.1.cells.2.1
    have HS2 := Lib.hid (And.intro (HS1.out.1.set1 y1) (And.intro (HS1.out.2.1.apart (i := 1) (u := .int .i64 y1) hne) (HS1.out.2.2.setCell (p := ⟨p, 1, none⟩) (Nat.le_of_lt hpw) (.int .i64 y1))))
    go_wp2_with fail
    clear g1 x1 HS1
    generalize W1.setCell ⟨p, 1, none⟩ (.int .i64 y1) = W2 at *
    refine (HG10.out _ HS2.out.2.2).mono ?_
    rintro e w' ⟨rfl, rfl⟩
    have g1 := HS2.out.1.frozen 2
    have x1 := HS2.out.1.cells.2.2.1
    have HS3 := Lib.hid (And.intro (HS2.out.1.set2 y2) (And.intro (HS2.out.2.1.apart (i := 2) (u := .int .i64 y2) hne) (HS2.out.2.2.setCell (p := ⟨p, 2, none⟩) (Nat.le_of_lt hpw) (.int .i64 y2))))
    go_wp2_with fail
    clear g1 x1 HS2
    generalize W2.setCell ⟨p, 2, none⟩ (.int .i64 y2) = W3 at *
    refine (HG14.out _ HS3.out.2.2).mono ?_
    rintro e w' ⟨rfl, rfl⟩
    have g1 := HS3.out.1.frozen 3
    have x1 := HS3.out.1.cells.2.2.2.1
    have HS4 := Lib.hid (And.intro (HS3.out.1.set3 y3) (And.intro (HS3.out.2.1.apart (i := 3) (u := .int .i64 y3) hne) (HS3.out.2.2.setCell (p := ⟨p, 3, none⟩) (Nat.le_of_lt hpw) (.int .i64 y3))))
    go_wp2_with fail
    clear g1 x1 HS3
    generalize W3.setCell ⟨p, 3, none⟩ (.int .i64 y3) = W4 at *
    have HSTART : Hid (W4.ownsRow (p + 1) 3 1 (.slice none 0 0) 0 ((cutL data 18 4 0).map (Value.int .i64))) := Lib.hid ⟨rfl, .inl ⟨rfl, rfl⟩⟩
    go_loopw [5] (fun i wr => ∃ (j : Nat) (v : Value), j ≤ min K 20 ∧ i = .int .i64 j ∧ Hid (MBox wr p y0 y1 y2 y3 v) ∧ Hid (wr.ownsRow (p + 1) 3 1 v j ((cutL data 18 4 j).map (Value.int .i64))) ∧ Hid (MBox wr w.heap.size 0 0 0 0 (.slice none 0 0)) ∧ Hid (Below w.heap.size w wr)) (fun i _ => 20 - (intOf i).toNat)
    case atStart => exact ⟨0, _, Nat.zero_le _, rfl, Lib.hid HS4.out.1, HSTART, Lib.hid HS4.out.2.1, Lib.hid HS4.out.2.2⟩
    case round =>
      clear HSTART HS4
      obtain ⟨j, v, hj, rfl, hmp, hown, hm0, hbr⟩ := hrel
      have hc5 := HC5.out wr hbr.out
      have hwK : IntKind.i64.wrap (K : Int) = (K : Int) := by rw [IntKind.wrap_i64]; omega
      by_cases hgo : j < K ∧ j < 20
      · have hlt : (j : Int) < (K : Int) := by omega
        have hl20 : (j : Int) < 20 := by omega
        have q1 : IntKind.i64.wrap (4 * (j : Int)) = 4 * (j : Int) := by rw [IntKind.wrap_i64]; omega
        have q2 : IntKind.i64.wrap (18 + 4 * (j : Int)) = 18 + 4 * (j : Int) := by rw [IntKind.wrap_i64]; omega
        have hnx : cutL data 18 4 (j + 1) = cutL data 18 4 j ++ [at_ data (18 + 4 * (j : Int)) 4] := by
          show cutL data 18 4 j ++ [at_ data (18 + (j : Int) * 4) 4] = _
          rw [Int.mul_comm]
        have HJ := Lib.hid (HGJ.out wr hbr.out (18 + 4 * (j : Int)))
        have HNX := Lib.hid hnx
        have hpl : p < wr.heap.size := hmp.out.cells.2.2.2.2.2
        clear hnx
        generalize at_ data (18 + 4 * (j : Int)) 4 = y at HJ HNX
        go_wp2_with fail
        refine HJ.out.mono ?_
        rintro e w' ⟨rfl, rfl⟩
        have x4 := hmp.out.cells.2.2.2.2.1
        clear hc5 HJ
        go_wp2_with (at_builtin; refine wpList_append_int rfl (.tmp 58) (.tmp 60) rfl (p + 1) v j _ rfl wr.heap.size y _ rfl (hown.out.alloc _) (heap_alloc_new _ _) (by omega) (by simp; omega) ?_; intro v3 w3 h3 hb3; obtain ⟨A3, c3, rfl, hc3⟩ := int_own_shape h3; have hXL : Below wr.heap.size wr (wr.alloc (.cells #[.int .i64 y] 3)) := (Below.refl _ _).alloc (Nat.le_refl _) _; have hmp3 := (hmp.out.below hXL).keep (hb3.block p (Nat.lt_succ_self _)); have hm03 := (hm0.out.below hXL).keep (hb3.block w.heap.size (by omega)); have g4 := hmp3.frozen 4; have u4 := hmp3.cells.2.2.2.2.1; have HB3 := Lib.hid ((hbr.out.trans (hXL.mono hbr.out.size)).trans (hb3.mono (by omega))); have HM3 := Lib.hid (And.intro hmp3 (And.intro hm03 h3)); clear hXL hmp3 hm03 h3 hb3)
        go_round
        case rel =>
          refine ⟨j + 1, _, by omega, by go_num, Lib.hid (HM3.out.1.set4 _), Lib.hid ?_, Lib.hid (HM3.out.2.1.apart hne), Lib.hid (HB3.out.setCell (p := ⟨p, 4, none⟩) (Nat.le_of_lt hpw) _)⟩
          rw [HNX.out]
          exact own_stays HM3.out.2.2 (fun g hg => Below.heap_setCell _ _ _ _ (by have hgp := (own_at HM3.out.2.2 g hg).1; show g ≠ p; omega))
        case measure => simp [intOf]; omega
      · have hjm : j = min K 20 := by omega
        obtain ⟨A5, c5, rfl, hc5c⟩ := int_own_shape hown.out
        have hri := (RI.of_own hown.out (HCB.out j)).1
        have HPT := Lib.hid (refMetaPut_any (w := wr) (cap := c5) y0 y1 y2 y3 hri (by unfold maxLen; omega) HBD.out.1 HBD.out.2.1 HBD.out.2.2.1 HBD.out.2.2.2)
        rw [← HMV.out j] at HPT
        have HPYJ := Lib.hid (HPY.out j hjm)
        have HPNJ := Lib.hid (HPN.out j hjm)
        have HRI := Lib.hid hri
        obtain ⟨m0, m1, m2, m3, m4, _⟩ := hmp.out.cells
        clear hri hjm HPY HPN
        have hor : (j : Int) < (K : Int) ∨ ¬ (j : Int) < (K : Int) := Classical.em _
        have hl20 : (j : Int) < (K : Int) → ¬ (j : Int) < 20 := fun h => by omega
        rcases hor with hlt | hlt
        · have hl20' := hl20 hlt
          clear hl20
          go_wp2_with fail
          clear hl20'
          refine HPT.out.mono ?_
          by_cases hmay : mayB (readM data j) = true
          · have hP : putM (readM data j) = (metaL (readM data j), 0) := by unfold putM; rw [if_pos hmay]
            rw [hP]
            rintro e w2 ⟨A2, n2, c2, rfl, hc2, hr2, hb2⟩
            have HM2 := Lib.hid (And.intro (hmp.out.below hb2) (And.intro (hm0.out.below hb2) (And.intro (HRI.out.below hb2) (hbr.out.trans (hb2.mono hbr.out.size)))))
            have hrd2 := HRX.out w2 HM2.out.2.2.2
            have hr2 : RB w2 w2.heap.size A2 n2 (metaL (readM data j)) := hr2
            have q1 := hr2.conv c2
            have q2 := hrd2.conv c
            have f0 := HM2.out.2.1.frozen 0
            have f1 := HM2.out.2.1.frozen 1
            have f2 := HM2.out.2.1.frozen 2
            have f3 := HM2.out.2.1.frozen 3
            have f4 := HM2.out.2.1.frozen 4
            obtain ⟨z0, z1, z2, z3, z4, _⟩ := HM2.out.2.1.cells
            obtain ⟨u0, u1, u2, u3, u4, _⟩ := HM2.out.1.cells
            by_cases hpd : metaL (readM data j) = data
            · have heq : ((strOfNums (metaL (readM data j))).toList == (strOfNums data).toList) = true := by rw [hpd]; simp
              have HPS := Lib.hid (HPYJ.out hmay hpd)
              have ho2 := own_later hown.out hb2
              have HS := Lib.hid (And.intro (HM2.out.2.1.store y0 y1 y2 y3 (.slice A5 j c5)) (And.intro (own_stays (w' := (((((w2.setCell ⟨w.heap.size, 0, none⟩ (Value.int IntKind.i64 y0)).setCell ⟨w.heap.size, 1, none⟩ (Value.int IntKind.i64 y1)).setCell ⟨w.heap.size, 2, none⟩ (Value.int IntKind.i64 y2)).setCell ⟨w.heap.size, 3, none⟩ (Value.int IntKind.i64 y3)).setCell ⟨w.heap.size, 4, none⟩ (Value.slice A5 j c5))) ho2 (fun g hg => block_five (by have hgp := (own_at ho2 g hg).1; omega))) (below_five (x0 := .int .i64 y0) (x1 := .int .i64 y1) (x2 := .int .i64 y2) (x3 := .int .i64 y3) (x4 := .slice A5 j c5) HM2.out.2.2.2 (Nat.le_refl w.heap.size))))
              clear hr2 hrd2 hb2 hP hc5 m0 m1 m2 m3 m4 HPT hpd ho2
              go_wp2_with fail
              generalize hXX : (((((w2.setCell ⟨w.heap.size, 0, none⟩ (Value.int IntKind.i64 y0)).setCell ⟨w.heap.size, 1, none⟩ (Value.int IntKind.i64 y1)).setCell ⟨w.heap.size, 2, none⟩ (Value.int IntKind.i64 y2)).setCell ⟨w.heap.size, 3, none⟩ (Value.int IntKind.i64 y3)).setCell ⟨w.heap.size, 4, none⟩ (Value.slice A5 j c5)) = X at *
              obtain ⟨d0, d1, d2, d3, d4, _⟩ := HS.out.1.cells
              refine bodyPost_ret (v := .tuple #[.agg #[.int .i64 y0, .int .i64 y1, .int .i64 y2, .int .i64 y3, .slice A5 j c5], .int .i64 0]) (by
                simp [results, Try.results13, go_sem, d0, d1, d2, d3, d4]) rfl ?_
              rw [HPS.out, HMV.out j]
              exact ⟨A5, j, c5, rfl, hc5c, (RI.of_own HS.out.2.1 (HCB.out j)).1, HS.out.2.2⟩
            · have heq : ((strOfNums (metaL (readM data j))).toList == (strOfNums data).toList) = false := by
                have : ¬ (strOfNums (metaL (readM data j))).toList = (strOfNums data).toList := fun e' => hpd (strOfNums_inj hr2.bytes hrd2.bytes e')
                simp [this]
              have HPS := Lib.hid (HPNJ.out (fun h => hpd h.2))
              have HS := Lib.hid (And.intro (HM2.out.2.1.store 0 0 0 0 (.slice none 0 0)) (below_five (x0 := .int .i64 0) (x1 := .int .i64 0) (x2 := .int .i64 0) (x3 := .int .i64 0) (x4 := .slice none 0 0) HM2.out.2.2.2 (Nat.le_refl w.heap.size)))
              clear hr2 hrd2 hb2 hP hc5 m0 m1 m2 m3 m4 HPT hpd
              go_wp2_with fail
              generalize hXX : (((((w2.setCell ⟨w.heap.size, 0, none⟩ (Value.int IntKind.i64 0)).setCell ⟨w.heap.size, 1, none⟩ (Value.int IntKind.i64 0)).setCell ⟨w.heap.size, 2, none⟩ (Value.int IntKind.i64 0)).setCell ⟨w.heap.size, 3, none⟩ (Value.int IntKind.i64 0)).setCell ⟨w.heap.size, 4, none⟩ (Value.slice none 0 0)) = X at *
              obtain ⟨d0, d1, d2, d3, d4, _⟩ := HS.out.1.cells
              refine bodyPost_ret (v := .tuple #[.agg #[.int .i64 0, .int .i64 0, .int .i64 0, .int .i64 0, .slice none 0 0], .int .i64 4]) (by
                simp [results, Try.results13, go_sem, d0, d1, d2, d3, d4]) rfl ?_
              rw [HPS.out]
              exact ⟨none, 0, 0, rfl, Nat.le_refl _, RI.nil_, HS.out.2⟩
          · have hP : putM (readM data j) = ([], 1) := by unfold putM; rw [if_neg hmay]
            have HPS := Lib.hid (HPNJ.out (fun h => hmay h.1))
            rw [hP]
            rintro e w2 ⟨A2, n2, c2, rfl, hc2, hr2, hb2⟩
            have HM2 := Lib.hid (And.intro (hm0.out.below hb2) (hbr.out.trans (hb2.mono hbr.out.size)))
            have f0 := HM2.out.1.frozen 0
            have f1 := HM2.out.1.frozen 1
            have f2 := HM2.out.1.frozen 2
            have f3 := HM2.out.1.frozen 3
            have f4 := HM2.out.1.frozen 4
            obtain ⟨z0, z1, z2, z3, z4, _⟩ := HM2.out.1.cells
            have HS := Lib.hid (And.intro (HM2.out.1.store 0 0 0 0 (.slice none 0 0)) (below_five (x0 := .int .i64 0) (x1 := .int .i64 0) (x2 := .int .i64 0) (x3 := .int .i64 0) (x4 := .slice none 0 0) HM2.out.2 (Nat.le_refl w.heap.size)))
            clear hr2 hb2 hP hc5 m0 m1 m2 m3 m4 HPT hmay
            go_wp2_with fail
            generalize hXX : (((((w2.setCell ⟨w.heap.size, 0, none⟩ (Value.int IntKind.i64 0)).setCell ⟨w.heap.size, 1, none⟩ (Value.int IntKind.i64 0)).setCell ⟨w.heap.size, 2, none⟩ (Value.int IntKind.i64 0)).setCell ⟨w.heap.size, 3, none⟩ (Value.int IntKind.i64 0)).setCell ⟨w.heap.size, 4, none⟩ (Value.slice none 0 0)) = X at *
            obtain ⟨d0, d1, d2, d3, d4, _⟩ := HS.out.1.cells
            refine bodyPost_ret (v := .tuple #[.agg #[.int .i64 0, .int .i64 0, .int .i64 0, .int .i64 0, .slice none 0 0], .int .i64 4]) (by
              simp [results, Try.results13, go_sem, d0, d1, d2, d3, d4]) rfl ?_
            rw [HPS.out]
            exact ⟨none, 0, 0, rfl, Nat.le_refl _, RI.nil_, HS.out.2⟩
        · clear hl20
          go_wp2_with fail
          refine HPT.out.mono ?_
          by_cases hmay : mayB (readM data j) = true
          · have hP : putM (readM data j) = (metaL (readM data j), 0) := by unfold putM; rw [if_pos hmay]
            rw [hP]
            rintro e w2 ⟨A2, n2, c2, rfl, hc2, hr2, hb2⟩
            have HM2 := Lib.hid (And.intro (hmp.out.below hb2) (And.intro (hm0.out.below hb2) (And.intro (HRI.out.below hb2) (hbr.out.trans (hb2.mono hbr.out.size)))))
            have hrd2 := HRX.out w2 HM2.out.2.2.2
            have hr2 : RB w2 w2.heap.size A2 n2 (metaL (readM data j)) := hr2
            have q1 := hr2.conv c2
            have q2 := hrd2.conv c
            have f0 := HM2.out.2.1.frozen 0
            have f1 := HM2.out.2.1.frozen 1
            have f2 := HM2.out.2.1.frozen 2
            have f3 := HM2.out.2.1.frozen 3
            have f4 := HM2.out.2.1.frozen 4
            obtain ⟨z0, z1, z2, z3, z4, _⟩ := HM2.out.2.1.cells
            obtain ⟨u0, u1, u2, u3, u4, _⟩ := HM2.out.1.cells
            by_cases hpd : metaL (readM data j) = data
            · have heq : ((strOfNums (metaL (readM data j))).toList == (strOfNums data).toList) = true := by rw [hpd]; simp
              have HPS := Lib.hid (HPYJ.out hmay hpd)
              have ho2 := own_later hown.out hb2
              have HS := Lib.hid (And.intro (HM2.out.2.1.store y0 y1 y2 y3 (.slice A5 j c5)) (And.intro (own_stays (w' := (((((w2.setCell ⟨w.heap.size, 0, none⟩ (Value.int IntKind.i64 y0)).setCell ⟨w.heap.size, 1, none⟩ (Value.int IntKind.i64 y1)).setCell ⟨w.heap.size, 2, none⟩ (Value.int IntKind.i64 y2)).setCell ⟨w.heap.size, 3, none⟩ (Value.int IntKind.i64 y3)).setCell ⟨w.heap.size, 4, none⟩ (Value.slice A5 j c5))) ho2 (fun g hg => block_five (by have hgp := (own_at ho2 g hg).1; omega))) (below_five (x0 := .int .i64 y0) (x1 := .int .i64 y1) (x2 := .int .i64 y2) (x3 := .int .i64 y3) (x4 := .slice A5 j c5) HM2.out.2.2.2 (Nat.le_refl w.heap.size))))
              clear hr2 hrd2 hb2 hP hc5 m0 m1 m2 m3 m4 HPT hpd ho2
              go_wp2_with fail
              generalize hXX : (((((w2.setCell ⟨w.heap.size, 0, none⟩ (Value.int IntKind.i64 y0)).setCell ⟨w.heap.size, 1, none⟩ (Value.int IntKind.i64 y1)).setCell ⟨w.heap.size, 2, none⟩ (Value.int IntKind.i64 y2)).setCell ⟨w.heap.size, 3, none⟩ (Value.int IntKind.i64 y3)).setCell ⟨w.heap.size, 4, none⟩ (Value.slice A5 j c5)) = X at *
              obtain ⟨d0, d1, d2, d3, d4, _⟩ := HS.out.1.cells
              refine bodyPost_ret (v := .tuple #[.agg #[.int .i64 y0, .int .i64 y1, .int .i64 y2, .int .i64 y3, .slice A5 j c5], .int .i64 0]) (by
                simp [results, Try.results13, go_sem, d0, d1, d2, d3, d4]) rfl ?_
              rw [HPS.out, HMV.out j]
              exact ⟨A5, j, c5, rfl, hc5c, (RI.of_own HS.out.2.1 (HCB.out j)).1, HS.out.2.2⟩
            · have heq : ((strOfNums (metaL (readM data j))).toList == (strOfNums data).toList) = false := by
                have : ¬ (strOfNums (metaL (readM data j))).toList = (strOfNums data).toList := fun e' => hpd (strOfNums_inj hr2.bytes hrd2.bytes e')
                simp [this]
              have HPS := Lib.hid (HPNJ.out (fun h => hpd h.2))
              have HS := Lib.hid (And.intro (HM2.out.2.1.store 0 0 0 0 (.slice none 0 0)) (below_five (x0 := .int .i64 0) (x1 := .int .i64 0) (x2 := .int .i64 0) (x3 := .int .i64 0) (x4 := .slice none 0 0) HM2.out.2.2.2 (Nat.le_refl w.heap.size)))
              clear hr2 hrd2 hb2 hP hc5 m0 m1 m2 m3 m4 HPT hpd
              go_wp2_with fail
              generalize hXX : (((((w2.setCell ⟨w.heap.size, 0, none⟩ (Value.int IntKind.i64 0)).setCell ⟨w.heap.size, 1, none⟩ (Value.int IntKind.i64 0)).setCell ⟨w.heap.size, 2, none⟩ (Value.int IntKind.i64 0)).setCell ⟨w.heap.size, 3, none⟩ (Value.int IntKind.i64 0)).setCell ⟨w.heap.size, 4, none⟩ (Value.slice none 0 0)) = X at *
              obtain ⟨d0, d1, d2, d3, d4, _⟩ := HS.out.1.cells
              refine bodyPost_ret (v := .tuple #[.agg #[.int .i64 0, .int .i64 0, .int .i64 0, .int .i64 0, .slice none 0 0], .int .i64 4]) (by
                simp [results, Try.results13, go_sem, d0, d1, d2, d3, d4]) rfl ?_
              rw [HPS.out]
              exact ⟨none, 0, 0, rfl, Nat.le_refl _, RI.nil_, HS.out.2⟩
          · have hP : putM (readM data j) = ([], 1) := by unfold putM; rw [if_neg hmay]
            have HPS := Lib.hid (HPNJ.out (fun h => hmay h.1))
            rw [hP]
            rintro e w2 ⟨A2, n2, c2, rfl, hc2, hr2, hb2⟩
            have HM2 := Lib.hid (And.intro (hm0.out.below hb2) (hbr.out.trans (hb2.mono hbr.out.size)))
            have f0 := HM2.out.1.frozen 0
            have f1 := HM2.out.1.frozen 1
            have f2 := HM2.out.1.frozen 2
            have f3 := HM2.out.1.frozen 3
            have f4 := HM2.out.1.frozen 4
            obtain ⟨z0, z1, z2, z3, z4, _⟩ := HM2.out.1.cells
            have HS := Lib.hid (And.intro (HM2.out.1.store 0 0 0 0 (.slice none 0 0)) (below_five (x0 := .int .i64 0) (x1 := .int .i64 0) (x2 := .int .i64 0) (x3 := .int .i64 0) (x4 := .slice none 0 0) HM2.out.2 (Nat.le_refl w.heap.size)))
            clear hr2 hb2 hP hc5 m0 m1 m2 m3 m4 HPT hmay
            go_wp2_with fail
            generalize hXX : (((((w2.setCell ⟨w.heap.size, 0, none⟩ (Value.int IntKind.i64 0)).setCell ⟨w.heap.size, 1, none⟩ (Value.int IntKind.i64 0)).setCell ⟨w.heap.size, 2, none⟩ (Value.int IntKind.i64 0)).setCell ⟨w.heap.size, 3, none⟩ (Value.int IntKind.i64 0)).setCell ⟨w.heap.size, 4, none⟩ (Value.slice none 0 0)) = X at *
            obtain ⟨d0, d1, d2, d3, d4, _⟩ := HS.out.1.cells
            refine bodyPost_ret (v := .tuple #[.agg #[.int .i64 0, .int .i64 0, .int .i64 0, .int .i64 0, .slice none 0 0], .int .i64 4]) (by
              simp [results, Try.results13, go_sem, d0, d1, d2, d3, d4]) rfl ?_
            rw [HPS.out]
            exact ⟨none, 0, 0, rfl, Nat.le_refl _, RI.nil_, HS.out.2⟩
  · have hps : parseM data = (MV.zero, 4) := by
      unfold parseM
      rw [if_neg (fun h => h240 (by rw [← hlen]; exact h.1))]
    have HPS := Lib.hid hps
    have k1 : ((n : Int) != 240) = true := by simp; omega
    clear hps h240 hX hr hby hlen hmb0
    go_enter Try.func13, Try.ntmps13
    go_wp2
    obtain ⟨d0, d1, d2, d3, d4, _⟩ := HB0.out.cells
    refine bodyPost_ret (v := .tuple #[.agg #[.int .i64 0, .int .i64 0, .int .i64 0, .int .i64 0, .slice none 0 0], .int .i64 4]) (by
      simp [results, Try.results13, go_sem]) rfl ?_
    rw [HPS.out]
    exact ⟨none, 0, 0, rfl, Nat.le_refl _, RI.nil_, HX.out⟩

end Go.Proofs.Ytenpmaagnljabaa
