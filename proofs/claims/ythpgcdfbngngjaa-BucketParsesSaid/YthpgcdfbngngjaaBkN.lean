/-
  Contract of the plain bucket's Put. Condition: pairs of few bytes; numbers are ints.
-/
import Derived.Test.YthpgcdfbngngjaaBkL
namespace Go.Proofs.Ythpgcdfbngngjaa
open Go.RowKit
set_option maxRecDepth 100000
set_option linter.unusedVariables false

set_option maxHeartbeats 6400000 in
theorem refBkPut_any {w : World} {B n : Nat} {A : Option Addr} {ps : List KV} (d x : Int) (c : Nat) (hr : RPairs w B A n ps) (hB : B ≤ w.heap.size) (hm : n ≤ maxLen) (hsz : szP ps ≤ 4611686018427387904) (hd : -9223372036854775808 ≤ d ∧ d ≤ 9223372036854775807) (hx : -9223372036854775808 ≤ x ∧ x ≤ 9223372036854775807) :
    Calls Try.prog 16 #[.agg #[.int .i64 d, .int .i64 x, .slice A n c]] w fun e w' => ∃ A' n' c', e = .returned (.tuple #[.slice A' n' c', .int .i64 (putBk ⟨d, x, ps⟩).2]) ∧ n' ≤ c' ∧ RB w' w'.heap.size A' n' (putBk ⟨d, x, ps⟩).1 ∧ Below w.heap.size w w' := by
  have hbox : Below w.heap.size w (w.alloc (BkObj d x A n c)) := (Below.refl _ _).alloc (Nat.le_refl _) _
  have HM := Lib.hid (bkRefMay_any d x c (hr.below (hbox.mono hB)) (Nat.le_trans hB hbox.size) hm hsz)
  have HBX := Lib.hid (BkBox.new w d x A n c)
  obtain ⟨c0, c1, c2, hbl⟩ := HBX.out.cells
  have HB := Lib.hid hbox
  have HR := Lib.hid hr
  cases hmb : mayBk ⟨d, x, ps⟩ with
  | false =>
    have hP : putBk ⟨d, x, ps⟩ = ([], 1) := by unfold putBk; rw [if_neg (by rw [hmb]; decide)]
    rw [hmb] at HM
    rw [hP]
    clear hP hmb hbox hr
    unfold BkObj at *
    go_enter Try.func16, Try.ntmps16
    go_wp2_with fail
    refine HM.out.mono ?_
    rintro e w1 ⟨rfl, hb1⟩
    have hF := Lib.hid (HB.out.trans (hb1.mono HB.out.size))
    clear hb1 c0 c1 c2
    go_wp2
    go_ret2
    exact ⟨none, 0, 0, rfl, Nat.le_refl _, RB.nil_, hF.out⟩
  | true =>
    obtain ⟨f1, f2, f3, f4⟩ := mayBk_few hmb
    have f1 : 8 + szP ps ≤ 240 := f1
    have f2 : 0 ≤ d ∧ d ≤ 10 := f2
    have f3 : rightB x 4 = true := f3
    have hn : n ≤ 116 := by have := szP_len ps; rw [hr.len] at this; omega
    have hP : putBk ⟨d, x, ps⟩ = (pageBk ⟨d, x, ps⟩, 0) := by unfold putBk; rw [if_pos hmb]
    have HPB := Lib.hid (pageBk_bytes hmb hr.bytes)
    have HHD := Lib.hid (pageBk_eq hmb)
    have HPA := Lib.hid (fun k (y : KV) (hy : ps[k]? = some y) => pairsB_at f4 hy)
    have HLEN := Lib.hid hr.len
    have HSZ := Lib.hid f1
    have HBYP := Lib.hid hr.bytes
    have hw8 : d % 256 = d := by omega
    have HQ1 : Hid (∀ (W : World) (g : Nat) (cc : Nat), RB W W.heap.size (some ⟨g, 0, none⟩) 2 [66, d] → Calls Try.prog 33 #[.slice (some ⟨g, 0, none⟩) 2 cc, .int .i64 x, .int .i64 4] W fun e w' => ∃ v, e = .returned v ∧ w'.ownsRow W.heap.size 5 1 v 6 (([66, d] ++ putB x 4).map (Value.int .u8)) ∧ Below W.heap.size W w') := Lib.hid (fun W g cc h => by
      have := refPut_own (some ⟨g, 0, none⟩) 2 cc _ _ x 4 _ h (Nat.le_refl _) (by decide) hx.1 hx.2
      have e : putR [66, d] x 4 = [66, d] ++ putB x 4 := by unfold putR; rw [if_pos f3]; rfl
      rw [e] at this
      have e2 : ([66, d] ++ putB x 4).length = 6 := by simp [putB_length]
      rw [e2] at this
      exact this)
    have HQ2 : Hid (∀ (W : World) (AA : Option Addr) (cc : Nat), RB W W.heap.size AA 6 ([66, d] ++ putB x 4) → Calls Try.prog 33 #[.slice AA 6 cc, .int .i64 (n : Int), .int .i64 2] W fun e w' => ∃ v, e = .returned v ∧ w'.ownsRow W.heap.size 5 1 v 8 ((bkHeadL ⟨d, x, ps⟩).map (Value.int .u8)) ∧ Below W.heap.size W w') := Lib.hid (fun W AA cc h => by
      have := refPut_own AA 6 cc _ _ (n : Int) 2 _ h (Nat.le_refl _) (by decide) (by omega) (by omega)
      have e : putR ([66, d] ++ putB x 4) (n : Int) 2 = bkHeadL ⟨d, x, ps⟩ := by
        unfold putR
        rw [if_pos (show rightB (n : Int) 2 = true from right_2 (by omega)), ← HHD.out]
        show _ = [66, d] ++ putB x 4 ++ putB (ps.length : Int) 2
        rw [HLEN.out]
        rfl
      rw [e] at this
      rw [bkHeadL_length] at this
      exact this)
    rw [hmb] at HM
    rw [hP]
    clear hP hmb hbox hr f1 f3 f4
    unfold BkObj at *
    go_enter Try.func16, Try.ntmps16
    go_wp2_with fail
    refine HM.out.mono ?_
    rintro e w1 ⟨rfl, hb1⟩
    have hbx1 := HBX.out.below hb1
    have hb01 := HB.out.trans (hb1.mono HB.out.size)
    have hs1 := hb01.size
    clear hb1 c0 c1 c2
    obtain ⟨c0, c1, c2, hbl1⟩ := hbx1.cells
    have hX1 : Below w1.heap.size w1 (w1.alloc (.cells #[.int .u8 66, .int .u8 d] 5 (0, 0))) := (Below.refl _ _).alloc (Nat.le_refl _) _
    have hlit := (RB.lit w1 5 [66, d] #[.int .u8 66, .int .u8 d] rfl (fun y hy => by
      simp at hy
      rcases hy with rfl | rfl
      · omega
      · omega)).more (show w1.heap.size + 1 ≤ (w1.alloc (.cells #[.int .u8 66, .int .u8 d] 5 (0, 0))).heap.size by simp)
    have HP1 := Lib.hid (HQ1.out _ _ 2 hlit)
    have hbx2 := hbx1.below hX1
    obtain ⟨d0, d1, d2, _⟩ := hbx2.cells
    have HX1 := Lib.hid (And.intro hbx2 (hb01.trans (hX1.mono hs1)))
    clear hlit hX1 hbx1 hb01 hbx2
    go_wp2_with fail
    refine HP1.out.mono ?_
    rintro e w2 ⟨v2, rfl, hown2, hb2⟩
    have hbx2 := HX1.out.1.below hb2
    have hbw2 := HX1.out.2.trans (hb2.mono HX1.out.2.size)
    obtain ⟨A2, k2, rfl, hk2, hr2⟩ := read_own hown2 (AllBytes.append (fun y hy => by
      simp at hy
      rcases hy with rfl | rfl
      · decide
      · omega) (putB_bytes _ _))
    have HP2 := Lib.hid (HQ2.out _ A2 k2 hr2)
    clear c0 c1 c2 d0 d1 d2
    obtain ⟨d0, d1, d2, hbl2⟩ := hbx2.cells
    have HX2 := Lib.hid (And.intro hbx2 hbw2)
    clear hb2 hbx2 hown2 hr2 hbw2 HX1 HP1 HQ1 HQ2
    go_wp2_with fail
    refine HP2.out.mono ?_
    rintro e w3 ⟨v3, rfl, hown3, hb3⟩
    have hbx3 := HX2.out.1.below hb3
    have hbw3 := HX2.out.2.trans (hb3.mono HX2.out.2.size)
    have HS3 : Hid (w3.ownsRow (w.heap.size + 1) 5 1 v3 (8 + szP (ps.take 0)) ((bkHeadL ⟨d, x, ps⟩ ++ pairsL (ps.take 0)).map (Value.int .u8)) ∧ BkBox w3 w.heap.size d x A n c ∧ Below w.heap.size w w3) := Lib.hid ⟨by
      rw [List.take_zero]
      show w3.ownsRow (w.heap.size + 1) 5 1 v3 8 ((bkHeadL ⟨d, x, ps⟩ ++ []).map (Value.int .u8))
      rw [List.append_nil]
      exact own_base_le hown3 (by omega), hbx3, hbw3⟩
    clear hb3 hbx3 hown3 hbw3 HX2 HP2 d0 d1 d2
    go_wp2_with fail
    go_loopw [4, 5] (fun v i wr => ∃ k : Nat, k ≤ n ∧ i = .int .i64 k ∧ Hid (wr.ownsRow (w.heap.size + 1) 5 1 v (8 + szP (ps.take k)) ((bkHeadL ⟨d, x, ps⟩ ++ pairsL (ps.take k)).map (Value.int .u8)) ∧ BkBox wr w.heap.size d x A n c ∧ Below w.heap.size w wr)) (fun _ i _ => n - (intOf i).toNat)
    case atStart => exact ⟨0, Nat.zero_le _, rfl, HS3⟩
    case round =>
      clear HS3
      obtain ⟨k, hk, rfl, hst⟩ := hrel
      obtain ⟨c0, c1, c2, _⟩ := hst.out.2.1.cells
      have hle := szP_take_le ps k
      have hsz1 := HSZ.out
      by_cases hlt : k < n
      · obtain ⟨b, off, rfl, hbB, hat⟩ := HR.out.2 (by omega)
        obtain ⟨y, hy⟩ : ∃ y, ps[k]? = some y := ⟨_, List.getElem?_eq_getElem (by rw [HLEN.out]; exact hlt)⟩
        have hpa := HPA.out k y hy
        obtain ⟨⟨p1, p2⟩, p3, _⟩ := hpa
        have hsy := szP_step hy
        have hpy := pairsL_step hy
        have hle1 := szP_take_le ps (k + 1)
        obtain ⟨ka, kn, kc, va, vn, vc, h0, h1, h2, h3, h4, h5⟩ := (hat k y hy).keep hbB (fun b o hbb => hst.out.2.2.cell (p := ⟨b, o, none⟩) (Nat.lt_of_lt_of_le hbb hB))
        rw [h2.len] at p1 p2 hsy
        rw [h4.len] at p3 hsy
        obtain ⟨v9, w9, v10, w10, v11, w11, r9, r10, r11, q9, q10, q11, o11, bx11, b11⟩ := bkRef_round (kc := kc) (vc := vc) hst.out.1 (by omega) hst.out.2.1 hst.out.2.2 hB h2 h4 (by omega) (by omega) 22 22 22
        have R9 := Lib.hid r9
        have R10 := Lib.hid r10
        have R11 := Lib.hid r11
        have HE := Lib.hid (show w11.ownsRow (w.heap.size + 1) 5 1 v11 (8 + szP (ps.take (k + 1))) ((bkHeadL ⟨d, x, ps⟩ ++ pairsL (ps.take (k + 1))).map (Value.int .u8)) ∧ BkBox w11 w.heap.size d x (some ⟨b, off, none⟩) n c ∧ Below w.heap.size w w11 from ⟨by
          rw [hpy, hsy, ← List.append_assoc, ← Nat.add_assoc]
          exact o11, bx11, b11⟩)
        obtain ⟨d0, d1⟩ := q9.cells
        have c9 := q9.drew.cells
        have c10 := q10.cells
        have c11 := q11.cells
        have hkw : (kn : Int) % 256 = (kn : Int) := by omega
        have hvw : (vn : Int) % 256 = (vn : Int) := by omega
        have hlt' : (k : Int) < (n : Int) := by omega
        have tok1 : True := trivial
        obtain ⟨h3a, h3b⟩ := h3
        obtain ⟨h5a, h5b⟩ := h5
        unfold maxLen at h3b h5b
        clear r9 r10 r11 q9 q10 q11 o11 bx11 b11 hsy hpy hle hle1 hat hy h2 h4 hst
        go_wp2_with (at_builtin; refine Lib.wpList_append_run _ rfl _ _ _ _ rfl _ _ rfl rfl _ _ R9.out ?_)
        go_wp2_with fail
        go_region_held3 (fun w' => w'.cell? ⟨wr.heap.size, 0, none⟩ = some (.slice ka kn kc) ∧ w'.cell? ⟨wr.heap.size, 1, none⟩ = some (.slice va vn vc))
          (first | with_reducible exact c11 | with_reducible exact c10 | with_reducible exact c9)
          (first
            | (have _t := tok1; clear tok1; refine step_append_run (by rfl) (.tmp 45) (.tmp 47) _ _ (by rfl) _ _ (by rfl) (by rfl) R10.out ?_; have tok2 : True := trivial)
            | (have _t := tok2; clear tok2; refine step_append_run (by rfl) (.tmp 48) (.tmp 50) _ _ (by rfl) _ _ (by rfl) (by rfl) R11.out ?_))
        clear d0 d1 c9 c10 c11 h0 h1 c0 c1 c2
        go_wp2
        go_roundw
        case rel => exact ⟨k + 1, by omega, by go_num, HE⟩
        case measure => simp [intOf]; omega
      · obtain rfl : k = n := by omega
        have e : ps.take k = ps := List.take_of_length_le (by rw [HLEN.out]; exact Nat.le_refl _)
        rw [e] at hst
        have HEND : Hid (∀ v' W, W.ownsRow (w.heap.size + 1) 5 1 v' 240 ((pageBk ⟨d, x, ps⟩).map (Value.int .u8)) → ∃ AA cc, v' = .slice AA 240 cc ∧ 240 ≤ cc ∧ RB W W.heap.size AA 240 (pageBk ⟨d, x, ps⟩)) := Lib.hid (fun v' W h => read_own h HPB.out)
        have hsb := hst.out.2.2.size
        have hbl3 := hst.out.2.1.cells.2.2.2
        obtain ⟨A3, k3, hu4, hk3⟩ := own_shape hst.out.1
        subst hu4
        by_cases hfull : 8 + szP ps = 240
        · have hrun := bkAppend_zero0 hst.out.1 (by omega) 22
          have HRUN := Lib.hid hrun
          have ho : wr.ownsRow (w.heap.size + 1) 5 1 (.slice A3 240 k3) 240 ((pageBk ⟨d, x, ps⟩).map (Value.int .u8)) := by
            have h1 := hst.out.1
            rw [hfull] at h1
            have e2 : pageBk ⟨d, x, ps⟩ = bkHeadL ⟨d, x, ps⟩ ++ pairsL ps := by
              unfold pageBk
              show _ ++ List.replicate (240 - (8 + szP ps)) 0 = _
              rw [hfull]
              simp
            rw [e2]
            exact h1
          have HO := Lib.hid ho
          have HBW := Lib.hid hst.out.2.2
          clear hrun ho e hst
          rw [hfull] at HRUN hk3 ⊢
          go_wp2_with (at_builtin; refine Lib.wpList_append_run _ rfl _ _ _ _ rfl _ _ rfl rfl _ _ HRUN.out ?_)
          go_ret2
          obtain ⟨A4, k4, e4, hk4, hr4⟩ := HEND.out _ _ HO.out
          cases e4
          exact ⟨A3, 240, k3, rfl, hk4, hr4, HBW.out⟩
        · obtain ⟨v7, w7, hrun, hown7, hg7⟩ := bkAppend_zeros (k := 240 - (8 + szP ps)) hst.out.1 (by omega) (by omega) (by omega) (by omega) 22
          rw [show 8 + szP ps + (240 - (8 + szP ps)) = 240 by omega] at hown7
          have ho : w7.ownsRow (w.heap.size + 1) 5 1 v7 240 ((pageBk ⟨d, x, ps⟩).map (Value.int .u8)) := hown7
          have hb7 := hst.out.2.2.grown hg7 hsb (fun g e => by have := (bkOwnAt hst.out.1 g e).1; omega)
          have HRUN := Lib.hid hrun
          have HO := Lib.hid ho
          have HB7 := Lib.hid hb7
          have hN : 8 + szP ps < 240 := by have := HSZ.out; omega
          clear hrun ho hown7 hg7 hb7 e hst
          generalize 8 + szP ps = N at HRUN hN hk3 ⊢
          have hw240 : IntKind.i64.wrap (240 - (N : Int)) = ((240 - N : Nat) : Int) := by
            rw [IntKind.wrap_i64]
            omega
          go_wp2_with (at_builtin; refine Lib.wpList_append_run _ rfl _ _ _ _ rfl _ _ rfl rfl _ _ HRUN.out ?_)
          go_ret2
          obtain ⟨A4, k4, rfl, hk4, hr4⟩ := HEND.out _ _ HO.out
          exact ⟨A4, 240, k4, rfl, hk4, hr4, HB7.out⟩
end Go.Proofs.Ythpgcdfbngngjaa
