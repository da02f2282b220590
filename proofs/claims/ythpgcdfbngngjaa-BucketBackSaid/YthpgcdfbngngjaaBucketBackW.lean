/-
  BucketBack by the walk: a bucket is read from its page; what is read has just this page. Condition: what came in is a bucket, and bytes.
-/
import Derived.Test.YthpgcdfbngngjaaBkU
namespace Go.Proofs.Ythpgcdfbngngjaa
open Go.RowKit
set_option maxRecDepth 100000
set_option linter.unusedVariables false

set_option maxHeartbeats 6400000 in
theorem bucketBack_any {w : World} {A A1 : Option Addr} {n c n1 c1 : Nat} (d x : Int) {ps : List KV} {l : List Int} (hr : RPairs w w.heap.size A n ps) (hm : n ≤ maxLen) (hd : -9223372036854775808 ≤ d ∧ d ≤ 9223372036854775807) (hx : -9223372036854775808 ≤ x ∧ x ≤ 9223372036854775807) (hrD : RB w w.heap.size A1 n1 l) (hcD : n1 ≤ c1) (hmD : n1 ≤ maxLen) :
    Calls Try.prog 7 #[.agg #[.int .i64 d, .int .i64 x, .slice A n c], .slice A1 n1 c1] w fun e w' => e = .returned (.bool true) ∧ Below w.heap.size w w' := by
  have hX : Below w.heap.size w (w.alloc (BkObj d x A n c)) := (Below.refl _ _).alloc (Nat.le_refl _) _
  have hbx := BkBox.new w d x A n c
  have HF := Lib.hid (bkFew_any c (hr.below hX) hm hX.size)
  have HX := Lib.hid hX
  have HBX := Lib.hid hbx
  obtain ⟨x0, x1, x2, _⟩ := hbx.cells
  have hmD' := hmD
  unfold maxLen at hmD'
  cases hfew : fewKV ps
  · rw [hfew] at HF
    clear hX hbx hr hrD hfew
    unfold BkObj at *
    go_enter Try.func7, Try.ntmps7
    go_wp2_with fail
    refine HF.out.mono ?_
    rintro e w1 ⟨rfl, hb1⟩
    have HB1 := Lib.hid (HX.out.trans (hb1.mono HX.out.size))
    clear hb1 x0 x1 x2
    go_wp2_with fail
    refine (bkAwake_any _).mono ?_
    rintro e w2 ⟨rfl, hb2⟩
    have HB2 := Lib.hid (HB1.out.trans (hb2.mono HB1.out.size))
    clear hb2
    go_wp2
    go_ret
    exact ⟨rfl, HB2.out⟩
  rw [hfew] at HF
  by_cases hbig : 1000 < n1
  · have k0 : decide ((n1 : Int) > 1000) = true := by simp; omega
    clear hX hbx hr hrD hfew
    unfold BkObj at *
    go_enter Try.func7, Try.ntmps7
    go_wp2_with fail
    refine HF.out.mono ?_
    rintro e w1 ⟨rfl, hb1⟩
    have HB1 := Lib.hid (HX.out.trans (hb1.mono HX.out.size))
    clear hb1 x0 x1 x2
    go_wp2_with fail
    refine (bkAwake_any _).mono ?_
    rintro e w2 ⟨rfl, hb2⟩
    have HB2 := Lib.hid (HB1.out.trans (hb2.mono HB1.out.size))
    clear hb2
    go_wp2
    go_ret
    exact ⟨rfl, HB2.out⟩
  have k0 : decide ((n1 : Int) > 1000) = false := by simp; omega
  obtain ⟨hlen60, hsz⟩ := fewKV_size hfew
  have HR := Lib.hid (show (∀ W : World, Below w.heap.size w W → RPairs W w.heap.size A n ps) from fun W hW => hr.below hW)
  have HPUT := Lib.hid (fun (W : World) (hW : Below w.heap.size w W) => bkPut_any d x c (hr.below hW) hW.size hm (by omega) hd hx)
  have HSAME := Lib.hid (fun (W : World) (BB : Nat) (AA : Option Addr) (cc : Nat) (hW : Below w.heap.size w W) (hB : w.heap.size ≤ BB) (hBW : BB ≤ W.heap.size) (h : RPairs W BB AA n ps) => lawSame_any d x d x c cc ((hr.below hW).more hB) h hBW hm hm)
  have HFEW := Lib.hid (readBk_few l)
  have HINT := Lib.hid (readBk_int hrD.bytes)
  have HCASE : Hid ((parseBk l = (readBk l, 0) ∧ putBk (readBk l) = (l, 0)) ∨ parseBk l = (⟨0, 0, []⟩, 4)) := Lib.hid (by
    by_cases h : l.length = 240 ∧ mayBk (readBk l) = true ∧ pageBk (readBk l) = l
    · have h1 := parseBk_yes h.1 h.2.1 h.2.2
      exact .inl ⟨h1, parse_back h1⟩
    · exact .inr (parseBk_no h))
  have HN := Lib.hid hr.len
  have hrD := Lib.hid hrD
  clear hX hbx hr hfew
  unfold BkObj at *
  go_enter Try.func7, Try.ntmps7
  go_wp2_with fail
  refine HF.out.mono ?_
  rintro e w1 ⟨rfl, hb1⟩
  have HB1 := Lib.hid (And.intro (HX.out.trans (hb1.mono HX.out.size)) (HBX.out.below hb1))
  have HP := Lib.hid (HPUT.out _ HB1.out.1)
  clear hb1 x0 x1 x2 HF HPUT HX HBX
  obtain ⟨x0, x1, x2, _⟩ := HB1.out.2.cells
  go_wp2_with fail
  refine HP.out.mono ?_
  by_cases hmay : mayBk ⟨d, x, ps⟩ = true
  · rw [show putBk ⟨d, x, ps⟩ = (pageBk ⟨d, x, ps⟩, 0) by unfold putBk; rw [if_pos hmay]]
    rintro e w2 ⟨A2, n2, c2, rfl, hc2, hr2, hb2⟩
    have hr2 : RB w2 w2.heap.size A2 n2 (pageBk ⟨d, x, ps⟩) := hr2
    obtain rfl : n2 = 240 := by rw [← hr2.len]; exact pageBk_length (mayBk_few hmay).1
    have HB2 := Lib.hid (And.intro (HB1.out.1.trans (hb2.mono HB1.out.1.size)) (HB1.out.2.below hb2))
    have HPA := Lib.hid (bkParse_any hr2 (Nat.le_refl _) hc2 (by decide))
    rw [show parseBk (pageBk ⟨d, x, ps⟩) = ((⟨d, x, ps⟩ : BV), 0) from parse_page hmay] at HPA
    clear hr2 hb2 x0 x1 x2 HB1 HP
    go_wp2_with fail
    refine HPA.out.mono ?_
    rintro e w3 ⟨A3, n3, c3, rfl, hc3, hr3, hb3⟩
    have hr3 : RPairs w3 w3.heap.size A3 n3 ps := hr3
    obtain rfl : n3 = n := by rw [← hr3.len]; exact HN.out
    have hX3 : Below w3.heap.size w3 (w3.alloc (BkObj d x A3 n3 c3)) := (Below.refl _ _).alloc (Nat.le_refl _) _
    have hb3X := hb3.trans (hX3.mono hb3.size)
    have HB3 := Lib.hid (And.intro (HB2.out.1.trans (hb3X.mono HB2.out.1.size)) (HB2.out.2.below hb3X))
    have HSM := Lib.hid (HSAME.out _ w3.heap.size A3 c3 HB3.out.1 (Nat.le_trans HB2.out.1.size hb3.size) hX3.size (hr3.below hX3))
    rw [sameBk_self] at HSM
    obtain ⟨x0, x1, x2, _⟩ := HB3.out.2.cells
    obtain ⟨y0, y1, y2, _⟩ := (BkBox.new w3 d x A3 n3 c3).cells
    clear hr3 hb3 hX3 hb3X HB2 HPA
    unfold BkObj at *
    go_wp2_with fail
    refine HSM.out.mono ?_
    rintro e w4 ⟨rfl, hb4⟩
    have HB4 := Lib.hid (HB3.out.1.trans (hb4.mono HB3.out.1.size))
    clear hb4 x0 x1 x2 y0 y1 y2 HSM HB3
    have HQ := Lib.hid (bkParse_any (hrD.out.below HB4.out) HB4.out.size hcD hmD)
    rcases HCASE.out with ⟨hp1, hp2⟩ | hp1
    · rw [hp1] at HQ
      go_wp2_with fail
      refine HQ.out.mono ?_
      rintro e w7 ⟨A7, n7, c7, rfl, hc7, hr7, hb7⟩
      have hr7 : RPairs w7 w7.heap.size A7 n7 (readBk l).ps := hr7
      have hX7 : Below w7.heap.size w7 (w7.alloc (BkObj (readBk l).d (readBk l).x A7 n7 c7)) := (Below.refl _ _).alloc (Nat.le_refl _) _
      have HB7 := Lib.hid (HB4.out.trans ((hb7.trans (hX7.mono hb7.size)).mono HB4.out.size))
      have hn7 : n7 ≤ 116 := by rw [← hr7.len]; exact HFEW.out.2
      have HP7 := Lib.hid (bkPut_any (readBk l).d (readBk l).x c7 (hr7.below hX7) hX7.size (by unfold maxLen; omega) (by have := HFEW.out.1; omega) HINT.out.1 HINT.out.2)
      rw [show putBk ⟨(readBk l).d, (readBk l).x, (readBk l).ps⟩ = (l, 0) from hp2] at HP7
      obtain ⟨u0, u1, u2, _⟩ := (BkBox.new w7 (readBk l).d (readBk l).x A7 n7 c7).cells
      clear hr7 hb7 hX7 hp1 hp2 HQ
      generalize readBk l = R at *
      obtain ⟨D, X, PS⟩ := R
      unfold BkObj at *
      go_wp2_with fail
      refine HP7.out.mono ?_
      rintro e w8 ⟨A8, n8, c8, rfl, hc8, hr8, hb8⟩
      have hr8 : RB w8 w8.heap.size A8 n8 l := hr8
      have hb08 := HB7.out.trans (hb8.mono HB7.out.size)
      have HE := Lib.hid (Equal_any c8 c1 hr8 (hrD.out.below hb08))
      rw [decide_eq_true rfl] at HE
      have HB8 := Lib.hid hb08
      clear u0 u1 u2 hr8 hb8 hb08 HP7
      go_wp2_with fail
      refine HE.out.mono ?_
      rintro e w9 ⟨rfl, rfl⟩
      go_wp2_with fail
      refine (bkAwake_any _).mono ?_
      rintro e w10 ⟨rfl, hb10⟩
      have HB10 := Lib.hid (HB8.out.trans (hb10.mono HB8.out.size))
      clear hb10
      go_wp2
      go_ret
      exact ⟨rfl, HB10.out⟩
    · rw [hp1] at HQ
      go_wp2_with fail
      refine HQ.out.mono ?_
      rintro e w7 ⟨A7, n7, c7, rfl, hc7, hr7, hb7⟩
      have hr7 : RPairs w7 w7.heap.size A7 n7 [] := hr7
      obtain rfl : n7 = 0 := hr7.len.symm
      have hX7 : Below w7.heap.size w7 (w7.alloc (BkObj 0 0 A7 0 c7)) := (Below.refl _ _).alloc (Nat.le_refl _) _
      have HB7 := Lib.hid (HB4.out.trans ((hb7.trans (hX7.mono hb7.size)).mono HB4.out.size))
      have HS7 := Lib.hid (lawSame_any 0 0 0 0 c7 0 (hr7.below hX7) (RPairs.nil_ (A := none)) hX7.size (Nat.zero_le _) (Nat.zero_le _))
      rw [sameBk_self] at HS7
      obtain ⟨u0, u1, u2, _⟩ := (BkBox.new w7 0 0 A7 0 c7).cells
      clear hr7 hb7 hX7 hp1 HQ
      unfold BkObj at *
      go_wp2_with fail
      refine HS7.out.mono ?_
      rintro e w8 ⟨rfl, hb8⟩
      have HB8 := Lib.hid (HB7.out.trans (hb8.mono HB7.out.size))
      clear u0 u1 u2 hb8 HS7
      go_wp2_with fail
      refine (bkAwake_any _).mono ?_
      rintro e w10 ⟨rfl, hb10⟩
      have HB10 := Lib.hid (HB8.out.trans (hb10.mono HB8.out.size))
      clear hb10
      go_wp2
      go_ret
      exact ⟨rfl, HB10.out⟩
  · rw [show putBk ⟨d, x, ps⟩ = ([], 1) by unfold putBk; rw [if_neg hmay]]
    rintro e w2 ⟨A2, n2, c2, rfl, hc2, hr2, hb2⟩
    have HB4 := Lib.hid (HB1.out.1.trans (hb2.mono HB1.out.1.size))
    clear hr2 hb2 x0 x1 x2 HB1 HP
    have HQ := Lib.hid (bkParse_any (hrD.out.below HB4.out) HB4.out.size hcD hmD)
    rcases HCASE.out with ⟨hp1, hp2⟩ | hp1
    · rw [hp1] at HQ
      go_wp2_with fail
      refine HQ.out.mono ?_
      rintro e w7 ⟨A7, n7, c7, rfl, hc7, hr7, hb7⟩
      have hr7 : RPairs w7 w7.heap.size A7 n7 (readBk l).ps := hr7
      have hX7 : Below w7.heap.size w7 (w7.alloc (BkObj (readBk l).d (readBk l).x A7 n7 c7)) := (Below.refl _ _).alloc (Nat.le_refl _) _
      have HB7 := Lib.hid (HB4.out.trans ((hb7.trans (hX7.mono hb7.size)).mono HB4.out.size))
      have hn7 : n7 ≤ 116 := by rw [← hr7.len]; exact HFEW.out.2
      have HP7 := Lib.hid (bkPut_any (readBk l).d (readBk l).x c7 (hr7.below hX7) hX7.size (by unfold maxLen; omega) (by have := HFEW.out.1; omega) HINT.out.1 HINT.out.2)
      rw [show putBk ⟨(readBk l).d, (readBk l).x, (readBk l).ps⟩ = (l, 0) from hp2] at HP7
      obtain ⟨u0, u1, u2, _⟩ := (BkBox.new w7 (readBk l).d (readBk l).x A7 n7 c7).cells
      clear hr7 hb7 hX7 hp1 hp2 HQ
      generalize readBk l = R at *
      obtain ⟨D, X, PS⟩ := R
      unfold BkObj at *
      go_wp2_with fail
      refine HP7.out.mono ?_
      rintro e w8 ⟨A8, n8, c8, rfl, hc8, hr8, hb8⟩
      have hr8 : RB w8 w8.heap.size A8 n8 l := hr8
      have hb08 := HB7.out.trans (hb8.mono HB7.out.size)
      have HE := Lib.hid (Equal_any c8 c1 hr8 (hrD.out.below hb08))
      rw [decide_eq_true rfl] at HE
      have HB8 := Lib.hid hb08
      clear u0 u1 u2 hr8 hb8 hb08 HP7
      go_wp2_with fail
      refine HE.out.mono ?_
      rintro e w9 ⟨rfl, rfl⟩
      go_wp2_with fail
      refine (bkAwake_any _).mono ?_
      rintro e w10 ⟨rfl, hb10⟩
      have HB10 := Lib.hid (HB8.out.trans (hb10.mono HB8.out.size))
      clear hb10
      go_wp2
      go_ret
      exact ⟨rfl, HB10.out⟩
    · rw [hp1] at HQ
      go_wp2_with fail
      refine HQ.out.mono ?_
      rintro e w7 ⟨A7, n7, c7, rfl, hc7, hr7, hb7⟩
      have hr7 : RPairs w7 w7.heap.size A7 n7 [] := hr7
      obtain rfl : n7 = 0 := hr7.len.symm
      have hX7 : Below w7.heap.size w7 (w7.alloc (BkObj 0 0 A7 0 c7)) := (Below.refl _ _).alloc (Nat.le_refl _) _
      have HB7 := Lib.hid (HB4.out.trans ((hb7.trans (hX7.mono hb7.size)).mono HB4.out.size))
      have HS7 := Lib.hid (lawSame_any 0 0 0 0 c7 0 (hr7.below hX7) (RPairs.nil_ (A := none)) hX7.size (Nat.zero_le _) (Nat.zero_le _))
      rw [sameBk_self] at HS7
      obtain ⟨u0, u1, u2, _⟩ := (BkBox.new w7 0 0 A7 0 c7).cells
      clear hr7 hb7 hX7 hp1 HQ
      unfold BkObj at *
      go_wp2_with fail
      refine HS7.out.mono ?_
      rintro e w8 ⟨rfl, hb8⟩
      have HB8 := Lib.hid (HB7.out.trans (hb8.mono HB7.out.size))
      clear u0 u1 u2 hb8 HS7
      go_wp2_with fail
      refine (bkAwake_any _).mono ?_
      rintro e w10 ⟨rfl, hb10⟩
      have HB10 := Lib.hid (HB8.out.trans (hb10.mono HB8.out.size))
      clear hb10
      go_wp2
      go_ret
      exact ⟨rfl, HB10.out⟩
end Go.Proofs.Ythpgcdfbngngjaa
