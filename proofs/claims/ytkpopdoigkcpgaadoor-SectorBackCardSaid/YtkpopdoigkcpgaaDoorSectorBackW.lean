/-
  The walks of the statement on sectors there and back: a page that is packed, or refused; a byte that is changed; bytes that are a sector, or not. Condition: the table that crc.Step reads holds what the program's text lays in it.
-/
import Derived.Test.YtkpopdoigkcpgaaDoorSecDev
import Derived.Test.YtkpopdoigkcpgaaDoorCrcChangesP
namespace Go.Proofs.YtkpopdoigkcpgaaDoor
open Go.RowKit
set_option linter.unusedVariables false

set_option maxHeartbeats 3200000 in
theorem back_refused (A2 : Option Addr) (n2 c2 : Nat) (l2 : List Int) (A3 : Option Addr) (n3 c3 : Nat) (l3 : List Int) (p s : Int) (at_ by_ : Nat) (w : World) (hr2 : RB w w.heap.size A2 n2 l2) (hr3 : RB w w.heap.size A3 n3 l3) (hc2 : n2 ≤ c2) (hc3 : n3 ≤ c3) (hm2 : n2 ≤ 1000) (hm3 : n3 ≤ 1000) (hat : at_ < 256) (hby256 : by_ < 256) (ht : Tab w) (hg : 0 < w.heap.size) (h : packR p s l2 = ([], 1)) :
    Calls Tryd.prog 5 #[.int .i64 p, .int .i64 s, .slice A2 n2 c2, .slice A3 n3 c3, .int .u8 (at_ : Int), .int .u8 (by_ : Int)] w fun e w' => e = .returned (.bool true) ∧ Below w.heap.size w w' := by
  have k0 : decide ((n2 : Int) > 1000) = false := by simp; omega
  have k1 : decide ((n3 : Int) > 1000) = false := by simp; omega
  have ht0 := Lib.hid ht
  have HPK := Lib.hid h
  clear h
  · go_enter Tryd.func5, Tryd.ntmps5
    go_wp2_with fail
    refine (pack_said _ _ _ _ _ _ _ _ hr2 (Nat.le_refl _) hc2 (by omega) ht hg).mono ?_
    rw [HPK.out]
    rintro e w1 ⟨v1, rfl, hown1, hb1⟩
    have HB := Lib.hid hb1
    have HT := Lib.hid (ht.below hb1 hg)
    clear hown1 hb1 ht

    go_wp2_with fail
    refine (unpack_said _ _ _ _ _ _ (hr3.below HB.out) HB.out.size hc3 (by omega) HT.out (Nat.lt_of_lt_of_le hg HB.out.size)).mono ?_
    by_cases hsec : isSec l3
    · have hup : unpackR l3 = (numOf ((l3.drop 4).take 4), numOf ((l3.drop 8).take 8), l3.drop 16, 0) := by unfold unpackR; rw [if_pos hsec]
      rw [hup]
      rintro e wz ⟨Az, nz, cz, rfl, hcz, hrz, hbz⟩
      have HBz := Lib.hid (HB.out.trans (hbz.mono HB.out.size))
      have HTz := Lib.hid (ht0.out.below HBz.out hg)
      have hpk : packR (numOf ((l3.drop 4).take 4)) (numOf ((l3.drop 8).take 8)) (l3.drop 16) = (l3, 0) := by
        unfold packR
        rw [if_pos ⟨hsec.2.2, by rw [List.length_drop, hsec.1]⟩, pack_unpack hr3.bytes hsec]
      have HPK := Lib.hid hpk
      have hnz : nz = 240 := by
        have := hrz.len
        rw [← this]
        show (l3.drop 16).length = 240
        rw [List.length_drop, hsec.1]
      subst hnz
      have hrz' : RB wz wz.heap.size Az 240 (l3.drop 16) := hrz
      clear hup hpk hsec hrz
      go_wp2_with fail
      refine (pack_said _ _ _ _ _ _ _ _ hrz' (Nat.le_refl _) hcz (by decide) HTz.out (Nat.lt_of_lt_of_le hg HBz.out.size)).mono ?_
      rw [HPK.out]
      rintro e wy ⟨vy, rfl, howny, hby⟩
      obtain ⟨Ay, cy, rfl, hcy, hry⟩ := read_own howny hr3.bytes
      have HBy := Lib.hid (HBz.out.trans (hby.mono HBz.out.size))
      have HTy := Lib.hid (ht0.out.below HBy.out hg)
      clear howny hrz'
      go_wp2_with fail
      refine (Equal_any _ _ hry (hr3.below HBy.out)).mono ?_
      rw [decide_eq_true (rfl : l3 = l3)]
      rintro e wx ⟨rfl, rfl⟩
      clear hry
      go_wp2_with (go_at_call 6; refine (secAwake_any pack_said unpack_said _ HTy.out (Nat.lt_of_lt_of_le hg HBy.out.size)).mono ?_; rintro e w' ⟨rfl, hb⟩)
      go_ret
      exact ⟨rfl, HBy.out.trans (hb.mono HBy.out.size)⟩
    · have hup : unpackR l3 = (0, 0, [], 4) := by unfold unpackR; rw [if_neg hsec]
      rw [hup]
      rintro e wz ⟨Az, nz, cz, rfl, hcz, hrz, hbz⟩
      have HBz := Lib.hid (HB.out.trans (hbz.mono HB.out.size))
      have HTz := Lib.hid (ht0.out.below HBz.out hg)
      obtain rfl : nz = 0 := hrz.len.symm
      clear hrz hup hsec
      go_wp2_with (go_at_call 6; refine (secAwake_any pack_said unpack_said _ HTz.out (Nat.lt_of_lt_of_le hg HBz.out.size)).mono ?_; rintro e w' ⟨rfl, hb⟩)
      go_ret
      exact ⟨rfl, HBz.out.trans (hb.mono HBz.out.size)⟩

set_option maxHeartbeats 6400000 in
theorem back_packed (A2 : Option Addr) (n2 c2 : Nat) (l2 : List Int) (A3 : Option Addr) (n3 c3 : Nat) (l3 : List Int) (p s : Int) (at_ by_ : Nat) (w : World) (hr2 : RB w w.heap.size A2 n2 l2) (hr3 : RB w w.heap.size A3 n3 l3) (hc2 : n2 ≤ c2) (hc3 : n3 ≤ c3) (hm2 : n2 ≤ 1000) (hm3 : n3 ≤ 1000) (hat : at_ < 256) (hby256 : by_ < 256) (ht : Tab w) (hg : 0 < w.heap.size) (hs : secR p s = true) (hn : n2 = 240) :
    Calls Tryd.prog 5 #[.int .i64 p, .int .i64 s, .slice A2 n2 c2, .slice A3 n3 c3, .int .u8 (at_ : Int), .int .u8 (by_ : Int)] w fun e w' => e = .returned (.bool true) ∧ Below w.heap.size w w' := by
  have k0 : decide ((n2 : Int) > 1000) = false := by simp; omega
  have k1 : decide ((n3 : Int) > 1000) = false := by simp; omega
  subst hn
  have ht0 := Lib.hid ht
  have hl2 := hr2.len
  have hpk : packR p s l2 = (secL p s l2, 0) := by unfold packR; rw [if_pos ⟨hs, hl2⟩]
  have hisx := secL_isSec hr2.bytes hs hl2
  have hlx : (secL p s l2).length = 256 := hisx.1
  have hbx := secL_bytes p s hr2.bytes
  obtain ⟨y, hy256, hy, hxor, hset⟩ : ∃ y : Nat, y < 256 ∧ (secL p s l2)[at_]? = some (y : Int) ∧ bits .xor .u8 (y : Int) (by_ : Int) = ((y ^^^ by_ : Nat) : Int) ∧ AllBytes ((secL p s l2).set at_ ((y ^^^ by_ : Nat) : Int)) := by
    obtain ⟨h0, h1⟩ := hbx _ (List.getElem_mem (show at_ < (secL p s l2).length by omega))
    obtain ⟨y, hy⟩ := Int.eq_ofNat_of_zero_le h0
    have hy256 : y < 256 := by omega
    have hx : y ^^^ by_ < 256 := Nat.xor_lt_two_pow (n := 8) hy256 hby256
    exact ⟨y, hy256, by rw [List.getElem?_eq_getElem (show at_ < (secL p s l2).length by omega), hy], u8_xor y by_ hy256 hby256, set_bytes hbx at_ (by omega)⟩
  have HPK := Lib.hid hpk
  have HUP := Lib.hid (unpack_pack hr2.bytes hs hl2)
  have hgx : by_ ≠ 0 → unpackR ((secL p s l2).set at_ ((y ^^^ by_ : Nat) : Int)) = (0, 0, [], 4) := by
    intro hne
    have hx : y ^^^ by_ < 256 := Nat.xor_lt_two_pow (n := 8) hy256 hby256
    refine unpack_changed hbx hisx (show at_ < (secL p s l2).length by omega) (by omega) ?_
    intro e
    rw [List.getElem?_eq_getElem (show at_ < (secL p s l2).length by omega), e] at hy
    have e1 : y ^^^ by_ = y := by have := Option.some.inj hy; omega
    have e3 : y ^^^ by_ = y ^^^ 0 := by rw [Nat.xor_zero]; exact e1
    exact hne (xor_left_inj e3)
  have HGX := Lib.hid hgx
  have HY := Lib.hid hy
  have HLX := Lib.hid hlx
  have HSET := Lib.hid hset
  clear hpk hisx hlx hgx hy hset hs
  · go_enter Tryd.func5, Tryd.ntmps5
    go_wp2_with fail
    refine (pack_said _ _ _ _ _ _ _ _ hr2 (Nat.le_refl _) hc2 (by omega) ht hg).mono ?_
    rw [HPK.out]
    rintro e w1 ⟨v1, rfl, hown1, hb1⟩
    have hown1' : w1.ownsRow w.heap.size 5 1 v1 (secL p s l2).length ((secL p s l2).map (Value.int .u8)) := hown1
    rw [HLX.out] at hown1'
    obtain ⟨g1, c1, rfl, hgB, hc1⟩ := own_head hown1' (by decide)
    have hr1 := RB.of_own hown1' hbx
    have hcl := own_cell hown1' at_ hat HY.out
    have hfz := hown1'.frozenAt at_
    have HO := Lib.hid hown1'
    have HB1 := Lib.hid hb1
    have HT1 := Lib.hid (ht.below hb1 hg)
    clear hown1 hown1' hb1 ht
    go_wp2_with fail
    refine (unpack_said _ _ _ _ _ _ hr1 (Nat.le_refl _) hc1 (by decide) HT1.out (Nat.lt_of_lt_of_le hg HB1.out.size)).mono ?_
    rw [HUP.out]
    rintro e w2 ⟨A4, n4, c4, rfl, hc4, hr4, hb2⟩
    have HB2 := Lib.hid (HB1.out.trans (hb2.mono HB1.out.size))
    have hg1 : g1 < w1.heap.size := World.block_lt_of_cell? _ _ hcl
    have hO2 := own_later HO.out hb2
    have hcl2 := own_cell hO2 at_ hat HY.out
    have hfz2 := hO2.frozenAt at_
    have HO2 := Lib.hid hO2
    have HN4 := Lib.hid (show n4 = 240 from hr4.len.symm.trans hl2)
    clear hcl hfz hr1 hb2 hO2
    go_wp2_with fail
    refine (Equal_any _ _ hr4 (hr2.below HB2.out)).mono ?_
    rw [decide_eq_true (rfl : ((p, s, l2, (0 : Int)) : Int × Int × List Int × Int).2.2.1 = l2)]
    rintro e w3 ⟨rfl, rfl⟩
    clear hr4
    have hai : ((at_ : Int)) < 256 := by omega
    go_wp2_with fail
    have hr5 := RB.of_own (own_set HO2.out at_ ((y ^^^ by_ : Nat) : Int)) HSET.out
    have HB3 := Lib.hid (HB2.out.setCell (p := ⟨g1, at_, none⟩) hgB (.int .u8 ((y ^^^ by_ : Nat) : Int)))
    have HT3 := Lib.hid (ht0.out.below HB3.out hg)
    clear hcl2 hfz2
    refine (unpack_said _ _ _ _ _ _ hr5 (Nat.le_refl _) hc1 (by decide) HT3.out (Nat.lt_of_lt_of_le hg HB3.out.size)).mono ?_
    clear hr5
    by_cases hz : by_ = 0
    · subst hz
      generalize unpackR ((secL p s l2).set at_ ((y ^^^ 0 : Nat) : Int)) = r
      obtain ⟨r1, r2, r3, r4⟩ := r
      rintro e w5 ⟨A5, n5, c5, rfl, hc5, hr5, hb5⟩
      have HB := Lib.hid (HB3.out.trans (hb5.mono HB3.out.size))
      have HT := Lib.hid (ht0.out.below HB.out hg)
      clear hr5 hb5
      go_wp2_with fail
      refine (unpack_said _ _ _ _ _ _ (hr3.below HB.out) HB.out.size hc3 (by omega) HT.out (Nat.lt_of_lt_of_le hg HB.out.size)).mono ?_
      by_cases hsec : isSec l3
      · have hup : unpackR l3 = (numOf ((l3.drop 4).take 4), numOf ((l3.drop 8).take 8), l3.drop 16, 0) := by unfold unpackR; rw [if_pos hsec]
        rw [hup]
        rintro e wz ⟨Az, nz, cz, rfl, hcz, hrz, hbz⟩
        have HBz := Lib.hid (HB.out.trans (hbz.mono HB.out.size))
        have HTz := Lib.hid (ht0.out.below HBz.out hg)
        have hpk : packR (numOf ((l3.drop 4).take 4)) (numOf ((l3.drop 8).take 8)) (l3.drop 16) = (l3, 0) := by
          unfold packR
          rw [if_pos ⟨hsec.2.2, by rw [List.length_drop, hsec.1]⟩, pack_unpack hr3.bytes hsec]
        have HPK := Lib.hid hpk
        have hnz : nz = 240 := by
          have := hrz.len
          rw [← this]
          show (l3.drop 16).length = 240
          rw [List.length_drop, hsec.1]
        subst hnz
        have hrz' : RB wz wz.heap.size Az 240 (l3.drop 16) := hrz
        clear hup hpk hsec hrz
        go_wp2_with fail
        refine (pack_said _ _ _ _ _ _ _ _ hrz' (Nat.le_refl _) hcz (by decide) HTz.out (Nat.lt_of_lt_of_le hg HBz.out.size)).mono ?_
        rw [HPK.out]
        rintro e wy ⟨vy, rfl, howny, hby⟩
        obtain ⟨Ay, cy, rfl, hcy, hry⟩ := read_own howny hr3.bytes
        have HBy := Lib.hid (HBz.out.trans (hby.mono HBz.out.size))
        have HTy := Lib.hid (ht0.out.below HBy.out hg)
        clear howny hrz'
        go_wp2_with fail
        refine (Equal_any _ _ hry (hr3.below HBy.out)).mono ?_
        rw [decide_eq_true (rfl : l3 = l3)]
        rintro e wx ⟨rfl, rfl⟩
        clear hry
        go_wp2_with (go_at_call 6; refine (secAwake_any pack_said unpack_said _ HTy.out (Nat.lt_of_lt_of_le hg HBy.out.size)).mono ?_; rintro e w' ⟨rfl, hb⟩)
        go_ret
        exact ⟨rfl, HBy.out.trans (hb.mono HBy.out.size)⟩
      · have hup : unpackR l3 = (0, 0, [], 4) := by unfold unpackR; rw [if_neg hsec]
        rw [hup]
        rintro e wz ⟨Az, nz, cz, rfl, hcz, hrz, hbz⟩
        have HBz := Lib.hid (HB.out.trans (hbz.mono HB.out.size))
        have HTz := Lib.hid (ht0.out.below HBz.out hg)
        obtain rfl : nz = 0 := hrz.len.symm
        clear hrz hup hsec
        go_wp2_with (go_at_call 6; refine (secAwake_any pack_said unpack_said _ HTz.out (Nat.lt_of_lt_of_le hg HBz.out.size)).mono ?_; rintro e w' ⟨rfl, hb⟩)
        go_ret
        exact ⟨rfl, HBz.out.trans (hb.mono HBz.out.size)⟩

    · have k2 : ((by_ : Int) != 0) = true := by simp; omega
      rw [HGX.out hz]
      rintro e w5 ⟨A5, n5, c5, rfl, hc5, hr5, hb5⟩
      have HB := Lib.hid (HB3.out.trans (hb5.mono HB3.out.size))
      have HT := Lib.hid (ht0.out.below HB.out hg)
      clear hr5 hb5 hz
      go_wp2_with fail
      refine (unpack_said _ _ _ _ _ _ (hr3.below HB.out) HB.out.size hc3 (by omega) HT.out (Nat.lt_of_lt_of_le hg HB.out.size)).mono ?_
      by_cases hsec : isSec l3
      · have hup : unpackR l3 = (numOf ((l3.drop 4).take 4), numOf ((l3.drop 8).take 8), l3.drop 16, 0) := by unfold unpackR; rw [if_pos hsec]
        rw [hup]
        rintro e wz ⟨Az, nz, cz, rfl, hcz, hrz, hbz⟩
        have HBz := Lib.hid (HB.out.trans (hbz.mono HB.out.size))
        have HTz := Lib.hid (ht0.out.below HBz.out hg)
        have hpk : packR (numOf ((l3.drop 4).take 4)) (numOf ((l3.drop 8).take 8)) (l3.drop 16) = (l3, 0) := by
          unfold packR
          rw [if_pos ⟨hsec.2.2, by rw [List.length_drop, hsec.1]⟩, pack_unpack hr3.bytes hsec]
        have HPK := Lib.hid hpk
        have hnz : nz = 240 := by
          have := hrz.len
          rw [← this]
          show (l3.drop 16).length = 240
          rw [List.length_drop, hsec.1]
        subst hnz
        have hrz' : RB wz wz.heap.size Az 240 (l3.drop 16) := hrz
        clear hup hpk hsec hrz
        go_wp2_with fail
        refine (pack_said _ _ _ _ _ _ _ _ hrz' (Nat.le_refl _) hcz (by decide) HTz.out (Nat.lt_of_lt_of_le hg HBz.out.size)).mono ?_
        rw [HPK.out]
        rintro e wy ⟨vy, rfl, howny, hby⟩
        obtain ⟨Ay, cy, rfl, hcy, hry⟩ := read_own howny hr3.bytes
        have HBy := Lib.hid (HBz.out.trans (hby.mono HBz.out.size))
        have HTy := Lib.hid (ht0.out.below HBy.out hg)
        clear howny hrz'
        go_wp2_with fail
        refine (Equal_any _ _ hry (hr3.below HBy.out)).mono ?_
        rw [decide_eq_true (rfl : l3 = l3)]
        rintro e wx ⟨rfl, rfl⟩
        clear hry
        go_wp2_with (go_at_call 6; refine (secAwake_any pack_said unpack_said _ HTy.out (Nat.lt_of_lt_of_le hg HBy.out.size)).mono ?_; rintro e w' ⟨rfl, hb⟩)
        go_ret
        exact ⟨rfl, HBy.out.trans (hb.mono HBy.out.size)⟩
      · have hup : unpackR l3 = (0, 0, [], 4) := by unfold unpackR; rw [if_neg hsec]
        rw [hup]
        rintro e wz ⟨Az, nz, cz, rfl, hcz, hrz, hbz⟩
        have HBz := Lib.hid (HB.out.trans (hbz.mono HB.out.size))
        have HTz := Lib.hid (ht0.out.below HBz.out hg)
        obtain rfl : nz = 0 := hrz.len.symm
        clear hrz hup hsec
        go_wp2_with (go_at_call 6; refine (secAwake_any pack_said unpack_said _ HTz.out (Nat.lt_of_lt_of_le hg HBz.out.size)).mono ?_; rintro e w' ⟨rfl, hb⟩)
        go_ret
        exact ⟨rfl, HBz.out.trans (hb.mono HBz.out.size)⟩


end Go.Proofs.YtkpopdoigkcpgaaDoor
