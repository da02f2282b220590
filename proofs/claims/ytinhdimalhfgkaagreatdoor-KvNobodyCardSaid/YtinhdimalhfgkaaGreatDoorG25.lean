/-
  The texts Own joined. Conditions: those that each part says at its head.
-/
import Derived.Test.YtinhdimalhfgkaaGreatDoorG18
import Derived.Test.YtinhdimalhfgkaaGreatDoorG12

/-
  Unpack of a sector, Load of a log and Get of a pager once more: the bytes that they answer are new ones. Conditions: the table that crc.Step reads holds what the program's text lays in it; numbers are ints.
-/
namespace Go.Proofs.YtinhdimalhfgkaaGreatDoor
open Go.RowKit
set_option maxRecDepth 100000
set_option linter.unusedVariables false

/-- New bytes, from block base on. -/
def Mine (w' : World) (base : Nat) (A : Option Addr) (n c : Nat) (l : List Int) : Prop := w'.ownsRow base 5 1 (.slice A n c) n (l.map (Value.int .u8)) ∧ AllBytes l
section
variable {w w' : World} {base base' n c : Nat} {A : Option Addr} {l : List Int}
theorem Mine.rb (h : Mine w base A n c l) : RB w w.heap.size A n l := RB.of_own h.1 h.2
theorem Mine.nil_ (w : World) (base : Nat) : Mine w base none 0 0 [] := ⟨⟨rfl, .inl ⟨rfl, rfl⟩⟩, AllBytes.nil⟩
theorem Mine.base_le (h : Mine w base A n c l) (hb : base' ≤ base) : Mine w base' A n c l := ⟨own_base_le h.1 hb, h.2⟩
theorem Mine.made {g : Nat} (h : w.ownsRow base 5 1 (.slice (some ⟨g, 0, none⟩) n n) n (madeCells (Value.int .u8 0).cells (n * 1)).toList) : Mine w base (some ⟨g, 0, none⟩) n n (zeros n) := by
  refine ⟨?_, zeros_bytes n⟩
  rw [show (Value.int .u8 0).cells = #[Value.int .u8 0] from rfl, toList_madeCells_one, Nat.mul_one] at h
  rw [zeros, List.map_replicate]
  exact h
end
def UnpackOwn : Prop := ∀ (A : Option Addr) (n c B : Nat) (l : List Int) (w : World), RB w B A n l → B ≤ w.heap.size → n ≤ c → n ≤ 140737488355000 → Tab w → 1 < w.heap.size →
  Calls Tryz.prog 81 #[.slice A n c] w fun e w' => ∃ A' n' c', e = .returned (.tuple #[.int .i64 (unpackR l).1, .int .i64 (unpackR l).2.1, .slice A' n' c', .int .i64 (unpackR l).2.2.2]) ∧ n' ≤ c' ∧ Mine w' w.heap.size A' n' c' (unpackR l).2.2.1 ∧ Below w.heap.size w w'

set_option maxHeartbeats 8000000 in
theorem Unpack_256o (A : Option Addr) (c B : Nat) (l : List Int) (w : World) (hr : RB w B A 256 l) (hB : B ≤ w.heap.size) (hc : 256 ≤ c) (ht : Tab w) (hg : 1 < w.heap.size) :
    Calls Tryz.prog 81 #[.slice A 256 c] w fun e w' => ∃ A' n' c', e = .returned (.tuple #[.int .i64 (unpackR l).1, .int .i64 (unpackR l).2.1, .slice A' n' c', .int .i64 (unpackR l).2.2.2]) ∧ n' ≤ c' ∧ Mine w' w.heap.size A' n' c' (unpackR l).2.2.1 ∧ Below w.heap.size w w' := by
  have hl := hr.len
  obtain ⟨bd, hd⟩ : ∃ bd, bd = decide (l.take 4 = putB (sumOf (l.drop 4) : Int) 4) := ⟨_, rfl⟩
  have HD := Lib.hid hd
  clear hd
  obtain ⟨b, off, rfl, hb, hcell⟩ := hr.at_ (by omega)
  have hr0 : RB w B (some ⟨b, off, none⟩) 4 (l.take 4) := ⟨by simp; omega, hr.bytes.take 4, fun _ => ⟨b, off, rfl, hb, fun j hj => by rw [hcell j (by omega), List.getElem?_take, if_pos hj]⟩⟩
  have hr4 : RB w B (some ⟨b, off + 4, none⟩) 252 (l.drop 4) := hr.cut hcell 4 (by omega) hb
  have ht1 : Tab w.drew := ht
  have hr0d : RB w.drew B (some ⟨b, off, none⟩) 4 (l.take 4) := hr0.drew
  have hr4d : RB w.drew B (some ⟨b, off + 4, none⟩) 252 (l.drop 4) := hr4.drew
  have hBd : B ≤ w.drew.heap.size := hB
  have hBel := Lib.hid ((Below.refl w.heap.size w).drew)
  have hr16 : RB w B (some ⟨b, off + 16, none⟩) 240 (l.drop 16) := hr.cut hcell 16 (by omega) hb
  have HR := Lib.hid hr
  have HR16 := Lib.hid hr16
  have HST := Lib.hid (sum_stands hr.bytes hl)
  clear hcell hr0 hr4 hr ht hr16
  go_enter Tryz.func81, Tryz.ntmps81
  go_wp2_with fail
  go_cut [21] from 10 (fun c wx => c = .bool (!bd) ∧ Below w.heap.size w wx)
  case first =>
    have hc4 : ¬ (c = 4) := by omega
    go_region_with
      (first
        | (go_at_call 136; refine (sumOf_sl _ _ _ _ _ _ hr4d (by decide) ht1).mono ?_; rintro e w1 ⟨A1, c1, rfl, hr1, hb1⟩; have hr01 := hr0d.below (hb1.mono hBd); have hB1 := Nat.le_trans hBd hb1.size)
        | (go_at_call 135; refine (SEqual_any _ _ hr01 hr1 (by decide) (by decide) hB1 (Nat.le_refl _)).mono ?_; rw [← HD.out]; rintro e w2 ⟨rfl, hb2⟩; have hb02 := Lib.hid (hBel.out.trans (hb1.trans (hb2.mono hb1.size))); clear hb1 hb2 hr01 hr1))
    all_goals (go_wp2; go_meet; (case rel => exact ⟨rfl, hb02.out⟩))
  case rest =>
    obtain ⟨rfl, hbw⟩ := hcut
    have hrc := HR.out.below (hbw.mono hB)
    have hr16c := HR16.out.below (hbw.mono hB)
    have hBc := Nat.le_trans hB hbw.size
    have HBW := Lib.hid hbw
    clear hr0d hr4d ht1 hBd hBel hbw HR16
    cases bd
    · have hne : unpackR l = (0, 0, [], 4) := by
        unfold unpackR
        rw [if_neg]
        rintro ⟨_, h, _⟩
        exact absurd (HST.out.2 h) (of_decide_eq_false HD.out.symm)
      have HN := Lib.hid hne
      clear hne hrc hr16c
      go_wp2
      exact bodyPost_ret (v := .tuple #[.int .i64 0, .int .i64 0, .slice none 0 0, .int .i64 4]) (by simp [results, Tryz.results81, go_sem]) rfl (by rw [HN.out]; exact ⟨none, 0, 0, rfl, Nat.le_refl _, Mine.nil_ _ _, HBW.out⟩)
    · have hsum := HST.out.1 (of_decide_eq_true HD.out.symm)
      have G2 := Lib.hid (getR_at (l := l) 4 4 (by decide) (by omega))
      have G3 := Lib.hid (getR_at (l := l) 8 8 (by decide) (by omega))
      obtain ⟨sb, hsb⟩ : ∃ sb, sb = secR (numOf ((l.drop 4).take 4)) (numOf ((l.drop 8).take 8)) := ⟨_, rfl⟩
      have HS := Lib.hid hsb
      have hres : unpackR l = if sb = true then (numOf ((l.drop 4).take 4), numOf ((l.drop 8).take 8), l.drop 16, 0) else (0, 0, [], 4) := by
        unfold unpackR
        by_cases e : sb = true
        · rw [if_pos e, if_pos ⟨hl, hsum, by rw [← hsb]; exact e⟩]
        · rw [if_neg e, if_neg (fun h => e (by rw [hsb]; exact h.2.2))]
      clear hsb hsum HST HD HR
      cases sb
      · have HN := Lib.hid (hres.trans (if_neg (by decide)))
        clear hres
        go_wp2_with fail
        refine (Get_any _ _ _ _ _ 4 4 _ hrc hc (by decide)).mono ?_
        rw [show getR l 4 4 = (numOf ((l.drop 4).take 4), 0) from G2.out]
        rintro e w1 ⟨rfl, rfl⟩
        go_wp2_with fail
        refine (Get_any _ _ _ _ _ 8 8 _ hrc hc (by decide)).mono ?_
        rw [show getR l 8 8 = (numOf ((l.drop 8).take 8), 0) from G3.out]
        rintro e w1 ⟨rfl, rfl⟩
        go_wp2_with fail
        refine (secRight_said _ _ _).mono ?_
        rw [← HS.out]
        rintro e w1 ⟨rfl, rfl⟩
        go_wp2
        exact bodyPost_ret (v := .tuple #[.int .i64 0, .int .i64 0, .slice none 0 0, .int .i64 4]) (by simp [results, Tryz.results81, go_sem]) rfl (by rw [HN.out]; exact ⟨none, 0, 0, rfl, Nat.le_refl _, Mine.nil_ _ _, HBW.out⟩)
      · have HN := Lib.hid (hres.trans (if_pos rfl))
        clear hres
        go_wp2_with fail
        refine (Get_any _ _ _ _ _ 4 4 _ hrc hc (by decide)).mono ?_
        rw [show getR l 4 4 = (numOf ((l.drop 4).take 4), 0) from G2.out]
        rintro e w1 ⟨rfl, rfl⟩
        go_wp2_with fail
        refine (Get_any _ _ _ _ _ 8 8 _ hrc hc (by decide)).mono ?_
        rw [show getR l 8 8 = (numOf ((l.drop 8).take 8), 0) from G3.out]
        rintro e w1 ⟨rfl, rfl⟩
        go_wp2_with fail
        refine (secRight_said _ _ _).mono ?_
        rw [← HS.out]
        rintro e w1 ⟨rfl, rfl⟩
        go_wp2_with fail
        refine (CloneB_own _ hr16c hBc (by decide)).mono ?_
        rintro e w2 ⟨A2, c2, rfl, hc2, ho2, hb2⟩
        have hr2 : Mine w2 w.heap.size A2 240 c2 (l.drop 16) := ⟨own_base_le ho2 HBW.out.size, hr16c.bytes⟩
        clear ho2
        go_wp2
        exact bodyPost_ret (v := .tuple #[.int .i64 (numOf ((l.drop 4).take 4)), .int .i64 (numOf ((l.drop 8).take 8)), .slice A2 240 c2, .int .i64 0]) (by simp [results, Tryz.results81, go_sem]) rfl (by rw [HN.out]; exact ⟨A2, 240, c2, rfl, hc2, hr2, HBW.out.trans (hb2.mono HBW.out.size)⟩)

theorem unpack_own : UnpackOwn := by
  intro A n c B l w hr hB hc hn ht hg
  by_cases h : n = 256
  · subst h
    exact Unpack_256o A c B l w hr hB hc ht hg
  · refine (Unpack_len A n c w (by unfold maxLen; omega) h).mono ?_
    have hne : unpackR l = (0, 0, [], 4) := by
      unfold unpackR
      rw [if_neg]
      rintro ⟨h', _⟩
      exact h (by rw [← hr.len]; exact h')
    rw [hne]
    rintro e w' ⟨rfl, hb⟩
    exact ⟨none, 0, 0, rfl, Nat.le_refl _, Mine.nil_ _ _, hb⟩

section
variable {D : World → (Nat → Prop) → Addr → DS → Prop} {w w' : World} {F O : Nat → Prop} {p : Addr} {S : DS} {q r b : Nat} {seq : Int} {L : List (Int × List Int)}
set_option maxHeartbeats 1600000 in
theorem load_own (api : DiskApi D) (h : D w F p S) (hq : PLog w q p seq) (ht : TabF w F) (pg : Int) (hpg : -9223372036854775808 ≤ pg ∧ pg ≤ 9223372036854775807) : Calls Tryz.prog 100 #[.pointer (some ⟨q, 0, none⟩), .int .i64 pg] w fun e w' => ∃ A n c, e = .returned (.tuple #[.slice A n c, .int .i64 (loadS S pg).2]) ∧ n ≤ c ∧ Mine w' w.heap.size A n c (loadS S pg).1 ∧ Below w.heap.size w w' := by
  obtain ⟨i0, hi, hz0, hz1, hz2⟩ := info_parts info_u8
  obtain ⟨l0, l1, l2, l3⟩ := hq.cells
  have hok := api.ok _ _ _ _ h
  have hsz := hok.size
  have hpb := pagesOf_bounds (S.n : Int)
  have hpn := (pagesOf_nn (S.n : Int)).2.1 (by omega)
  have hP : S.P = pagesOf S.n := rfl
  have HM := Lib.hid (made_any hq)
  have HS := Lib.hid (api.sizes _ _ _ _ h)
  have HT := Lib.hid ht
  have HUP := Lib.hid unpack_own
  have HHM := Lib.hid (fun w1 => lay_said.home (S.n : Int) pg w1 (by omega) hpg)
  have HRD := Lib.hid (fun w1 (hb : Below w.heap.size w w1) => api.read (pg + 1 + pagesOf S.n) w1 F p S (api.below h hb))
  by_cases hr : pg < 0 ∨ pg ≥ pagesOf S.n
  · have hL : loadS S pg = ([], 1) := by unfold loadS; rw [hP, if_pos hr]
    have hh : homeOf (S.n : Int) pg = (0, false) := by unfold homeOf; rw [if_pos hr]
    rw [hh] at HHM
    rw [hL]
    clear hL hh hr h hq ht hok
    go_enter Tryz.func100, Tryz.ntmps100
    go_wp2_with fail
    refine HM.out.mono ?_
    rintro e w1 ⟨rfl, rfl⟩
    go_wp2_with fail
    refine HS.out.mono ?_
    rintro e w1 ⟨rfl, hb1⟩
    have l0 := (hb1.cell (p := ⟨q, 0, none⟩) l3).trans l0
    go_wp2_with fail
    refine (HHM.out w1).mono ?_
    rintro e w2 ⟨rfl, rfl⟩
    go_wp2
    go_ret2
    exact ⟨none, 0, 0, rfl, Nat.le_refl _, Mine.nil_ _ _, hb1⟩
  have hh : homeOf (S.n : Int) pg = (pg + 1 + pagesOf S.n, true) := by unfold homeOf; rw [if_neg hr]
  rw [hh] at HHM
  by_cases hd : S.down = true
  · have hL : loadS S pg = ([], 5) := by unfold loadS; rw [hP, if_neg hr, if_pos hd]
    have hre : S.readE (pg + 1 + pagesOf S.n) = 5 := by simp [DS.readE, hd]
    have hrl : S.readL (pg + 1 + pagesOf S.n) = [] := by simp [DS.readL, hre]
    rw [hre, hrl] at HRD
    rw [hL]
    clear hL hh hr h hq ht hok hre hrl hd
    go_enter Tryz.func100, Tryz.ntmps100
    go_wp2_with fail
    refine HM.out.mono ?_
    rintro e w1 ⟨rfl, rfl⟩
    go_wp2_with fail
    refine HS.out.mono ?_
    rintro e w1 ⟨rfl, hb1⟩
    have l0 := (hb1.cell (p := ⟨q, 0, none⟩) l3).trans l0
    go_wp2_with fail
    refine (HHM.out w1).mono ?_
    rintro e w2 ⟨rfl, rfl⟩
    go_wp2_with fail
    refine (HRD.out w1 hb1).mono ?_
    rintro e w3 ⟨A3, n3, c3, rfl, hc3, hr3, hb3⟩
    have hb03 := hb1.trans (hb3.mono hb1.size)
    have ht3 := HT.out.below hb03
    have HB := Lib.hid hb03
    clear hb03 ht3
    go_wp2
    go_ret2
    exact ⟨none, 0, 0, rfl, Nat.le_refl _, Mine.nil_ _ _, HB.out⟩
  have hd' : S.down = false := by simpa using hd
  obtain ⟨a, ha⟩ := Int.eq_ofNat_of_zero_le (show 0 ≤ pg + 1 + pagesOf S.n by omega)
  have hre : S.readE (pg + 1 + pagesOf S.n) = 0 := by
    unfold DS.readE
    rw [if_neg (by simp [hd']), if_pos (show S.has _ from ⟨by omega, by omega⟩)]
  have hrl : S.readL (pg + 1 + pagesOf S.n) = S.last a := by
    unfold DS.readL
    rw [if_pos hre, ha, Int.toNat_natCast]
  rw [hre, hrl] at HRD
  have hbytes := hok.lastBytes a
  have HLN := Lib.hid hbytes.1
  have hL : loadS S pg = if (unpackR (S.last a)).2.2.2 ≠ 0 ∨ (unpackR (S.last a)).1 ≠ pg then (zpage, 0) else ((unpackR (S.last a)).2.2.1, 0) := by
    unfold loadS
    rw [hP, if_neg hr, if_neg hd, ha, Int.toNat_natCast]
  have HL := Lib.hid hL
  clear hL hh hr h hq ht hok hre hrl hd hd' ha hbytes
  generalize hpge : (unpackR (S.last a)).1 = pe at HL
  generalize her : (unpackR (S.last a)).2.2.2 = er at HL
  have HPE := Lib.hid (And.intro hpge her)
  clear hpge her
  by_cases h1 : er = 0
  · subst h1
    by_cases h2 : pe = pg
    · subst h2
      have k2 : (pe == pe) = true := by simp
      have HL2 := Lib.hid (HL.out.trans (if_neg (by simp)))
      go_enter Tryz.func100, Tryz.ntmps100
      go_wp2_with fail
      refine HM.out.mono ?_
      rintro e w1 ⟨rfl, rfl⟩
      go_wp2_with fail
      refine HS.out.mono ?_
      rintro e w1 ⟨rfl, hb1⟩
      have l0 := (hb1.cell (p := ⟨q, 0, none⟩) l3).trans l0
      go_wp2_with fail
      refine (HHM.out w1).mono ?_
      rintro e w2 ⟨rfl, rfl⟩
      go_wp2_with fail
      refine (HRD.out w1 hb1).mono ?_
      rintro e w3 ⟨A3, n3, c3, rfl, hc3, hr3, hb3⟩
      have hb03 := hb1.trans (hb3.mono hb1.size)
      have ht3 := HT.out.below hb03
      go_wp2_with fail
      refine (HUP.out A3 n3 c3 _ _ w3 hr3 (Nat.le_refl _) hc3 (by have := hr3.len; rw [HLN.out] at this; omega) ht3.tab ht3.lt).mono ?_
      rw [HPE.out.1, HPE.out.2]
      rintro e w4 ⟨A4, n4, c4, rfl, hc4, hr4, hb4⟩
      have hb04 := hb03.trans (hb4.mono hb03.size)
      have hr4 := hr4.base_le hb03.size
      have HF := Lib.hid (And.intro hc4 (And.intro hr4 hb04))
      clear hc4 hr4 hb4 hb04 hr3 hb3 hb03 ht3
      go_wp2
      go_ret2
      rw [HL2.out]
      exact ⟨_, _, _, rfl, HF.out⟩
    · have k2 : (pe == pg) = false := by simpa using h2
      have HL2 := Lib.hid (HL.out.trans (if_pos (.inr h2)))
      clear h2
      go_enter Tryz.func100, Tryz.ntmps100
      go_wp2_with fail
      refine HM.out.mono ?_
      rintro e w1 ⟨rfl, rfl⟩
      go_wp2_with fail
      refine HS.out.mono ?_
      rintro e w1 ⟨rfl, hb1⟩
      have l0 := (hb1.cell (p := ⟨q, 0, none⟩) l3).trans l0
      go_wp2_with fail
      refine (HHM.out w1).mono ?_
      rintro e w2 ⟨rfl, rfl⟩
      go_wp2_with fail
      refine (HRD.out w1 hb1).mono ?_
      rintro e w3 ⟨A3, n3, c3, rfl, hc3, hr3, hb3⟩
      have hb03 := hb1.trans (hb3.mono hb1.size)
      have ht3 := HT.out.below hb03
      go_wp2_with fail
      refine (HUP.out A3 n3 c3 _ _ w3 hr3 (Nat.le_refl _) hc3 (by have := hr3.len; rw [HLN.out] at this; omega) ht3.tab ht3.lt).mono ?_
      rw [HPE.out.1, HPE.out.2]
      rintro e w4 ⟨A4, n4, c4, rfl, hc4, hr4, hb4⟩
      have hb04 := hb03.trans (hb4.mono hb03.size)
      clear hc4 hr4 hb4 hr3 hb3 hb03 ht3
      go_wp2_with (refine wpList_make_full w4 rfl _ _ 46 rfl w4.heap.size 5 i0 (.int .u8 0) 1 Tryz.underlying46 hi hz0 hz1 .i64 .i64 _ _ 240 rfl rfl rfl rfl (by rw [hz2]; decide) (by decide) (Nat.le_refl _) ?_; intro w5 hown5 hg5; have hb5 : Below w4.heap.size w4 w5 := (Below.refl _ _).grown hg5 (Nat.le_refl _) (by simp); have hr5 : Mine w5 w.heap.size _ 240 240 zpage := (Mine.made hown5).base_le hb04.size; have HF := Lib.hid (And.intro hr5 (hb04.trans (hb5.mono hb04.size))); clear hown5 hg5 hb5 hr5)
      go_ret2
      rw [HL2.out]
      exact ⟨_, 240, 240, rfl, Nat.le_refl _, HF.out⟩
  · have k1 : (er == 0) = false := by simpa using h1
    have HL2 := Lib.hid (HL.out.trans (if_pos (.inl h1)))
    clear h1
    go_enter Tryz.func100, Tryz.ntmps100
    go_wp2_with fail
    refine HM.out.mono ?_
    rintro e w1 ⟨rfl, rfl⟩
    go_wp2_with fail
    refine HS.out.mono ?_
    rintro e w1 ⟨rfl, hb1⟩
    have l0 := (hb1.cell (p := ⟨q, 0, none⟩) l3).trans l0
    go_wp2_with fail
    refine (HHM.out w1).mono ?_
    rintro e w2 ⟨rfl, rfl⟩
    go_wp2_with fail
    refine (HRD.out w1 hb1).mono ?_
    rintro e w3 ⟨A3, n3, c3, rfl, hc3, hr3, hb3⟩
    have hb03 := hb1.trans (hb3.mono hb1.size)
    have ht3 := HT.out.below hb03
    go_wp2_with fail
    refine (HUP.out A3 n3 c3 _ _ w3 hr3 (Nat.le_refl _) hc3 (by have := hr3.len; rw [HLN.out] at this; omega) ht3.tab ht3.lt).mono ?_
    rw [HPE.out.1, HPE.out.2]
    rintro e w4 ⟨A4, n4, c4, rfl, hc4, hr4, hb4⟩
    have hb04 := hb03.trans (hb4.mono hb03.size)
    clear hc4 hr4 hb4 hr3 hb3 hb03 ht3
    go_wp2_with (refine wpList_make_full w4 rfl _ _ 46 rfl w4.heap.size 5 i0 (.int .u8 0) 1 Tryz.underlying46 hi hz0 hz1 .i64 .i64 _ _ 240 rfl rfl rfl rfl (by rw [hz2]; decide) (by decide) (Nat.le_refl _) ?_; intro w5 hown5 hg5; have hb5 : Below w4.heap.size w4 w5 := (Below.refl _ _).grown hg5 (Nat.le_refl _) (by simp); have hr5 : Mine w5 w.heap.size _ 240 240 zpage := (Mine.made hown5).base_le hb04.size; have HF := Lib.hid (And.intro hr5 (hb04.trans (hb5.mono hb04.size))); clear hown5 hg5 hb5 hr5)
    go_ret2
    rw [HL2.out]
    exact ⟨_, 240, 240, rfl, Nat.le_refl _, HF.out⟩

set_option maxHeartbeats 800000 in
theorem pget_own (api : DiskApi D) (h : PgAt D w F O p S q seq r b L) (ht : TabF w F) (i : Int) (hi : -9223372036854775808 ≤ i ∧ i ≤ 9223372036854775807) : Calls Tryz.prog 52 #[.pointer (some ⟨r, 0, none⟩), .int .i64 i] w fun e w' => ∃ A n c, e = .returned (.tuple #[.slice A n c, .int .i64 (getPg S L i).2]) ∧ n ≤ c ∧ Mine w' w.heap.size A n c (getPg S L i).1 ∧ Below w.heap.size w w' := by
  obtain ⟨l0, l1, l2⟩ := h.cells
  have HM := Lib.hid (pmade_any h)
  obtain ⟨f, hf, hset⟩ := h.set
  have HLD := Lib.hid (load_own api h.d h.log ht i hi)
  have q1 := hf.look Tryz.underlying123 (zero_slice w) hi
  cases ha : atL L i with
  | none =>
    have hg : getPg S L i = loadS S i := by unfold getPg; rw [ha]
    rw [(hset i).1 ha] at q1
    simp only [Option.getD_none, Option.isSome_none] at q1
    rw [hg]
    clear hg ha hset hf h ht
    go_enter Tryz.func52, Tryz.ntmps52
    go_wp2_with fail
    refine HM.out.mono ?_
    rintro e w1 ⟨rfl, rfl⟩
    go_wp2_with fail
    refine HLD.out.mono ?_
    rintro e w1 ⟨A, n, c, rfl, hc, hr, hb⟩
    have HE := Lib.hid (And.intro hr hb)
    clear hr hb
    go_wp2
    go_ret2
    exact ⟨_, _, _, rfl, hc, HE.out.1, HE.out.2⟩
  | some l =>
    have hg : getPg S L i = (l, 0) := by unfold getPg; rw [ha]
    obtain ⟨g, c, e1, hc, hr, _⟩ := (hset i).2 l ha
    rw [e1] at q1
    simp only [Option.getD_some, Option.isSome_some] at q1
    have HCL := Lib.hid (CloneB_own c hr (Nat.le_refl _) (by decide))
    have HBY := Lib.hid hr.bytes
    rw [hg]
    clear hg ha hset hf h ht hr e1
    go_enter Tryz.func52, Tryz.ntmps52
    go_wp2_with fail
    refine HM.out.mono ?_
    rintro e w1 ⟨rfl, rfl⟩
    go_wp2_with fail
    refine HCL.out.mono ?_
    rintro e w1 ⟨A, c1, rfl, hc1, hr, hb⟩
    have hr : Mine w1 w.heap.size A 240 c1 l := ⟨hr, HBY.out⟩
    have HE := Lib.hid (And.intro hr hb)
    clear hr hb
    go_wp2
    go_ret2
    exact ⟨_, _, _, rfl, hc1, HE.out.1, HE.out.2⟩
end

end Go.Proofs.YtinhdimalhfgkaaGreatDoor
