/-
  The program's own Unpack of sectors by contract. Conditions: fewer than 2^47 bytes; the table that crc.Step reads holds what the program's text lays in it.
-/
import Derived.Test.YtkpopdoigkcpgaaDoorSecPack
import Derived.Deep.RegionWith
import Derived.BigQuiet
import Derived.Deep.Cut
namespace Go.Proofs.YtkpopdoigkcpgaaDoor
open Go.RowKit
set_option linter.unusedVariables false

/-- Whether the sum that stands first is that of what follows. -/
theorem sum_stands {l : List Int} (hl : AllBytes l) (h : l.length = 256) : (l.take 4 = putB (sumOf (l.drop 4) : Int) 4) ↔ numOf (l.take 4) = (sumOf (l.drop 4) : Int) := by
  have hs := sumOf_lt (hl.drop 4)
  constructor
  · intro e
    rw [e]
    exact wrap_putB (sum_right (hl.drop 4)) (by omega) (by omega)
  · intro e
    rw [← e]
    exact (putB_numOf4 (hl.take 4) (by simp; omega)).symm

set_option maxHeartbeats 1600000 in
theorem Unpack_len (A : Option Addr) (n c : Nat) (w : World) (hm : n ≤ maxLen) (hn : n ≠ 256) :
    Calls Tryd.prog 12 #[.slice A n c] w fun e w' => e = .returned (.tuple #[.int .i64 0, .int .i64 0, .slice none 0 0, .int .i64 4]) ∧ Below w.heap.size w w' := by
  have k : ((n : Int) != 256) = true := by simp; omega
  unfold maxLen at hm
  go_enter Tryd.func12, Tryd.ntmps12
  go_wp2_with fail
  go_quiet (fail)
  go_wp2
  exact bodyPost_ret (v := .tuple #[.int .i64 0, .int .i64 0, .slice none 0 0, .int .i64 4]) (by simp [results, Tryd.results12, go_sem]) rfl ⟨rfl, below_drewN (Below.refl w.heap.size w) _⟩

theorem sumOf_sl (A : Option Addr) (n c B : Nat) (l : List Int) (w : World) (hr : RB w B A n l) (hm : n ≤ maxLen) (ht : Tab w) :
    Calls Tryd.prog 16 #[.slice A n c] w fun e w' => ∃ A' c', e = .returned (.slice A' 4 c') ∧ RB w' w'.heap.size A' 4 (putB (sumOf l : Int) 4) ∧ Below w.heap.size w w' := by
  refine (sumOf_any A n c B l w hr hm ht).mono ?_
  rintro e w1 ⟨v1, rfl, hown1, hb1⟩
  obtain ⟨A1, c1, rfl, hc1, hr1⟩ := read_own hown1 (putB_bytes _ _)
  exact ⟨A1, c1, rfl, hr1, hb1⟩

set_option maxHeartbeats 8000000 in
theorem Unpack_256 (A : Option Addr) (c B : Nat) (l : List Int) (w : World) (hr : RB w B A 256 l) (hB : B ≤ w.heap.size) (hc : 256 ≤ c) (ht : Tab w) (hg : 0 < w.heap.size) :
    Calls Tryd.prog 12 #[.slice A 256 c] w fun e w' => ∃ A' n' c', e = .returned (.tuple #[.int .i64 (unpackR l).1, .int .i64 (unpackR l).2.1, .slice A' n' c', .int .i64 (unpackR l).2.2.2]) ∧ n' ≤ c' ∧ RB w' w'.heap.size A' n' (unpackR l).2.2.1 ∧ Below w.heap.size w w' := by
  have hl := hr.len
  obtain ⟨bd, hd⟩ : ∃ bd, bd = decide (l.take 4 = putB (sumOf (l.drop 4) : Int) 4) := ⟨_, rfl⟩
  have HD := Lib.hid hd
  clear hd
  obtain ⟨b, off, rfl, hb, hcell⟩ := hr.at_ (by omega)
  have hr0 : RB w B (some ⟨b, off, none⟩) 4 (l.take 4) := ⟨by simp; omega, hr.bytes.take 4, fun _ => ⟨b, off, rfl, hb, fun j hj => by rw [hcell j (by omega), List.getElem?_take, if_pos hj]⟩⟩
  have hr4 : RB w B (some ⟨b, off + 4, none⟩) 252 (l.drop 4) := hr.cut hcell 4 (by omega) hb
  have ht1 : Tab w.drew := ht
  have hr0d : RB w.drew B (some ⟨b, off, none⟩) 4 (l.take 4) := hr0.drew
  have hr4d : RB w.drew B (some ⟨b, off + 4, none⟩) 252 (l.drop 4) := hr4.drew
  have hBd : B ≤ w.drew.heap.size := hB
  have hBel := Lib.hid ((Below.refl w.heap.size w).drew)
  have hr16 : RB w B (some ⟨b, off + 16, none⟩) 240 (l.drop 16) := hr.cut hcell 16 (by omega) hb
  have HR := Lib.hid hr
  have HR16 := Lib.hid hr16
  have HST := Lib.hid (sum_stands hr.bytes hl)
  clear hcell hr0 hr4 hr ht hr16
  go_enter Tryd.func12, Tryd.ntmps12
  go_wp2_with fail
  go_cut [21] from 10 (fun c wx => c = .bool (!bd) ∧ Below w.heap.size w wx)
  case first =>
    have hc4 : ¬ (c = 4) := by omega
    go_region_with
      (first
        | (go_at_call 16; refine (sumOf_sl _ _ _ _ _ _ hr4d (by decide) ht1).mono ?_; rintro e w1 ⟨A1, c1, rfl, hr1, hb1⟩; have hr01 := hr0d.below (hb1.mono hBd); have hB1 := Nat.le_trans hBd hb1.size)
        | (go_at_call 20; refine (SEqual_any _ _ hr01 hr1 (by decide) (by decide) hB1 (Nat.le_refl _)).mono ?_; rw [← HD.out]; rintro e w2 ⟨rfl, hb2⟩; have hb02 := Lib.hid (hBel.out.trans (hb1.trans (hb2.mono hb1.size))); clear hb1 hb2 hr01 hr1))
    all_goals (go_wp2; go_meet; (case rel => exact ⟨rfl, hb02.out⟩))
  case rest =>
    obtain ⟨rfl, hbw⟩ := hcut
    have hrc := HR.out.below (hbw.mono hB)
    have hr16c := HR16.out.below (hbw.mono hB)
    have hBc := Nat.le_trans hB hbw.size
    have HBW := Lib.hid hbw
    clear hr0d hr4d ht1 hBd hBel hbw HR16
    cases bd
    · have hne : unpackR l = (0, 0, [], 4) := by
        unfold unpackR
        rw [if_neg]
        rintro ⟨_, h, _⟩
        exact absurd (HST.out.2 h) (of_decide_eq_false HD.out.symm)
      have HN := Lib.hid hne
      clear hne hrc hr16c
      go_wp2
      exact bodyPost_ret (v := .tuple #[.int .i64 0, .int .i64 0, .slice none 0 0, .int .i64 4]) (by simp [results, Tryd.results12, go_sem]) rfl (by rw [HN.out]; exact ⟨none, 0, 0, rfl, Nat.le_refl _, RB.nil_, HBW.out⟩)
    · have hsum := HST.out.1 (of_decide_eq_true HD.out.symm)
      have G2 := Lib.hid (getR_at (l := l) 4 4 (by decide) (by omega))
      have G3 := Lib.hid (getR_at (l := l) 8 8 (by decide) (by omega))
      obtain ⟨sb, hsb⟩ : ∃ sb, sb = secR (numOf ((l.drop 4).take 4)) (numOf ((l.drop 8).take 8)) := ⟨_, rfl⟩
      have HS := Lib.hid hsb
      have hres : unpackR l = if sb = true then (numOf ((l.drop 4).take 4), numOf ((l.drop 8).take 8), l.drop 16, 0) else (0, 0, [], 4) := by
        unfold unpackR
        by_cases e : sb = true
        · rw [if_pos e, if_pos ⟨hl, hsum, by rw [← hsb]; exact e⟩]
        · rw [if_neg e, if_neg (fun h => e (by rw [hsb]; exact h.2.2))]
      clear hsb hsum HST HD HR
      cases sb
      · have HN := Lib.hid (hres.trans (if_neg (by decide)))
        clear hres
        go_wp2_with fail
        refine (Get_any _ _ _ _ _ 4 4 _ hrc hc (by decide)).mono ?_
        rw [show getR l 4 4 = (numOf ((l.drop 4).take 4), 0) from G2.out]
        rintro e w1 ⟨rfl, rfl⟩
        go_wp2_with fail
        refine (Get_any _ _ _ _ _ 8 8 _ hrc hc (by decide)).mono ?_
        rw [show getR l 8 8 = (numOf ((l.drop 8).take 8), 0) from G3.out]
        rintro e w1 ⟨rfl, rfl⟩
        go_wp2_with fail
        refine (secRight_said _ _ _).mono ?_
        rw [← HS.out]
        rintro e w1 ⟨rfl, rfl⟩
        go_wp2
        exact bodyPost_ret (v := .tuple #[.int .i64 0, .int .i64 0, .slice none 0 0, .int .i64 4]) (by simp [results, Tryd.results12, go_sem]) rfl (by rw [HN.out]; exact ⟨none, 0, 0, rfl, Nat.le_refl _, RB.nil_, HBW.out⟩)
      · have HN := Lib.hid (hres.trans (if_pos rfl))
        clear hres
        go_wp2_with fail
        refine (Get_any _ _ _ _ _ 4 4 _ hrc hc (by decide)).mono ?_
        rw [show getR l 4 4 = (numOf ((l.drop 4).take 4), 0) from G2.out]
        rintro e w1 ⟨rfl, rfl⟩
        go_wp2_with fail
        refine (Get_any _ _ _ _ _ 8 8 _ hrc hc (by decide)).mono ?_
        rw [show getR l 8 8 = (numOf ((l.drop 8).take 8), 0) from G3.out]
        rintro e w1 ⟨rfl, rfl⟩
        go_wp2_with fail
        refine (secRight_said _ _ _).mono ?_
        rw [← HS.out]
        rintro e w1 ⟨rfl, rfl⟩
        go_wp2_with fail
        refine (SClone_any _ hr16c hBc (by decide)).mono ?_
        rintro e w2 ⟨A2, c2, rfl, hc2, hr2, hb2⟩
        go_wp2
        exact bodyPost_ret (v := .tuple #[.int .i64 (numOf ((l.drop 4).take 4)), .int .i64 (numOf ((l.drop 8).take 8)), .slice A2 240 c2, .int .i64 0]) (by simp [results, Tryd.results12, go_sem]) rfl (by rw [HN.out]; exact ⟨A2, 240, c2, rfl, hc2, hr2, HBW.out.trans (hb2.mono HBW.out.size)⟩)

theorem unpack_said : UnpackSaid := by
  intro A n c B l w hr hB hc hn ht hg
  by_cases h : n = 256
  · subst h
    exact Unpack_256 A c B l w hr hB hc ht hg
  · refine (Unpack_len A n c w (by unfold maxLen; omega) h).mono ?_
    have hne : unpackR l = (0, 0, [], 4) := by
      unfold unpackR
      rw [if_neg]
      rintro ⟨h', _⟩
      exact h (by rw [← hr.len]; exact h')
    rw [hne]
    rintro e w' ⟨rfl, hb⟩
    exact ⟨none, 0, 0, rfl, Nat.le_refl _, RB.nil_, hb⟩

end Go.Proofs.YtkpopdoigkcpgaaDoor
