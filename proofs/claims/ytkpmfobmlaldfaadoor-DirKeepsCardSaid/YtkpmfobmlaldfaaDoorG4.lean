/-
  The texts RedoPC, RedoPD, PRow, RedoPE, IMap, DevP, DevA, DevB, DevC, DevD, DevE, DevF, DevG, DevH, DevI, RedoPF joined. Conditions: those that each part says at its head.
-/
import Derived.Test.YtkpmfobmlaldfaaDoorG3
import Derived.Test.YtkpmfobmlaldfaaDoorG1
import Derived.Test.YtkpmfobmlaldfaaDoorG2
import Derived.StillTailTactics
import Derived.Maps.OwnSet
import Derived.Maps.OwnOps
import Derived.Deep.OwnRows
import Derived.BigQuiet
import Derived.Carry
import Derived.Maps.AppendAt
import Derived.Deep.RegionWith

/-
  Contracts of the program's log: made, Seq, Pages, Load, over any disk that answers as it is to. Condition: the table that crc.Step reads holds what the program's text lays in it, apart from the disk.
-/
namespace Go.Proofs.YtkpmfobmlaldfaaDoor
open Go.RowKit
set_option maxRecDepth 100000
set_option linter.unusedVariables false

/-- A log at block q: of the disk at p, with a seq. -/
def PLog (w : World) (q : Nat) (p : Addr) (seq : Int) : Prop := w.heap[q]? = some (.cells #[.pointer (some p), .int .i64 seq] 88 (0, 0))
section
variable {D : World → (Nat → Prop) → Addr → DS → Prop} {w : World} {F : Nat → Prop} {p : Addr} {S : DS} {q : Nat} {seq : Int}
theorem PLog.cells (h : PLog w q p seq) : w.cell? ⟨q, 0, none⟩ = some (.pointer (some p)) ∧ w.cell? ⟨q, 1, none⟩ = some (.int .i64 seq) ∧ w.frozen? ⟨q, 1, none⟩ = false ∧ q < w.heap.size := by
  refine ⟨?_, ?_, ?_, (Array.getElem?_eq_some_iff.1 h).1⟩
  · rw [cell_of_row w q 0 _ _ (0, 0) h]; rfl
  · rw [cell_of_row w q 1 _ _ (0, 0) h]; rfl
  · simp [World.frozen?, show w.heap[q]? = _ from h]
theorem PLog.keep {w' : World} (h : PLog w q p seq) (e : w'.heap[q]? = w.heap[q]?) : PLog w' q p seq := e.trans h
theorem PLog.below {w' : World} (h : PLog w q p seq) (hb : Below w.heap.size w w') : PLog w' q p seq := h.keep (hb.block q h.cells.2.2.2)

set_option maxHeartbeats 400000 in
theorem made_any (hq : PLog w q p seq) : Calls Tryd.prog 63 #[.pointer (some ⟨q, 0, none⟩)] w fun e w' => e = .returned (.bool true) ∧ w = w' := by
  obtain ⟨l0, l1, l2, l3⟩ := hq.cells
  clear hq
  go_enter Tryd.func63, Tryd.ntmps63
  go_wp2
  go_ret
  exact ⟨rfl, rfl⟩

set_option maxHeartbeats 400000 in
theorem pages_same (api : DiskApi D) (h : D w F p S) (hq : PLog w q p seq) : Calls Tryd.prog 39 #[.pointer (some ⟨q, 0, none⟩)] w fun e w' => e = .returned (.int .i64 (pagesOf S.n)) ∧ w' = w := by
  obtain ⟨l0, l1, l2, l3⟩ := hq.cells
  have hok := api.ok _ _ _ _ h
  have hsz := hok.size
  have HM := Lib.hid (made_any hq)
  have HS := Lib.hid (api.sizeSame _ _ _ _ h)
  clear hq h
  go_enter Tryd.func39, Tryd.ntmps39
  go_wp2_with fail
  refine HM.out.mono ?_
  rintro e w1 ⟨rfl, rfl⟩
  go_wp2_with fail
  refine HS.out.mono ?_
  rintro e w1 ⟨rfl, rfl⟩
  go_wp2_with fail
  refine (lay_said.pages (S.n : Int) w1 (by omega)).mono ?_
  rintro e w2 ⟨rfl, rfl⟩
  go_wp2
  go_ret
  exact ⟨rfl, rfl⟩

theorem pages_any (api : DiskApi D) (h : D w F p S) (hq : PLog w q p seq) : Calls Tryd.prog 39 #[.pointer (some ⟨q, 0, none⟩)] w fun e w' => e = .returned (.int .i64 (pagesOf S.n)) ∧ Below w.heap.size w w' :=
  (pages_same api h hq).mono fun e w' ⟨h1, h2⟩ => ⟨h1, h2 ▸ Below.refl _ _⟩

set_option maxHeartbeats 1600000 in
theorem load_any (api : DiskApi D) (h : D w F p S) (hq : PLog w q p seq) (ht : TabF w F) (pg : Int) (hpg : -9223372036854775808 ≤ pg ∧ pg ≤ 9223372036854775807) : Calls Tryd.prog 48 #[.pointer (some ⟨q, 0, none⟩), .int .i64 pg] w fun e w' => ∃ A n c, e = .returned (.tuple #[.slice A n c, .int .i64 (loadS S pg).2]) ∧ n ≤ c ∧ RB w' w'.heap.size A n (loadS S pg).1 ∧ Below w.heap.size w w' := by
  obtain ⟨i0, hi, hz0, hz1, hz2⟩ := info_parts info_u8
  obtain ⟨l0, l1, l2, l3⟩ := hq.cells
  have hok := api.ok _ _ _ _ h
  have hsz := hok.size
  have hpb := pagesOf_bounds (S.n : Int)
  have hpn := (pagesOf_nn (S.n : Int)).2.1 (by omega)
  have hP : S.P = pagesOf S.n := rfl
  have HM := Lib.hid (made_any hq)
  have HS := Lib.hid (api.sizes _ _ _ _ h)
  have HT := Lib.hid ht
  have HUP := Lib.hid unpack_said
  have HHM := Lib.hid (fun w1 => lay_said.home (S.n : Int) pg w1 (by omega) hpg)
  have HRD := Lib.hid (fun w1 (hb : Below w.heap.size w w1) => api.read (pg + 1 + pagesOf S.n) w1 F p S (api.below h hb))
  by_cases hr : pg < 0 ∨ pg ≥ pagesOf S.n
  · have hL : loadS S pg = ([], 1) := by unfold loadS; rw [hP, if_pos hr]
    have hh : homeOf (S.n : Int) pg = (0, false) := by unfold homeOf; rw [if_pos hr]
    rw [hh] at HHM
    rw [hL]
    clear hL hh hr h hq ht hok
    go_enter Tryd.func48, Tryd.ntmps48
    go_wp2_with fail
    refine HM.out.mono ?_
    rintro e w1 ⟨rfl, rfl⟩
    go_wp2_with fail
    refine HS.out.mono ?_
    rintro e w1 ⟨rfl, hb1⟩
    have l0 := (hb1.cell (p := ⟨q, 0, none⟩) l3).trans l0
    go_wp2_with fail
    refine (HHM.out w1).mono ?_
    rintro e w2 ⟨rfl, rfl⟩
    go_wp2
    go_ret2
    exact ⟨none, 0, 0, rfl, Nat.le_refl _, RB.nil_, hb1⟩
  have hh : homeOf (S.n : Int) pg = (pg + 1 + pagesOf S.n, true) := by unfold homeOf; rw [if_neg hr]
  rw [hh] at HHM
  by_cases hd : S.down = true
  · have hL : loadS S pg = ([], 5) := by unfold loadS; rw [hP, if_neg hr, if_pos hd]
    have hre : S.readE (pg + 1 + pagesOf S.n) = 5 := by simp [DS.readE, hd]
    have hrl : S.readL (pg + 1 + pagesOf S.n) = [] := by simp [DS.readL, hre]
    rw [hre, hrl] at HRD
    rw [hL]
    clear hL hh hr h hq ht hok hre hrl hd
    go_enter Tryd.func48, Tryd.ntmps48
    go_wp2_with fail
    refine HM.out.mono ?_
    rintro e w1 ⟨rfl, rfl⟩
    go_wp2_with fail
    refine HS.out.mono ?_
    rintro e w1 ⟨rfl, hb1⟩
    have l0 := (hb1.cell (p := ⟨q, 0, none⟩) l3).trans l0
    go_wp2_with fail
    refine (HHM.out w1).mono ?_
    rintro e w2 ⟨rfl, rfl⟩
    go_wp2_with fail
    refine (HRD.out w1 hb1).mono ?_
    rintro e w3 ⟨A3, n3, c3, rfl, hc3, hr3, hb3⟩
    have hb03 := hb1.trans (hb3.mono hb1.size)
    have ht3 := HT.out.below hb03
    have HB := Lib.hid hb03
    clear hb03 ht3
    go_wp2
    go_ret2
    exact ⟨none, 0, 0, rfl, Nat.le_refl _, RB.nil_, HB.out⟩
  have hd' : S.down = false := by simpa using hd
  obtain ⟨a, ha⟩ := Int.eq_ofNat_of_zero_le (show 0 ≤ pg + 1 + pagesOf S.n by omega)
  have hre : S.readE (pg + 1 + pagesOf S.n) = 0 := by
    unfold DS.readE
    rw [if_neg (by simp [hd']), if_pos (show S.has _ from ⟨by omega, by omega⟩)]
  have hrl : S.readL (pg + 1 + pagesOf S.n) = S.last a := by
    unfold DS.readL
    rw [if_pos hre, ha, Int.toNat_natCast]
  rw [hre, hrl] at HRD
  have hbytes := hok.lastBytes a
  have HLN := Lib.hid hbytes.1
  have hL : loadS S pg = if (unpackR (S.last a)).2.2.2 ≠ 0 ∨ (unpackR (S.last a)).1 ≠ pg then (zpage, 0) else ((unpackR (S.last a)).2.2.1, 0) := by
    unfold loadS
    rw [hP, if_neg hr, if_neg hd, ha, Int.toNat_natCast]
  have HL := Lib.hid hL
  clear hL hh hr h hq ht hok hre hrl hd hd' ha hbytes
  generalize hpge : (unpackR (S.last a)).1 = pe at HL
  generalize her : (unpackR (S.last a)).2.2.2 = er at HL
  have HPE := Lib.hid (And.intro hpge her)
  clear hpge her
  by_cases h1 : er = 0
  · subst h1
    by_cases h2 : pe = pg
    · subst h2
      have k2 : (pe == pe) = true := by simp
      have HL2 := Lib.hid (HL.out.trans (if_neg (by simp)))
      go_enter Tryd.func48, Tryd.ntmps48
      go_wp2_with fail
      refine HM.out.mono ?_
      rintro e w1 ⟨rfl, rfl⟩
      go_wp2_with fail
      refine HS.out.mono ?_
      rintro e w1 ⟨rfl, hb1⟩
      have l0 := (hb1.cell (p := ⟨q, 0, none⟩) l3).trans l0
      go_wp2_with fail
      refine (HHM.out w1).mono ?_
      rintro e w2 ⟨rfl, rfl⟩
      go_wp2_with fail
      refine (HRD.out w1 hb1).mono ?_
      rintro e w3 ⟨A3, n3, c3, rfl, hc3, hr3, hb3⟩
      have hb03 := hb1.trans (hb3.mono hb1.size)
      have ht3 := HT.out.below hb03
      go_wp2_with fail
      refine (HUP.out A3 n3 c3 _ _ w3 hr3 (Nat.le_refl _) hc3 (by have := hr3.len; rw [HLN.out] at this; omega) ht3.tab ht3.lt).mono ?_
      rw [HPE.out.1, HPE.out.2]
      rintro e w4 ⟨A4, n4, c4, rfl, hc4, hr4, hb4⟩
      have hb04 := hb03.trans (hb4.mono hb03.size)
      have HF := Lib.hid (And.intro hc4 (And.intro hr4 hb04))
      clear hc4 hr4 hb4 hb04 hr3 hb3 hb03 ht3
      go_wp2
      go_ret2
      rw [HL2.out]
      exact ⟨_, _, _, rfl, HF.out⟩
    · have k2 : (pe == pg) = false := by simpa using h2
      have HL2 := Lib.hid (HL.out.trans (if_pos (.inr h2)))
      clear h2
      go_enter Tryd.func48, Tryd.ntmps48
      go_wp2_with fail
      refine HM.out.mono ?_
      rintro e w1 ⟨rfl, rfl⟩
      go_wp2_with fail
      refine HS.out.mono ?_
      rintro e w1 ⟨rfl, hb1⟩
      have l0 := (hb1.cell (p := ⟨q, 0, none⟩) l3).trans l0
      go_wp2_with fail
      refine (HHM.out w1).mono ?_
      rintro e w2 ⟨rfl, rfl⟩
      go_wp2_with fail
      refine (HRD.out w1 hb1).mono ?_
      rintro e w3 ⟨A3, n3, c3, rfl, hc3, hr3, hb3⟩
      have hb03 := hb1.trans (hb3.mono hb1.size)
      have ht3 := HT.out.below hb03
      go_wp2_with fail
      refine (HUP.out A3 n3 c3 _ _ w3 hr3 (Nat.le_refl _) hc3 (by have := hr3.len; rw [HLN.out] at this; omega) ht3.tab ht3.lt).mono ?_
      rw [HPE.out.1, HPE.out.2]
      rintro e w4 ⟨A4, n4, c4, rfl, hc4, hr4, hb4⟩
      have hb04 := hb03.trans (hb4.mono hb03.size)
      clear hc4 hr4 hb4 hr3 hb3 hb03 ht3
      go_wp2_with (refine wpList_make_full w4 rfl _ _ 69 rfl w4.heap.size 5 i0 (.int .u8 0) 1 Tryd.underlying69 hi hz0 hz1 .i64 .i64 _ _ 240 rfl rfl rfl rfl (by rw [hz2]; decide) (by decide) (Nat.le_refl _) ?_; intro w5 hown5 hg5; have hb5 : Below w4.heap.size w4 w5 := (Below.refl _ _).grown hg5 (Nat.le_refl _) (by simp); have hr5 : RB w5 w5.heap.size _ 240 zpage := RB.made hown5; have HF := Lib.hid (And.intro hr5 (hb04.trans (hb5.mono hb04.size))); clear hown5 hg5 hb5 hr5)
      go_ret2
      rw [HL2.out]
      exact ⟨_, 240, 240, rfl, Nat.le_refl _, HF.out⟩
  · have k1 : (er == 0) = false := by simpa using h1
    have HL2 := Lib.hid (HL.out.trans (if_pos (.inl h1)))
    clear h1
    go_enter Tryd.func48, Tryd.ntmps48
    go_wp2_with fail
    refine HM.out.mono ?_
    rintro e w1 ⟨rfl, rfl⟩
    go_wp2_with fail
    refine HS.out.mono ?_
    rintro e w1 ⟨rfl, hb1⟩
    have l0 := (hb1.cell (p := ⟨q, 0, none⟩) l3).trans l0
    go_wp2_with fail
    refine (HHM.out w1).mono ?_
    rintro e w2 ⟨rfl, rfl⟩
    go_wp2_with fail
    refine (HRD.out w1 hb1).mono ?_
    rintro e w3 ⟨A3, n3, c3, rfl, hc3, hr3, hb3⟩
    have hb03 := hb1.trans (hb3.mono hb1.size)
    have ht3 := HT.out.below hb03
    go_wp2_with fail
    refine (HUP.out A3 n3 c3 _ _ w3 hr3 (Nat.le_refl _) hc3 (by have := hr3.len; rw [HLN.out] at this; omega) ht3.tab ht3.lt).mono ?_
    rw [HPE.out.1, HPE.out.2]
    rintro e w4 ⟨A4, n4, c4, rfl, hc4, hr4, hb4⟩
    have hb04 := hb03.trans (hb4.mono hb03.size)
    clear hc4 hr4 hb4 hr3 hb3 hb03 ht3
    go_wp2_with (refine wpList_make_full w4 rfl _ _ 69 rfl w4.heap.size 5 i0 (.int .u8 0) 1 Tryd.underlying69 hi hz0 hz1 .i64 .i64 _ _ 240 rfl rfl rfl rfl (by rw [hz2]; decide) (by decide) (Nat.le_refl _) ?_; intro w5 hown5 hg5; have hb5 : Below w4.heap.size w4 w5 := (Below.refl _ _).grown hg5 (Nat.le_refl _) (by simp); have hr5 : RB w5 w5.heap.size _ 240 zpage := RB.made hown5; have HF := Lib.hid (And.intro hr5 (hb04.trans (hb5.mono hb04.size))); clear hown5 hg5 hb5 hr5)
    go_ret2
    rw [HL2.out]
    exact ⟨_, 240, 240, rfl, Nat.le_refl _, HF.out⟩
end

end Go.Proofs.YtkpmfobmlaldfaaDoor

/-
  Contract of the program's homeOf: what a slot has to be written at its page's home; over any disk that answers as it is to. Conditions: the disk is up and has the slot; the table that crc.Step reads holds what the program's text lays in it, apart from the disk.
-/
namespace Go.Proofs.YtkpmfobmlaldfaaDoor
open Go.RowKit
set_option maxRecDepth 100000
set_option linter.unusedVariables false

section
variable {D : World → (Nat → Prop) → Addr → DS → Prop} {w : World} {F : Nat → Prop} {p : Addr} {S : DS} {q : Nat} {seq : Int}

/-- What homeOf answers of what the slot has. -/
def HomeAns (w : World) (P : Int) (r : Option (Int × List Int)) (e : Ending) (w' : World) : Prop :=
  Below w.heap.size w w' ∧ match r with
  | none => e = .returned (.tuple #[.agg #[.int .i64 0, .slice none 0 0], .bool false, .int .i64 0])
  | some y => ∃ g c, e = .returned (.tuple #[.agg #[.int .i64 (y.1 + 1 + P), .slice (some ⟨g, 0, none⟩) 256 c], .bool true, .int .i64 0]) ∧ 256 ≤ c ∧ w.heap.size ≤ g ∧ RB w' w'.heap.size (some ⟨g, 0, none⟩) 256 y.2

/-! A result of type piece lies in a block of its own. -/
theorem resP {w w1 : World} (h : Below (w.heap.size + 1) (w.alloc (.cells #[.int .i64 0, .slice none 0 0] 81)) w1) : Below w.heap.size w w1 ∧ w1.cell? ⟨w.heap.size, 0, none⟩ = some (.int .i64 0) ∧ w1.cell? ⟨w.heap.size, 1, none⟩ = some (.slice none 0 0) ∧ w1.frozen? ⟨w.heap.size, 0, none⟩ = false ∧ w1.frozen? ⟨w.heap.size, 1, none⟩ = false ∧ w.heap.size + 1 ≤ w1.heap.size := by
  have hc : w1.heap[w.heap.size]? = some (.cells #[.int .i64 0, .slice none 0 0] 81 (0, 0)) := (h.block _ (Nat.lt_succ_self _)).trans (heap_alloc_new _ _)
  refine ⟨((Below.refl w.heap.size w).alloc (Nat.le_refl _) _).trans (h.mono (Nat.le_succ _)), ?_, ?_, ?_, ?_, ?_⟩
  · rw [cell_of_row w1 _ 0 _ _ (0, 0) hc]; rfl
  · rw [cell_of_row w1 _ 1 _ _ (0, 0) hc]; rfl
  · simp [World.frozen?, hc]
  · simp [World.frozen?, hc]
  · have := h.size; simpa using this
theorem hom_end {w w1 : World} (h : Below (w.heap.size + 1) (w.alloc (.cells #[.int .i64 0, .slice none 0 0] 81)) w1) (x y : Value) : Below w.heap.size w ((w1.setCell ⟨w.heap.size, 0, none⟩ x).setCell ⟨w.heap.size, 1, none⟩ y) ∧ ∀ (g n : Nat) (l : List Int), 0 < n → w.heap.size < g → RB w1 w1.heap.size (some ⟨g, 0, none⟩) n l → RB ((w1.setCell ⟨w.heap.size, 0, none⟩ x).setCell ⟨w.heap.size, 1, none⟩ y) ((w1.setCell ⟨w.heap.size, 0, none⟩ x).setCell ⟨w.heap.size, 1, none⟩ y).heap.size (some ⟨g, 0, none⟩) n l := by
  refine ⟨((resP h).1.setCell (Nat.le_refl _) _).setCell (Nat.le_refl _) _, fun g n l hn hg hr => hr.there hn ?_ (by simp)⟩
  rw [Below.heap_setCell _ _ _ _ (by simp; omega), Below.heap_setCell _ _ _ _ (by simp; omega)]

set_option maxHeartbeats 1600000 in
theorem homeOf_any (api : DiskApi D) (h : D w F p S) (hq : PLog w q p seq) (ht : TabF w F) (hd : S.down = false) (i : Nat) (hi : (i : Int) < pagesOf S.n) : Calls Tryd.prog 62 #[.pointer (some ⟨q, 0, none⟩), .int .i64 (i : Int)] w fun e w' => HomeAns w (pagesOf S.n) (slotIn S.n S.last seq i) e w' := by
  have hok := api.ok _ _ _ _ h
  have hsz := hok.size
  have hpb := pagesOf_bounds (S.n : Int)
  have hpn := (pagesOf_nn (S.n : Int)).2.1 (by omega)
  have hsl : slotOf (S.n : Int) (i : Int) = ((i : Int) + 1, true) := by unfold slotOf; rw [if_neg (by omega)]
  have hre : S.readE ((i : Int) + 1) = 0 := by
    unfold DS.readE
    rw [if_neg (by simp [hd]), if_pos (show S.has _ from ⟨by omega, by omega⟩)]
  have HS := Lib.hid (fun w1 (hb : Below w.heap.size w w1) => api.sizes w1 F p S (api.below h hb))
  have HSL := Lib.hid (fun w1 => lay_said.slot (S.n : Int) (i : Int) w1 (by omega) (by omega))
  rw [hsl] at HSL
  have HRD := Lib.hid (fun w1 (hb : Below w.heap.size w w1) => api.readAt ((i : Int) + 1) w1 F p S (api.below h hb) hre)
  rw [show ((i : Int) + 1).toNat = i + 1 by omega] at HRD
  have HT := Lib.hid (fun w1 (hb : Below w.heap.size w w1) => ht.below hb)
  have LC := Lib.hid (fun w1 (hb : Below w.heap.size w w1) => (hq.below hb).cells)
  have HUP := Lib.hid unpack_said
  have HSI : slotIn S.n S.last seq i = if (unpackR (S.last (i + 1))).2.2.2 = 0 ∧ (unpackR (S.last (i + 1))).2.1 = seq ∧ (unpackR (S.last (i + 1))).1 < pagesOf S.n then some ((unpackR (S.last (i + 1))).1, S.last (i + 1)) else none := rfl
  have hpg0 : (unpackR (S.last (i + 1))).2.2.2 = 0 → 0 ≤ (unpackR (S.last (i + 1))).1 ∧ (unpackR (S.last (i + 1))).1 < 4294967296 := fun he => ⟨(unpack_page he).1, (unpack_count he).1⟩
  generalize hpge : (unpackR (S.last (i + 1))).1 = pg at HSI hpg0
  generalize hsee : (unpackR (S.last (i + 1))).2.1 = se at HSI
  generalize her : (unpackR (S.last (i + 1))).2.2.2 = er at HSI hpg0
  have HPE := Lib.hid (And.intro hpge (And.intro hsee her))
  have HSI := Lib.hid HSI
  have hX0 : Below (w.heap.size + 1) (w.alloc (.cells #[.int .i64 0, .slice none 0 0] 81)) (w.alloc (.cells #[.int .i64 0, .slice none 0 0] 81)) := Below.refl _ _
  have hw0 := (resP hX0).1
  obtain ⟨l0, l1, _, _⟩ := LC.out _ hw0
  clear hpge hsee her hq ht h hok hsl hre
  go_enter Tryd.func62, Tryd.ntmps62
  go_wp2_with fail
  refine (HS.out _ hw0).mono ?_
  rintro e w1 ⟨rfl, hb1⟩
  have hX1 := hX0.trans (hb1.mono (by simp))
  have hw1 := (resP hX1).1
  clear l0 l1
  obtain ⟨l0, l1, _, _⟩ := LC.out _ hw1
  go_wp2_with fail
  refine (HSL.out w1).mono ?_
  rintro e w2 ⟨rfl, rfl⟩
  go_wp2_with fail
  refine (HRD.out w1 hw1).mono ?_
  rintro e w3 ⟨g, c, rfl, hc, hg, hr3, hb3⟩
  have hX3 := hX1.trans (hb3.mono (resP hX1).2.2.2.2.2)
  have hw3 := (resP hX3).1
  have ht3 := HT.out _ hw3
  clear l0 l1
  go_wp2_with fail
  refine (HUP.out (some ⟨g, 0, none⟩) 256 c _ _ w3 hr3 (Nat.le_refl _) hc (by omega) ht3.tab ht3.lt).mono ?_
  rw [HPE.out.1, HPE.out.2.1, HPE.out.2.2]
  rintro e w4 ⟨A4, n4, c4, rfl, hc4, hr4, hb4⟩
  have hX4 := hX3.trans (hb4.mono (resP hX3).2.2.2.2.2)
  have hw4 := (resP hX4).1
  obtain ⟨l0, l1, _, _⟩ := LC.out _ hw4
  obtain ⟨_, c0, c1, f0, f1, _⟩ := resP hX4
  have hgl : g < w3.heap.size := by obtain ⟨bb, _, e, hbb, _⟩ := hr3.at_ (by decide); cases e; exact hbb
  have hgw : w.heap.size < g := by have := (resP hX1).2.2.2.2.2; omega
  have HR4 := Lib.hid (hr3.there (by decide) (hb4.block g hgl) hb4.size)
  clear hr3 hr4 hb1 hb3 hb4 hX0 hX1 hX3 hw0 hw1 hw3 ht3
  by_cases h1 : er = 0
  · subst h1
    by_cases h2 : se = seq
    · subst h2
      have k2 : (se != se) = false := by simp
      obtain ⟨hp0, hp1⟩ := hpg0 rfl
      have HHM := Lib.hid (fun w1 => lay_said.home (S.n : Int) pg w1 (by omega) (by omega))
      by_cases h3 : pg < pagesOf S.n
      · have hh : homeOf (S.n : Int) pg = (pg + 1 + pagesOf S.n, true) := by unfold homeOf; rw [if_neg (by omega)]
        rw [hh] at HHM
        have HN := Lib.hid (HSI.out.trans (if_pos ⟨rfl, rfl, h3⟩))
        clear h3 hh
        go_wp2_with fail
        refine (HS.out _ hw4).mono ?_
        rintro e w5 ⟨rfl, hb5⟩
        have hX5 := hX4.trans (hb5.mono (resP hX4).2.2.2.2.2)
        have hs5 := hb5.size
        have HR5 := Lib.hid (HR4.out.there (by decide) (hb5.block g (by have := HR4.out; obtain ⟨bb, _, e, hbb, _⟩ := this.at_ (by decide); cases e; exact hbb)) hb5.size)
        clear c0 c1 f0 f1 l0 l1
        obtain ⟨_, c0, c1, f0, f1, _⟩ := resP hX5
        have HXZ := Lib.hid hX5
        clear hb5 hX4 hX5 hw4
        go_wp2_with fail
        refine (HHM.out w5).mono ?_
        rintro e w6 ⟨rfl, rfl⟩
        obtain ⟨d0, d1⟩ := piece_cells (w := w5) (.int .i64 (pg + 1 + pagesOf S.n)) (.slice (some ⟨g, 0, none⟩) 256 c) c0 c1
        have hE := Lib.hid (hom_end HXZ.out (.int .i64 (pg + 1 + pagesOf S.n)) (.slice (some ⟨g, 0, none⟩) 256 c))
        have HC := Lib.hid (And.intro hc hgw)
        clear hc hgw hg hgl
        go_wp2
        refine bodyPost_ret (v := .tuple #[.agg #[.int .i64 (pg + 1 + pagesOf S.n), .slice (some ⟨g, 0, none⟩) 256 c], .bool true, .int .i64 0]) (by
          generalize ((w5.setCell ⟨w.heap.size, 0, none⟩ (Value.int IntKind.i64 (pg + 1 + pagesOf S.n))).setCell ⟨w.heap.size, 1, none⟩ (Value.slice (some ⟨g, 0, none⟩) 256 c)) = X at *
          simp [results, Tryd.results62, go_sem, d0, d1]) rfl ?_
        rw [HN.out]
        exact ⟨hE.out.1, g, c, rfl, HC.out.1, Nat.le_of_lt HC.out.2, hE.out.2 g 256 _ (by decide) HC.out.2 HR5.out⟩
      · have hh : homeOf (S.n : Int) pg = (0, false) := by unfold homeOf; rw [if_pos (by omega)]
        rw [hh] at HHM
        have HN := Lib.hid (HSI.out.trans (if_neg (fun h => h3 h.2.2)))
        clear h3 hh
        go_wp2_with fail
        refine (HS.out _ hw4).mono ?_
        rintro e w5 ⟨rfl, hb5⟩
        have hX5 := hX4.trans (hb5.mono (resP hX4).2.2.2.2.2)
        have hs5 := hb5.size
        have HR5 := Lib.hid (HR4.out.there (by decide) (hb5.block g (by have := HR4.out; obtain ⟨bb, _, e, hbb, _⟩ := this.at_ (by decide); cases e; exact hbb)) hb5.size)
        clear c0 c1 f0 f1 l0 l1
        obtain ⟨_, c0, c1, f0, f1, _⟩ := resP hX5
        have HXZ := Lib.hid hX5
        clear hb5 hX4 hX5 hw4
        go_wp2_with fail
        refine (HHM.out w5).mono ?_
        rintro e w6 ⟨rfl, rfl⟩
        obtain ⟨d0, d1⟩ := piece_cells (w := w5) (.int .i64 0) (.slice none 0 0) c0 c1
        have hE := Lib.hid (hom_end HXZ.out (.int .i64 0) (.slice none 0 0)).1
        go_wp2
        refine bodyPost_ret (v := .tuple #[.agg #[.int .i64 0, .slice none 0 0], .bool false, .int .i64 0]) (by
          generalize ((w5.setCell ⟨w.heap.size, 0, none⟩ (Value.int IntKind.i64 0)).setCell ⟨w.heap.size, 1, none⟩ (Value.slice none 0 0)) = X at *
          simp [results, Tryd.results62, go_sem, d0, d1]) rfl ?_
        rw [HN.out]
        exact ⟨hE.out, rfl⟩
    · have k2 : (se != seq) = true := by simpa using h2
      have HN := Lib.hid (HSI.out.trans (if_neg (fun h => h2 h.2.1)))
      have HXZ := Lib.hid hX4
      clear h2
      obtain ⟨d0, d1⟩ := piece_cells (w := w4) (.int .i64 0) (.slice none 0 0) c0 c1
      have hE := Lib.hid (hom_end HXZ.out (.int .i64 0) (.slice none 0 0)).1
      go_wp2
      refine bodyPost_ret (v := .tuple #[.agg #[.int .i64 0, .slice none 0 0], .bool false, .int .i64 0]) (by
        generalize ((w4.setCell ⟨w.heap.size, 0, none⟩ (Value.int IntKind.i64 0)).setCell ⟨w.heap.size, 1, none⟩ (Value.slice none 0 0)) = X at *
        simp [results, Tryd.results62, go_sem, d0, d1]) rfl ?_
      rw [HN.out]
      exact ⟨hE.out, rfl⟩
  · have k1 : (er != 0) = true := by simpa using h1
    have HN := Lib.hid (HSI.out.trans (if_neg (fun h => h1 h.1)))
    have HXZ := Lib.hid hX4
    clear h1
    obtain ⟨d0, d1⟩ := piece_cells (w := w4) (.int .i64 0) (.slice none 0 0) c0 c1
    have hE := Lib.hid (hom_end HXZ.out (.int .i64 0) (.slice none 0 0)).1
    go_wp2
    refine bodyPost_ret (v := .tuple #[.agg #[.int .i64 0, .slice none 0 0], .bool false, .int .i64 0]) (by
      generalize ((w4.setCell ⟨w.heap.size, 0, none⟩ (Value.int IntKind.i64 0)).setCell ⟨w.heap.size, 1, none⟩ (Value.slice none 0 0)) = X at *
      simp [results, Tryd.results62, go_sem, d0, d1]) rfl ?_
    rw [HN.out]
    exact ⟨hE.out, rfl⟩
end

end Go.Proofs.YtkpmfobmlaldfaaDoor

/-
  Words for a list of numbers with bytes as it is built by append (rows of two cells each); what keeps it; how it is read. Plain facts; no condition beyond what each says.
-/
namespace Go.Proofs.YtkpmfobmlaldfaaDoor
open Go.RowKit
set_option maxRecDepth 100000
set_option linter.unusedVariables false

theorem info_piece : (Tryd.prog.info? 81).map (fun i => (i.zero, i.size, i.bytes)) = some (some (.agg #[.int .i64 0, .slice none 0 0]), 2, 32) := by kernel_rfl
theorem info_image : (Tryd.prog.info? 107).map (fun i => (i.zero, i.size, i.bytes)) = some (some (.agg #[.int .i64 0, .slice none 0 0]), 2, 32) := by kernel_rfl

/-- A slice of m bytes apart from the blocks F and from a row. -/
def Far (w : World) (F : Nat → Prop) (v u : Value) (m : Nat) (b : List Int) : Prop :=
  ∃ g c, u = .slice (some ⟨g, 0, none⟩) m c ∧ m ≤ c ∧ ¬ F g ∧ v.ownBlock ≠ some g ∧ g < w.heap.size ∧ RB w w.heap.size (some ⟨g, 0, none⟩) m b
/-- The list l, in a row from block base on, apart from the blocks F. -/
structure PRow (e m : Nat) (w : World) (F : Nat → Prop) (base : Nat) (v : Value) (l : List (Int × List Int)) : Prop where
  row : ∃ vs, w.ownsRow base e 2 v l.length vs ∧ ∀ (i : Nat) (x : Int × List Int), l[i]? = some x → vs[i * 2]? = some (.int .i64 x.1) ∧ ∃ u, vs[i * 2 + 1]? = some u ∧ Far w F v u m x.2
  out : ∀ r, v.ownBlock = some r → ¬ F r

section
variable {e m : Nat} {w w' : World} {F F' : Nat → Prop} {base : Nat} {v : Value} {l : List (Int × List Int)}

theorem PRow.start (e m : Nat) (w : World) (F : Nat → Prop) (base : Nat) : PRow e m w F base (.slice none 0 0) [] :=
  ⟨⟨[], ⟨rfl, .inl ⟨rfl, rfl⟩⟩, fun i x h => by simp at h⟩, fun r h => by simp [Value.ownBlock] at h⟩
theorem Far.keep {v u : Value} {b : List Int} (hm : 0 < m) (h : Far w F v u m b) (hs : w.heap.size ≤ w'.heap.size) (hF : ∀ k, k < w.heap.size → ¬ F k → ¬ F' k) (hk : ∀ k, k < w.heap.size → ¬ F k → v.ownBlock ≠ some k → w'.heap[k]? = w.heap[k]?) : Far w' F' v u m b := by
  obtain ⟨g, c, h4, h5, h6, h7, h8, h9⟩ := h
  exact ⟨g, c, h4, h5, hF g h8 h6, h7, by omega, h9.there hm (hk g h8 h6 h7) hs⟩
/-- Blocks that are not F's, and were there, stand. -/
theorem PRow.keep (hm : 0 < m) (h : PRow e m w F base v l) (hs : w.heap.size ≤ w'.heap.size) (hF : ∀ k, k < w.heap.size → ¬ F k → ¬ F' k) (hk : ∀ k, k < w.heap.size → ¬ F k → w'.heap[k]? = w.heap[k]?) : PRow e m w' F' base v l := by
  obtain ⟨vs, h1, h2⟩ := h.row
  refine ⟨⟨vs, own_stays h1 (fun g hg => hk g (own_at h1 g hg).2 (h.out g hg)), fun i x hx => ?_⟩, fun r hr => hF r (own_at h1 r hr).2 (h.out r hr)⟩
  obtain ⟨h3, u, h4, h5⟩ := h2 i x hx
  exact ⟨h3, u, h4, h5.keep hm hs hF (fun k hk1 hk2 _ => hk k hk1 hk2)⟩
theorem PRow.below (hm : 0 < m) (h : PRow e m w F base v l) (hb : Below w.heap.size w w') : PRow e m w' F base v l := h.keep hm hb.size (fun _ _ h => h) (fun k hk _ => hb.block k hk)

/-- The list has one more: new blocks are laid ahead of the append. -/
theorem PRow.push (hm : 0 < m) {X w1 : World} {v' : Value} {x : Int} {u : Value} {b : List Int} (h : PRow e m w F base v l) (hFlt : ∀ k, F k → k < w.heap.size) (hu : Far w F v u m b) {vs : List Value} (hvs : w.ownsRow base e 2 v l.length vs) (hvl : ∀ (i : Nat) (x : Int × List Int), l[i]? = some x → vs[i * 2]? = some (.int .i64 x.1) ∧ ∃ u, vs[i * 2 + 1]? = some u ∧ Far w F v u m x.2)
    (hX : Below w.heap.size w X) (hown : w1.ownsRow base e 2 v' (l.length + 1) (vs ++ [.int .i64 x, u])) (hg : X.grownBy w1 v.ownBlock) (hl : v'.ownBlock = v.ownBlock ∨ ∃ r, v'.ownBlock = some r ∧ w.heap.size ≤ r) :
    PRow e m w1 F base v' (l ++ [(x, b)]) ∧ w.heap.size ≤ w1.heap.size ∧ ∀ k, k < w.heap.size → v.ownBlock ≠ some k → w1.heap[k]? = w.heap[k]? := by
  have hs : w.heap.size ≤ w1.heap.size := Nat.le_trans hX.size hg.size
  have hall : ∀ k, k < w.heap.size → v.ownBlock ≠ some k → w1.heap[k]? = w.heap[k]? := fun k hk hne => (hg.block k (Nat.lt_of_lt_of_le hk hX.size) (fun e => hne e.symm)).trans (hX.block k hk)
  have far : ∀ {u : Value} {y : List Int}, Far w F v u m y → Far w1 F v' u m y := fun {u y} ha => by
    obtain ⟨g, c, h4, h5, h6, h7, h8, h9⟩ := ha
    refine ⟨g, c, h4, h5, h6, fun e => ?_, by omega, h9.there hm (hall g h8 h7) hs⟩
    rcases hl with a | ⟨rr, a, hrr⟩
    · exact h7 (a.symm.trans e)
    · rw [a] at e; injection e with e; omega
  have hlen : (l ++ [(x, b)]).length = l.length + 1 := by simp
  have hvlen : vs.length = l.length * 2 := hvs.1
  refine ⟨⟨⟨vs ++ [.int .i64 x, u], by rw [hlen]; exact hown, fun i y hy => ?_⟩, fun r hr => ?_⟩, hs, hall⟩
  · rcases Nat.lt_or_ge i l.length with hi | hi
    · rw [List.getElem?_append_left hi] at hy
      obtain ⟨h3, z, h4, h5⟩ := hvl i y hy
      exact ⟨by rw [List.getElem?_append_left (by omega)]; exact h3, z, by rw [List.getElem?_append_left (by omega)]; exact h4, far h5⟩
    · rw [List.getElem?_append_right hi] at hy
      have hi0 : i - l.length = 0 := by
        have := (List.getElem?_eq_some_iff.1 hy).1
        simp at this
        omega
      rw [hi0] at hy
      obtain rfl : (x, b) = y := by simpa using hy
      obtain rfl : i = l.length := by omega
      refine ⟨?_, u, ?_, far hu⟩
      · rw [List.getElem?_append_right (by omega), hvlen, Nat.sub_self]; rfl
      · rw [List.getElem?_append_right (by omega), hvlen, show l.length * 2 + 1 - l.length * 2 = 1 by omega]; rfl
  · rcases hl with a | ⟨rr, a, hrr⟩
    · exact h.out r (a.symm.trans hr)
    · rw [a] at hr
      injection hr with hr
      intro hf
      have := hFlt r hf
      omega

/-- How it is read. -/
theorem PRow.imgs (h : PRow e m w F base v l) (hm : 0 < m ∧ m ≤ 9223372036854775807) : ∃ A c, v = .slice A l.length c ∧ l.length ≤ c ∧ RImgs w F A l.length l := by
  obtain ⟨vs, h1, h2⟩ := h.row
  rcases h1.2 with ⟨rfl, h0⟩ | ⟨g, cap, cur, rfl, hb, hg, hc, _, _, htake⟩
  · rw [h0]
    exact ⟨none, 0, rfl, Nat.le_refl _, List.eq_nil_of_length_eq_zero h0 ▸ rfl, fun hn => absurd hn (by omega)⟩
  · refine ⟨_, cap, rfl, hc, rfl, fun hn => ⟨g, rfl, h.out g (by simp [Value.ownBlock]), (Array.getElem?_eq_some_iff.1 hg).1, fun i y hy => ?_⟩⟩
    have hi := (List.getElem?_eq_some_iff.1 hy).1
    obtain ⟨h3, u, h4, g2, c2, rfl, h6, h7, h8, h9, h10⟩ := h2 i y hy
    refine ⟨?_, some ⟨g2, 0, none⟩, m, c2, ?_, h6, hm.2, h10, fun a ha _ => by cases ha; exact h7⟩
    · rw [cell_of_row w g (i * 2) cur _ (0, 0) hg, ← h3, ← htake, List.getElem?_take, if_pos (by omega)]
      simp
    · rw [cell_of_row w g (i * 2 + 1) cur _ (0, 0) hg, ← h4, ← htake, List.getElem?_take, if_pos (by omega)]
      simp
end

theorem wpList_append_two {w : World} {ops : Array Oper} {rest : List Oper} {o : Oper} {a : Act} {Q : Exit → Act → World → Prop} (hgd : o.guard = none) (s x : Operand) (t e : TypeId)
    (ho : o.op = .call { callee := .builtin .append, args := #[s, x], argTypes := #[t, t] })
    (ht : Tryd.prog.underlying t = some (.slice e)) (hinfo : (Tryd.prog.info? e).map (fun i => (i.zero, i.size, i.bytes)) = some (some (.agg #[.int .i64 0, .slice none 0 0]), 2, 32))
    (base : Nat) (v : Value) (n : Nat) (xs : List Value) (hs : a.eval s = v) (b : Nat) (z u : Value) (T : TypeId) (hx : a.eval x = .slice (some ⟨b, 0, none⟩) 1 1)
    (hown : w.ownsRow base e 2 v n xs) (hb : w.heap[b]? = some (.cells #[z, u] T)) (hz : z.oneCell' = true) (hu : u.oneCell' = true) (h63 : n ≤ 4294967296) (hbase : base ≤ w.heap.size)
    (h : ∀ A' c' w', w'.ownsRow base e 2 (.slice A' (n + 1) c') (n + 1) (xs ++ [z, u]) → w.grownBy w' v.ownBlock → ((Value.slice A' (n + 1) c').ownBlock = v.ownBlock ∨ (Value.slice A' (n + 1) c').ownBlock = some w.heap.size) → wpList Tryd.prog ops Q rest (a.put o.dst (.slice A' (n + 1) c')) w') : wpList Tryd.prog ops Q (o :: rest) a w := by
  obtain ⟨i0, hi, hz0, hz1, hz2⟩ := info_parts hinfo
  refine wpList_append_own_at w hgd s x t ho base e i0 (.agg #[.int .i64 0, .slice none 0 0]) 2 32 ht hi hz0 hz1 hz2 rfl (by decide) v n _ hs hown ⟨b, 0, none⟩ 1 1 [z, u] hx rfl (World.news_of_block (cs := #[z, u]) hb) (fun y hy => ?_) (by unfold maxLen; omega) (by omega) hbase ?_
  · rcases List.mem_cons.1 hy with rfl | hy
    · exact hz
    · obtain rfl := List.mem_singleton.1 hy; exact hu
  intro v' w' h1 h2 _ h4
  obtain ⟨g, cap, rfl, _⟩ := h1.form (Nat.succ_pos _)
  exact h _ cap w' h1 h2 h4

end Go.Proofs.YtkpmfobmlaldfaaDoor

/-
  Contracts of the program's redo and Open, over any disk that answers as it is to. Conditions: fewer than 2^63 - 1 writes; the table that crc.Step reads holds what the program's text lays in it, apart from the disk.
-/
namespace Go.Proofs.YtkpmfobmlaldfaaDoor
open Go.RowKit
set_option maxRecDepth 100000
set_option linter.unusedVariables false

/-- Sectors at their homes. -/
def atHomes (P : Int) (l : List (Int × List Int)) : List (Int × List Int) := l.map fun y => (y.1 + 1 + P, y.2)
theorem putS_homes (l : List (Int × List Int)) : ∀ S : DS, putS S (atHomes S.P l) = homesS S l := by
  induction l with
  | nil => intro S; rfl
  | cons y r ih =>
    intro S
    rw [homesS_cons]
    show thenS (S.wr (y.1 + 1 + S.P) y.2) (fun S' => putS S' (atHomes S.P r)) = thenS (S.wr (y.1 + 1 + S.P) y.2) (fun S' => homesS S' r)
    by_cases h : (S.wr (y.1 + 1 + S.P) y.2).1 = 0
    · rw [thenS_ok h, thenS_ok h]
      have hn : (S.wr (y.1 + 1 + S.P) y.2).2.P = S.P := by
        show pagesOf _ = pagesOf _
        rw [show (S.wr (y.1 + 1 + S.P) y.2).2.n = S.n from P_write _ _ _]
      have := ih (S.wr (y.1 + 1 + S.P) y.2).2
      rw [hn] at this
      exact this
    · rw [thenS_no h, thenS_no h]
/-- What redo answers. -/
def redoS (S : DS) (r : Option (List (Int × List Int))) : Int × DS := match r with | none => (0, S) | some l => homesS S l

section
variable {D : World → (Nat → Prop) → Addr → DS → Prop} {w : World} {F : Nat → Prop} {p : Addr} {S : DS} {q : Nat} {seq : Int}

set_option maxHeartbeats 4000000 in
theorem redo_any (api : DiskApi D) (h : D w F p S) (hq : PLog w q p seq) (ht : TabF w F) (hd : S.down = false) (count : Nat) (hc : count ≤ 4294967296) (hw : S.writes ≤ 9223372036854700000) :
    Calls Tryd.prog 38 #[.pointer (some ⟨q, 0, none⟩), .int .i64 (count : Int)] w fun e w' => e = .returned (.int .i64 (redoS S (slotsOf S.n S.last count seq)).1) ∧ WroteD D w F p (redoS S (slotsOf S.n S.last count seq)).2 w' := by
  have hok := api.ok _ _ _ _ h
  have hlt := api.lt _ _ _ _ h
  have hsz := hok.size
  have hpb := pagesOf_bounds (S.n : Int)
  have hpn := (pagesOf_nn (S.n : Int)).2.1 (by omega)
  have HP := Lib.hid (pages_any api h hq)
  have HH := Lib.hid (fun w1 (hb : Below w.heap.size w w1) i hi => homeOf_any api (api.below h hb) (hq.below hb) (ht.below hb) hd i hi)
  have HD := Lib.hid (fun w1 (hb : Below w.heap.size w w1) => api.below h hb)
  have LC := Lib.hid (fun w1 (hb : Below w.heap.size w w1) => (hq.below hb).cells)
  have HL := Lib.hid (fun w1 (hb : Below w.heap.size w w1) => WroteD.later api h hb)
  clear hq ht h
  by_cases hcp : pagesOf (S.n : Int) < (count : Int)
  · have k1 : decide (pagesOf (S.n : Int) < (count : Int)) = true := by simpa using hcp
    have HN := Lib.hid (show slotsOf S.n S.last count seq = none by unfold slotsOf; rw [if_pos hcp])
    clear hcp
    go_enter Tryd.func38, Tryd.ntmps38
    go_wp2_with fail
    refine HP.out.mono ?_
    rintro e w1 ⟨rfl, hb⟩
    have hF := Lib.hid (HL.out _ hb)
    clear hb
    go_wp2
    go_ret
    rw [HN.out]
    exact ⟨rfl, hF.out⟩
  · have k1 : decide (pagesOf (S.n : Int) < (count : Int)) = false := by simpa using hcp
    have HSO := Lib.hid (show ∀ r, slotsUp S.n S.last seq count = r → slotsOf S.n S.last count seq = r from fun r hr => by unfold slotsOf; rw [if_neg (by omega), Int.toNat_natCast]; exact hr)
    go_enter Tryd.func38, Tryd.ntmps38
    go_wp2_with fail
    refine HP.out.mono ?_
    rintro e w1 ⟨rfl, hb1⟩
    have HB1 := Lib.hid hb1
    clear hb1
    go_wp2
    go_loopw [5, 15] (fun ov i wr => ∃ (k : Nat) (l : List (Int × List Int)), k ≤ count ∧ i = .int .i64 k ∧ Hid (slotsUp S.n S.last seq k = some l ∧ PRow 81 256 wr F w.heap.size ov (atHomes (pagesOf S.n) l) ∧ Below w.heap.size w wr)) (fun _ i _ => count - (intOf i).toNat)
    case atStart => exact ⟨0, [], Nat.zero_le _, rfl, Lib.hid ⟨rfl, PRow.start _ _ _ _ _, HB1.out⟩⟩
    case round =>
      obtain ⟨k, l, hk, rfl, hM⟩ := hrel
      by_cases hlt2 : k < count
      · obtain ⟨hup, hrow, hb⟩ := hM.out
        have hlt' : (k : Int) < (count : Int) := by omega
        have hho := HH.out wr hb k (by omega)
        obtain ⟨A0, c0, rfl, hAc, _⟩ := hrow.imgs (by decide)
        go_wp2_with fail
        refine hho.mono ?_
        rintro e w2 ⟨hb2, hr⟩
        have hb02 := hb.trans (hb2.mono hb.size)
        rcases hsi : slotIn S.n S.last seq k with _ | y
        · rw [hsi] at hr
          have hr : e = .returned (.tuple #[.agg #[.int .i64 0, .slice none 0 0], .bool false, .int .i64 0]) := hr
          subst hr
          have HN := Lib.hid (HSO.out none (slotsUp_none (slotsUp_stop hsi) (by omega)))
          have hF := Lib.hid (HL.out _ ((hb02.alloc hb02.size (.cells #[.int .i64 0, .slice none 0 0] 81))))
          clear hrow hup hM hsi hb2 hb hho hb02
          go_wp2
          go_ret
          rw [HN.out]
          exact ⟨rfl, hF.out⟩
        · rw [hsi] at hr
          obtain ⟨g, c, rfl, h256, hg, hrb⟩ : ∃ g c, e = .returned (.tuple #[.agg #[.int .i64 (y.1 + 1 + pagesOf S.n), .slice (some ⟨g, 0, none⟩) 256 c], .bool true, .int .i64 0]) ∧ 256 ≤ c ∧ wr.heap.size ≤ g ∧ RB w2 w2.heap.size (some ⟨g, 0, none⟩) 256 y.2 := hr
          have hgl : g < w2.heap.size := by obtain ⟨bb, _, e, hbb, _⟩ := hrb.at_ (by decide); cases e; exact hbb
          have hbs := hb.size
          have hX1 : Below w2.heap.size w2 (w2.alloc (.cells #[.int .i64 (y.1 + 1 + pagesOf S.n), .slice (some ⟨g, 0, none⟩) 256 c] 81)) := (Below.refl _ _).alloc (Nat.le_refl _) _
          have hrow2 := hrow.below (by decide) hb2
          obtain ⟨vs, hvs, hvl⟩ := hrow2.row
          have hX2 : Below w2.heap.size w2 ((w2.alloc (.cells #[.int .i64 (y.1 + 1 + pagesOf S.n), .slice (some ⟨g, 0, none⟩) 256 c] 81)).alloc (.cells #[.int .i64 (y.1 + 1 + pagesOf S.n), .slice (some ⟨g, 0, none⟩) 256 c] 81)) := hX1.alloc hX1.size _
          have hvsX := own_stays hvs (fun r hr => hX2.block r (own_at hvs r hr).2)
          have hbk : ((w2.alloc (.cells #[.int .i64 (y.1 + 1 + pagesOf S.n), .slice (some ⟨g, 0, none⟩) 256 c] 81)).alloc (.cells #[.int .i64 (y.1 + 1 + pagesOf S.n), .slice (some ⟨g, 0, none⟩) 256 c] 81)).heap[w2.heap.size + 1]? = some (.cells #[.int .i64 (y.1 + 1 + pagesOf S.n), .slice (some ⟨g, 0, none⟩) 256 c] 81 (0, 0)) := by
            have := heap_alloc_new (w2.alloc (.cells #[.int .i64 (y.1 + 1 + pagesOf S.n), .slice (some ⟨g, 0, none⟩) 256 c] 81)) (.cells #[.int .i64 (y.1 + 1 + pagesOf S.n), .slice (some ⟨g, 0, none⟩) 256 c] 81)
            simpa using this
          have hno : (Value.slice A0 (atHomes (pagesOf S.n) l).length c0).ownBlock ≠ some g := fun e => by
            obtain ⟨vs0, hv0, _⟩ := hrow.row
            have := (own_at hv0 g e).2
            omega
          have hfar : Far w2 F (.slice A0 (atHomes (pagesOf S.n) l).length c0) (.slice (some ⟨g, 0, none⟩) 256 c) 256 y.2 := ⟨g, c, rfl, h256, fun hf => by have := hlt g hf; omega, hno, hgl, hrb⟩
          have hllen : (atHomes (pagesOf S.n) l).length = k := by rw [← (slotsUp_mem k hup).1]; simp [atHomes]
          have HPU := Lib.hid (fun (w3 : World) (A' : Option Addr) (c' : Nat) h1 h2 h3 => hrow2.push (v' := .slice A' ((atHomes (pagesOf S.n) l).length + 1) c') (w1 := w3) (x := y.1 + 1 + pagesOf S.n) (by decide) (fun k hk => by have := hlt k hk; have := hb02.size; omega) hfar hvs hvl hX2 h1 h2 h3)
          have HUP := Lib.hid (slotsUp_next hup hsi)
          have HB02 := Lib.hid hb02
          have HAT : atHomes (pagesOf S.n) (l ++ [y]) = atHomes (pagesOf S.n) l ++ [(y.1 + 1 + pagesOf S.n, y.2)] := by simp [atHomes]
          have hs2 := hb02.size
          have HOV := Lib.hid (fun r hr => (own_at hvs r hr).1)
          have hk64 : (atHomes (pagesOf S.n) l).length ≤ 4294967296 := by omega
          clear hrow hup hM hsi hb2 hb hho hrow2 hfar hvl hrb hX1 hb02 hvs hno hllen
          generalize atHomes (pagesOf S.n) l = LL at *
          go_wp2_with (at_builtin; refine wpList_append_two rfl _ _ 109 81 rfl Tryd.underlying109 info_piece w.heap.size (.slice A0 LL.length c0) LL.length vs rfl (w2.heap.size + 1) (.int .i64 (y.1 + 1 + pagesOf S.n)) (.slice (some ⟨g, 0, none⟩) 256 c) 81 rfl hvsX hbk rfl rfl (by omega) (by simp; omega) ?_; intro A4 c4 w4 hown4 hg4 hl4; have HO4 := Lib.hid (And.intro hown4 (And.intro hg4 hl4)); clear hown4 hg4 hl4)
          obtain ⟨q1, q2, q3⟩ := HPU.out w4 A4 c4 HO4.out.1 HO4.out.2.1 (by
            rcases HO4.out.2.2 with a | a
            · exact .inl a
            · exact .inr ⟨_, a, by simp; omega⟩)
          have hb4 : Below w.heap.size w w4 := (HB02.out.trans (hX2.mono hs2)).grown HO4.out.2.1 (by have := hX2.size; omega) HOV.out
          have HRE := Lib.hid (And.intro HUP.out (And.intro q1 hb4))
          clear q1 q2 q3 hb4 hX2 hvsX hbk
          go_roundw
          case rel => exact ⟨k + 1, l ++ [y], by omega, by go_num, Lib.hid ⟨HRE.out.1, HAT ▸ HRE.out.2.1, HRE.out.2.2⟩⟩
          case measure => simp [intOf]; omega
      · obtain rfl : k = count := by omega
        obtain ⟨hup, hrow, hb⟩ := hM.out
        have HSO2 := Lib.hid (HSO.out _ hup)
        obtain ⟨A0, c0, rfl, hAc, him⟩ := hrow.imgs (by decide)
        obtain ⟨l0, l1, _, _⟩ := LC.out wr hb
        have hll := (slotsUp_mem k hup).1
        have hlh : (atHomes (pagesOf S.n) l).length = k := by rw [← hll]; simp [atHomes]
        have h256 : ∀ y ∈ atHomes (pagesOf S.n) l, y.2.length = 256 := fun y hy => by
          obtain ⟨z, hz, rfl⟩ := List.mem_map.1 hy
          obtain ⟨i, hi, e⟩ := List.getElem_of_mem hz
          obtain ⟨_, _, _, e4⟩ := slotIn_some ((slotsUp_mem k hup).2 i z (by rw [List.getElem?_eq_getElem hi, e]))
          rw [e4]
          exact (hok.lastBytes _).1
        have HPT := Lib.hid (put_any api (c := c0) (HD.out wr hb) him h256 (by omega) (by omega))
        have HTB := Lib.hid (Touch.of_below (F := F) hb)
        have HPH := Lib.hid (show putS S (atHomes (pagesOf S.n) l) = homesS S l from putS_homes l S)
        clear hup hrow hb hM him h256 hll hlh
        go_wp2_with fail
        refine HPT.out.mono ?_
        rw [HPH.out]
        rintro e w2 ⟨rfl, hW⟩
        have hF := Lib.hid (WroteD.join HTB.out (fun k hk => .inl hk) hW)
        clear hW
        go_wp2
        go_ret
        rw [HSO2.out]
        exact ⟨rfl, hF.out⟩

/-- What Open leaves: the disk, and a log apart from it, if there is one. -/
def OpenedD (D : World → (Nat → Prop) → Addr → DS → Prop) (w : World) (F : Nat → Prop) (p : Addr) (r : Int × Int × DS) (e : Ending) (w' : World) : Prop :=
  (r.1 ≠ 0 ∧ e = .returned (.tuple #[.pointer none, .int .i64 r.1]) ∧ WroteD D w F p r.2.2 w') ∨
  (r.1 = 0 ∧ ∃ q F', e = .returned (.tuple #[.pointer (some ⟨q, 0, none⟩), .int .i64 0]) ∧ w.heap.size ≤ q ∧ PLog w' q p r.2.1 ∧ ¬ F' q ∧ D w' F' p r.2.2 ∧ Touch F w w' ∧ ∀ k, F' k → F k ∨ w.heap.size ≤ k)

theorem openTail_redo (S : DS) (seq : Int) (r : Option (List (Int × List Int))) : openTail S seq r = if (redoS S r).1 ≠ 0 then ((redoS S r).1, 0, (redoS S r).2) else (0, seq, (redoS S r).2) := by
  cases r with
  | none => rfl
  | some l => rfl

/-- What is left behind redo, of a log that was laid ahead of it. -/
theorem opened_end (api : DiskApi D) {w1 w2 : World} {R : Int × DS} (h : D w F p S) (hX : Below w.heap.size w w1) (hq : PLog w1 q p seq) (hqw : w.heap.size ≤ q) (hW : WroteD D w1 F p R.2 w2) :
    WroteD D w F p R.2 w2 ∧ ∃ F', PLog w2 q p seq ∧ ¬ F' q ∧ D w2 F' p R.2 ∧ Touch F w w2 ∧ ∀ k, F' k → F k ∨ w.heap.size ≤ k := by
  have hlt := api.lt _ _ _ _ h
  have hqF : ¬ F q := fun hf => by have := hlt q hf; omega
  refine ⟨WroteD.join (Touch.of_below hX) (fun k hk => .inl hk) hW, ?_⟩
  obtain ⟨F', j1, j2, j3⟩ := hW
  have hql := hq.cells.2.2.2
  refine ⟨F', hq.keep (j2.block q hql hqF), fun hf => ?_, j1, (Touch.of_below hX).join (fun k hk => .inl hk) j2, new_join hX.size (fun k hk => .inl hk) j3⟩
  rcases j3 q hf with a | a
  · exact hqF a
  · omega

set_option maxHeartbeats 3200000 in
theorem open_any (api : DiskApi D) (h : D w F p S) (ht : TabF w F) (hw : S.writes ≤ 9223372036854700000) :
    Calls Tryd.prog 15 #[.pointer (some p)] w fun e w' => OpenedD D w F p (openS S) e w' := by
  have hok := api.ok _ _ _ _ h
  have hlt := api.lt _ _ _ _ h
  have hsz := hok.size
  have HM := Lib.hid lay_said.mark
  have HL := Lib.hid (fun w1 (hb : Below w.heap.size w w1) => WroteD.later api h hb)
  by_cases hd : S.down = true
  · have hO : openS S = (5, 0, S) := by unfold openS; rw [if_pos hd]
    have hre : S.readE 0 = 5 := by simp [DS.readE, hd]
    have HRD := Lib.hid (api.read 0 w F p S h)
    rw [hre] at HRD
    rw [hO]
    clear hO hre h hok hd ht
    go_enter Tryd.func15, Tryd.ntmps15
    go_wp2_with (go_at_call 36; refine (HM.out _).mono ?_; rintro e w3 ⟨rfl, rfl⟩)
    refine HRD.out.mono ?_
    rintro e w1 ⟨A, n, c, rfl, _, _, hb⟩
    have HW := Lib.hid (HL.out w1 hb)
    clear hb
    go_wp2
    go_ret2
    exact .inl ⟨by show ¬ (5 : Int) = 0; decide, rfl, HW.out⟩
  have hd' : S.down = false := by simpa using hd
  have hre : S.readE 0 = 0 := by
    unfold DS.readE
    rw [if_neg (by simp [hd']), if_pos (show S.has _ from ⟨by omega, by omega⟩)]
  have HRD := Lib.hid (api.readAt 0 w F p S h hre)
  rw [show (0 : Int).toNat = 0 from rfl] at HRD
  have HT := Lib.hid (fun w1 (hb : Below w.heap.size w w1) => ht.below hb)
  have HUP := Lib.hid unpack_said
  by_cases he : (unpackR (S.last 0)).2.2.2 = 0
  · have hcnt := unpack_count he
    have hpg := unpack_page he
    obtain ⟨count, hcount⟩ := Int.eq_ofNat_of_zero_le hpg.1
    have HE := Lib.hid he
    have HC := Lib.hid hcount
    have HR := Lib.hid (fun (w1 : World) (hb : Below w.heap.size w w1) (q : Nat) (hq : PLog w1 q p (unpackR (S.last 0)).2.1) => redo_any api (api.below h hb) hq (ht.below hb) hd' count (by omega) hw)
    have HO := Lib.hid (show openS S = openTail S (unpackR (S.last 0)).2.1 (slotsOf S.n S.last count (unpackR (S.last 0)).2.1) by rw [openS_up hd' he, hcount])
    have HD0 := Lib.hid h
    clear hd hd' hcnt hpg hcount he hre h hok ht
    generalize hseq : (unpackR (S.last 0)).2.1 = seq at HR HO ⊢
    have HSQ := Lib.hid hseq
    clear hseq
    go_enter Tryd.func15, Tryd.ntmps15
    go_wp2_with (go_at_call 36; refine (HM.out _).mono ?_; rintro e w3 ⟨rfl, rfl⟩)
    refine HRD.out.mono ?_
    rintro e w1 ⟨g, c, rfl, hc, hg, hr1, hb1⟩
    have ht1 := HT.out w1 hb1
    go_wp2_with fail
    refine (HUP.out (some ⟨g, 0, none⟩) 256 c _ _ w1 hr1 (Nat.le_refl _) hc (by omega) ht1.tab ht1.lt).mono ?_
    rw [HE.out, HC.out, HSQ.out]
    rintro e w2 ⟨A2, n2, c2, rfl, _, _, hb2⟩
    have hb02 := hb1.trans (hb2.mono hb1.size)
    have hs02 := hb02.size
    have hX : Below w.heap.size w (w2.alloc (.cells #[.pointer (some p), .int .i64 seq] 88)) := hb02.alloc hs02 _
    have hq : PLog (w2.alloc (.cells #[.pointer (some p), .int .i64 seq] 88)) w2.heap.size p seq := heap_alloc_new _ _
    have HRX := Lib.hid (HR.out _ hX _ hq)
    have HX := Lib.hid (And.intro hX hq)
    clear hr1 hb1 hb2 hb02 hX hq ht1
    go_wp2_with fail
    refine HRX.out.mono ?_
    rintro e w4 ⟨rfl, hW⟩
    have HEND := Lib.hid (opened_end (R := redoS S (slotsOf S.n S.last count seq)) api HD0.out HX.out.1 HX.out.2 hs02 hW)
    have HO2 := Lib.hid (HO.out.trans (openTail_redo S seq (slotsOf S.n S.last count seq)))
    clear hW HRX HR HO
    generalize redoS S (slotsOf S.n S.last count seq) = R at HEND HO2 ⊢
    by_cases h0 : R.1 = 0
    · have H0 := Lib.hid h0
      have HO3 := Lib.hid (HO2.out.trans (if_neg (fun h => h h0)))
      rw [h0]
      clear h0 HO2
      go_wp2
      go_ret2
      rw [HO3.out]
      obtain ⟨_, F', q1⟩ := HEND.out
      exact .inr ⟨rfl, _, F', rfl, hs02, q1⟩
    · have H0 := Lib.hid h0
      have kne : (R.1 != 0) = true := by simpa using h0
      have HO3 := Lib.hid (HO2.out.trans (if_pos h0))
      clear h0 HO2
      go_wp2
      go_ret2
      rw [HO3.out]
      exact .inl ⟨H0.out, rfl, HEND.out.1⟩
  · have he4 : (unpackR (S.last 0)).2.2.2 = 4 := by
      rcases unpack_err (S.last 0) with e | e
      · exact absurd e he
      · exact e
    have HO := Lib.hid (show openS S = (4, 0, S) by unfold openS; rw [if_neg hd, if_pos he])
    have HE := Lib.hid he4
    clear he he4 hd hd' h hre ht hok
    go_enter Tryd.func15, Tryd.ntmps15
    go_wp2_with (go_at_call 36; refine (HM.out _).mono ?_; rintro e w3 ⟨rfl, rfl⟩)
    refine HRD.out.mono ?_
    rintro e w1 ⟨g, c, rfl, hc, hg, hr1, hb1⟩
    have ht1 := HT.out w1 hb1
    go_wp2_with fail
    refine (HUP.out (some ⟨g, 0, none⟩) 256 c _ _ w1 hr1 (Nat.le_refl _) hc (by omega) ht1.tab ht1.lt).mono ?_
    rw [HE.out]
    rintro e w2 ⟨A2, n2, c2, rfl, _, _, hb2⟩
    have HW := Lib.hid (HL.out w2 (hb1.trans (hb2.mono hb1.size)))
    clear hr1 hb1 hb2 ht1
    go_wp2
    go_ret2
    rw [HO.out]
    exact .inl ⟨by show ¬ (4 : Int) = 0; decide, rfl, HW.out⟩
end

end Go.Proofs.YtkpmfobmlaldfaaDoor

/-
  Maps by whole numbers, as a function from numbers to what stands there, for any values: made, looked up, stored into, cleared; what keeps one. Condition of a store: fewer entries than 2^63 - 1.
-/
namespace Go.Proofs.YtkpmfobmlaldfaaDoor
open Go.RowKit Go.Maps Go.ChangeMaps Go.MapKept
set_option maxRecDepth 100000
set_option linter.unusedVariables false

/-- An element as itself. -/
def asItself (v : Value) : Option (DataW Value × List MemPlace) := some (.held v, [])
theorem int_key : Keyed Tryd.prog 3 := int_keyed Tryd.underlying3
theorem key_of {i : Int} (h : -9223372036854775808 ≤ i ∧ i ≤ 9223372036854775807) : keyOf Tryd.prog 3 (.int .i64 i) = some (.int .i64 i) :=
  keyOf_int_mk Tryd.underlying3 (WalkArith.wf_i64 (by omega))

/-- Block b of w is a map of at most n entries: at i stands f i. -/
def IMap (w : World) (b n : Nat) (f : Int → Option Value) : Prop :=
  ∃ D : DataW Value, w.ownsMap Tryd.prog 3 asItself b n D ∧ ∀ i : Int, Maps.has D (.int .i64 i) = (f i).isSome ∧ ∀ v z, f i = some v → D.atKey (.int .i64 i) z = .held v

section
variable {w w' : World} {b n : Nat} {f : Int → Option Value}
theorem IMap.made (w : World) : IMap (w.alloc (.map #[] 0)) w.heap.size 0 (fun _ => none) :=
  ⟨_, World.ownsMap_made w _ _ _, fun i => ⟨rfl, fun v z h => by cases h⟩⟩
theorem IMap.lt (h : IMap w b n f) : b < w.heap.size := by
  obtain ⟨D, h1, _⟩ := h
  exact h1.lt
theorem IMap.block (h : IMap w b n f) : ∃ es c, w.heap[b]? = some (.map es c) := by
  obtain ⟨D, ⟨es, c, hb, _⟩, _⟩ := h
  exact ⟨es, c, hb⟩
theorem IMap.of_block (h : IMap w b n f) (e : w'.heap[b]? = w.heap[b]?) : IMap w' b n f := by
  obtain ⟨D, ⟨es, c, hb, rest⟩, hf⟩ := h
  exact ⟨D, ⟨es, c, e.trans hb, rest⟩, hf⟩
theorem IMap.mono (h : IMap w b n f) {m : Nat} (hm : n ≤ m) : IMap w b m f := by
  obtain ⟨D, h1, hf⟩ := h
  exact ⟨D, h1.mono hm, hf⟩
theorem IMap.congr (h : IMap w b n f) {g : Int → Option Value} (e : ∀ i, f i = g i) : IMap w b n g := by
  obtain ⟨D, h1, hf⟩ := h
  exact ⟨D, h1, fun i => by rw [← e i]; exact hf i⟩
theorem atKey_not {D : DataW Value} {k : Lit} (h : Maps.has D k = false) (z : DataW Value) : D.atKey k z = z := Maps.atKey_of_not_has h z

theorem IMap.look (h : IMap w b n f) {t e : TypeId} (ht : Tryd.prog.underlying t = some (.map 3 e)) {z : Value} (hz : (zeroValue e).run Tryd.prog w = .ok z w) {i : Int} (hi : -9223372036854775808 ≤ i ∧ i ≤ 9223372036854775807) :
    (Instr.lookup t (.map (some b)) (.int .i64 i) true).run Tryd.prog w = .ok (.tuple #[(f i).getD z, .bool (f i).isSome]) w := by
  obtain ⟨D, h1, hf⟩ := h
  obtain ⟨v, ps, hrun, hv⟩ := h1.look_ok int_key ht hz (show asItself z = some (.held z, []) from rfl) (key_of hi)
  obtain ⟨hh, ha⟩ := hf i
  rw [hrun, hh]
  have hv' : DataW.held v = D.atKey (.int .i64 i) (.held z) := by
    have := Option.some.inj hv
    exact congrArg Prod.fst this
  rcases hfi : f i with _ | u
  · rw [hfi] at hh
    rw [atKey_not hh] at hv'
    cases hv'; rfl
  · rw [ha u _ hfi] at hv'
    cases hv'; rfl
theorem IMap.get (h : IMap w b n f) {t e : TypeId} (ht : Tryd.prog.underlying t = some (.map 3 e)) {z : Value} (hz : (zeroValue e).run Tryd.prog w = .ok z w) {i : Int} (hi : -9223372036854775808 ≤ i ∧ i ≤ 9223372036854775807) {u : Value} (hu : f i = some u) :
    (Instr.lookup t (.map (some b)) (.int .i64 i) false).run Tryd.prog w = .ok u w := by
  obtain ⟨D, h1, hf⟩ := h
  obtain ⟨v, ps, hrun, hv⟩ := h1.lookup int_key ht hz (show asItself z = some (.held z, []) from rfl) (key_of hi)
  obtain ⟨hh, ha⟩ := hf i
  rw [hrun]
  have hv' : DataW.held v = D.atKey (.int .i64 i) (.held z) := by
    have := Option.some.inj hv
    exact congrArg Prod.fst this
  rw [ha u _ hu] at hv'
  cases hv'; rfl
theorem IMap.store (h : IMap w b n f) {t e : TypeId} (ht : Tryd.prog.underlying t = some (.map 3 e)) (hn : n < maxLen) {i : Int} (hi : -9223372036854775808 ≤ i ∧ i ≤ 9223372036854775807) (u : Value) :
    ∃ w', (Instr.mapUpdate t (.map (some b)) (.int .i64 i) u).run Tryd.prog w = .ok () w' ∧ IMap w' b (n + 1) (fun j => if j = i then some u else f j) ∧ w.grownBy w' (some b) := by
  obtain ⟨D, h1, hf⟩ := h
  obtain ⟨w', hrun, h2, h3⟩ := h1.update int_key ht hn (key_of hi) (show asItself u = some (.held u, []) from rfl)
  refine ⟨w', hrun, ⟨_, h2, fun j => ?_⟩, h3⟩
  by_cases e : j = i
  · subst e
    show Maps.has _ _ = (if j = j then some u else f j).isSome ∧ ∀ v z, (if j = j then some u else f j) = some v → _
    rw [if_pos rfl]
    refine ⟨has_put_same h1.isMap (by trivial) _, fun v z hv => ?_⟩
    cases hv
    exact atKey_put_same h1.isMap (by trivial) _ _
  · show Maps.has _ _ = (if j = i then some u else f j).isSome ∧ ∀ v z, (if j = i then some u else f j) = some v → _
    rw [if_neg e]
    have hne : (Lit.int IntKind.i64 j) ≠ Lit.int IntKind.i64 i := fun h => e (by injection h)
    rw [has_put_other hne]
    refine ⟨(hf j).1, fun v z hv => ?_⟩
    rw [atKey_put_other hne]
    exact (hf j).2 v z hv
theorem IMap.clear_ (h : IMap w b n f) {t e : TypeId} (ht : Tryd.prog.underlying t = some (.map 3 e)) (ty : TypeId) :
    ∃ w', (Builtin.clear_ #[t] ty #[.map (some b)]).run Tryd.prog w = .ok (.tuple #[]) w' ∧ IMap w' b 0 (fun _ => none) ∧ w.grownBy w' (some b) := by
  obtain ⟨D, ⟨es, c, hb, _⟩, _⟩ := h
  refine ⟨ChangeMaps.setBlock w b (.map #[] c), ?_, ⟨.map [], ⟨#[], c, heap_setBlock_same hb _, ⟨by simp, stamped_empty c, by simp⟩, Nat.le_refl _, rfl⟩, fun i => ⟨rfl, fun v z h => by cases h⟩⟩, ⟨rfl, rfl, rfl, by simp [ChangeMaps.setBlock], fun i _ hi => heap_setBlock_other hb _ (fun e => hi (by rw [e]))⟩⟩
  simp [Builtin.clear_, run_underlying ht, MapKept.run_getObj_map hb, MapKept.run_setObj_map _ hb, Result.andThen]
  rfl
end

end Go.Proofs.YtkpmfobmlaldfaaDoor

/-
  How the program's disk lies in memory, and what its parts keep. Plain facts; no condition beyond what each says.
-/
namespace Go.Proofs.YtkpmfobmlaldfaaDoor
open Go.RowKit
set_option maxRecDepth 100000
set_option linter.unusedVariables false

/-- A sector's bytes behind a value: 256 of a block of F's own. -/
def Cont (w : World) (F : Nat → Prop) (v : Value) (l : List Int) : Prop :=
  ∃ g c cur, v = .slice (some ⟨g, 0, none⟩) 256 c ∧ 256 ≤ c ∧ F g ∧ w.heap[g]? = some (.cells cur 5 (0, 0)) ∧ ∀ j, j < 256 → cur[j]? = some (.int .u8 (l[j]?.getD 0))
theorem Cont.keep {w w' : World} {F F' : Nat → Prop} {v : Value} {l : List Int} (h : Cont w F v l) (hF : ∀ k, F k → k < w.heap.size → F' k) (hk : ∀ g cur, F g → w.heap[g]? = some (.cells cur 5 (0, 0)) → w'.heap[g]? = w.heap[g]?) : Cont w' F' v l := by
  obtain ⟨g, c, cur, e, hc, hg, hb, hcell⟩ := h
  exact ⟨g, c, cur, e, hc, hF g hg (Array.getElem?_eq_some_iff.1 hb).1, (hk g cur hg hb).trans hb, hcell⟩
theorem Cont.rb {w : World} {F : Nat → Prop} {v : Value} {l : List Int} (h : Cont w F v l) (hl : l.length = 256 ∧ AllBytes l) : ∃ g c, v = .slice (some ⟨g, 0, none⟩) 256 c ∧ 256 ≤ c ∧ RB w w.heap.size (some ⟨g, 0, none⟩) 256 l := by
  obtain ⟨g, c, cur, e, hc, hg, hb, hcell⟩ := h
  refine ⟨g, c, e, hc, hl.1, hl.2, fun _ => ⟨g, 0, rfl, (Array.getElem?_eq_some_iff.1 hb).1, fun j hj => ?_⟩⟩
  rw [Nat.zero_add, cell_of_row w g j cur 5 (0, 0) hb]
  exact hcell j hj
theorem Cont.of_own {w : World} {F : Nat → Prop} {v : Value} {l : List Int} {base : Nat} (h : w.ownsRow base 5 1 v 256 (l.map (Value.int .u8))) (hF : ∀ k, base ≤ k → F k) : Cont w F v l := by
  have hlen : l.length = 256 := by simpa using h.1
  rcases h.2 with ⟨_, h0⟩ | ⟨g, cap, cur, hv, hbg, hg, hc, _, _, htake⟩
  · cases h0
  · refine ⟨g, cap, cur, hv, hc, hF g hbg, hg, fun j hj => ?_⟩
    have e1 : (l.map (Value.int .u8))[j]? = some (.int .u8 (l[j]?.getD 0)) := by simp [List.getElem?_eq_getElem (show j < l.length by omega)]
    rw [← e1, ← htake, List.getElem?_take, if_pos (by omega)]
    simp

/-- What a sector that may not be there has. -/
def CO (w : World) (F : Nat → Prop) (o : Option Value) (l : List Int) : Prop := match o with | none => l = nought | some v => Cont w F v l

def diskRow (left : Int) (down : Bool) (n sb fb : Nat) (pv : Value) (wr : Nat) : Nat → Value
  | 0 => .int .i64 left
  | 1 => .bool down
  | 2 => .int .i64 n
  | 3 => .map (some sb)
  | 4 => .map (some fb)
  | 5 => pv
  | _ => .int .i64 wr

/-- The disk's maps and list. -/
structure Rest (w : World) (F : Nat → Prop) (sb fb : Nat) (pv : Value) (n : Nat) (safe last : Nat → List Int) (pl : List Nat) (sN fN : Nat) (sf ff : Int → Option Value) : Prop where
  safeM : IMap w sb sN sf
  freshM : IMap w fb fN ff
  ne : sb ≠ fb
  pend : w.ownsRow 0 3 1 pv pl.length ((pl.map Int.ofNat).map (Value.int .i64))
  safeC : ∀ i : Nat, i < n → CO w F (sf i) (safe i)
  freshC : ∀ i : Nat, i < n → ∀ v, ff i = some v → Cont w F v (last i)
  Fs : F sb
  Ff : F fb
  Fp : ∀ g, pv.ownBlock = some g → F g

section
variable {w w' : World} {F F' : Nat → Prop} {b sb fb : Nat} {pv : Value} {n : Nat} {safe last : Nat → List Int} {pl : List Nat} {sN fN : Nat} {sf ff : Int → Option Value}

theorem own_row {base e size m : Nat} {v : Value} {xs : List Value} (h : w.ownsRow base e size v m xs) : ∀ g, v.ownBlock = some g → ∃ cur, w.heap[g]? = some (.cells cur e (0, 0)) := by
  intro g hg
  rcases h.2 with ⟨rfl, _⟩ | ⟨g', cap, cur, rfl, _, hb, _⟩
  · simp [Value.ownBlock] at hg
  · simp [Value.ownBlock] at hg
    subst hg
    exact ⟨cur, hb⟩
theorem own_keep {base e size m : Nat} {v : Value} {xs : List Value} (h : w.ownsRow base e size v m xs) (hk : ∀ g, v.ownBlock = some g → w'.heap[g]? = w.heap[g]?) : w'.ownsRow base e size v m xs := by
  rcases h.2 with h' | ⟨g, cap, cur, rfl, hg, hb, h3⟩
  · exact ⟨h.1, .inl h'⟩
  · exact ⟨h.1, .inr ⟨g, cap, cur, rfl, hg, (hk g (by simp [Value.ownBlock])).trans hb, h3⟩⟩
theorem CO.keep {o : Option Value} {l : List Int} (h : CO w F o l) (hF : ∀ k, F k → k < w.heap.size → F' k) (hk : ∀ g cur, F g → w.heap[g]? = some (.cells cur 5 (0, 0)) → w'.heap[g]? = w.heap[g]?) : CO w' F' o l := by
  rcases o with _ | v
  · exact h
  · exact Cont.keep h hF hk

/-- Nothing of it was written. -/
theorem Rest.keep (h : Rest w F sb fb pv n safe last pl sN fN sf ff) (hF : ∀ k, F k → k < w.heap.size → F' k) (hk : ∀ k, F k → k < w.heap.size → (∀ c, w.heap[k]? ≠ some (.cells c 79 (0, 0))) → w'.heap[k]? = w.heap[k]?) : Rest w' F' sb fb pv n safe last pl sN fN sf ff := by
  obtain ⟨es1, c1, hb1⟩ := h.safeM.block
  obtain ⟨es2, c2, hb2⟩ := h.freshM.block
  have hc : ∀ g cur, F g → w.heap[g]? = some (.cells cur 5 (0, 0)) → w'.heap[g]? = w.heap[g]? := fun g cur hg hb => hk g hg (Array.getElem?_eq_some_iff.1 hb).1 (fun c e => by rw [hb] at e; simp at e)
  refine ⟨h.safeM.of_block (hk _ h.Fs h.safeM.lt (fun c e => by rw [hb1] at e; cases e)), h.freshM.of_block (hk _ h.Ff h.freshM.lt (fun c e => by rw [hb2] at e; cases e)), h.ne, own_keep h.pend (fun g hg => ?_), fun i hi => (h.safeC i hi).keep hF hc, fun i hi v hv => (h.freshC i hi v hv).keep hF hc, hF _ h.Fs h.safeM.lt, hF _ h.Ff h.freshM.lt, fun g hg => ?_⟩
  · obtain ⟨cur, hb⟩ := own_row h.pend g hg
    exact hk g (h.Fp g hg) (Array.getElem?_eq_some_iff.1 hb).1 (fun c e => by rw [hb] at e; simp at e)
  · obtain ⟨cur, hb⟩ := own_row h.pend g hg
    exact hF _ (h.Fp g hg) (Array.getElem?_eq_some_iff.1 hb).1

/-- One number more is pending. -/
theorem Rest.pended (h : Rest w F sb fb pv n safe last pl sN fN sf ff) {v' : Value} {i : Nat} (hg : w.grownBy w' pv.ownBlock) (hp : w'.ownsRow 0 3 1 v' (pl ++ [i]).length (((pl ++ [i]).map Int.ofNat).map (Value.int .i64))) (hv : ∀ g, v'.ownBlock = some g → F g) : Rest w' F sb fb v' n safe last (pl ++ [i]) sN fN sf ff := by
  obtain ⟨es1, c1, hb1⟩ := h.safeM.block
  obtain ⟨es2, c2, hb2⟩ := h.freshM.block
  have hother : ∀ k, k < w.heap.size → (∀ cur, w.heap[k]? ≠ some (.cells cur 3 (0, 0))) → w'.heap[k]? = w.heap[k]? := fun k hk hne => hg.block k hk (fun e => by
    obtain ⟨cur, hb⟩ := own_row h.pend k e.symm
    exact hne cur hb)
  have hc : ∀ g cur, F g → w.heap[g]? = some (.cells cur 5 (0, 0)) → w'.heap[g]? = w.heap[g]? := fun g cur _ hb => hother g (Array.getElem?_eq_some_iff.1 hb).1 (fun c e => by rw [hb] at e; simp at e)
  exact ⟨h.safeM.of_block (hother _ h.safeM.lt (fun c e => by rw [hb1] at e; cases e)), h.freshM.of_block (hother _ h.freshM.lt (fun c e => by rw [hb2] at e; cases e)), h.ne, hp, fun i hi => (h.safeC i hi).keep (fun _ h _ => h) hc, fun i hi v hv => (h.freshC i hi v hv).keep (fun _ h _ => h) hc, h.Fs, h.Ff, hv⟩

theorem map_kept {x : Nat} (hx : ∃ es c, w.heap[x]? = some (.map es c)) (hg : w.grownBy w' (some x)) : (∀ k, k < w.heap.size → k ≠ x → w'.heap[k]? = w.heap[k]?) ∧ (∀ g cur, F g → w.heap[g]? = some (.cells cur 5 (0, 0)) → w'.heap[g]? = w.heap[g]?) ∧ (∀ (g : Nat) (cur : Array Value) (e : TypeId), w.heap[g]? = some (.cells cur e (0, 0)) → w'.heap[g]? = w.heap[g]?) := by
  obtain ⟨es, c, hb⟩ := hx
  have h1 : ∀ k, k < w.heap.size → k ≠ x → w'.heap[k]? = w.heap[k]? := fun k hk hne => hg.block k hk (fun e => hne (by injection e))
  have h3 : ∀ (g : Nat) (cur : Array Value) (e : TypeId), w.heap[g]? = some (.cells cur e (0, 0)) → w'.heap[g]? = w.heap[g]? := fun g cur e hg' => h1 g (Array.getElem?_eq_some_iff.1 hg').1 (fun e' => by rw [e', hb] at hg'; cases hg')
  exact ⟨h1, fun g cur _ hg' => h3 g cur _ hg', h3⟩

/-- The map of what was written last has turned. -/
theorem Rest.freshed (h : Rest w F sb fb pv n safe last pl sN fN sf ff) (hg : w.grownBy w' (some fb)) {fN' : Nat} {ff' : Int → Option Value} (hm : IMap w' fb fN' ff') {last' : Nat → List Int} (hc' : ∀ i : Nat, i < n → ∀ v, ff' i = some v → (ff i = some v ∧ last' i = last i) ∨ Cont w F v (last' i)) : Rest w' F sb fb pv n safe last' pl sN fN' sf ff' := by
  obtain ⟨h1, hc, h3⟩ := map_kept (F := F) h.freshM.block hg
  refine ⟨h.safeM.of_block (h1 _ h.safeM.lt h.ne), hm, h.ne, own_keep h.pend (fun g hg => ?_), fun i hi => (h.safeC i hi).keep (fun _ h _ => h) hc, fun i hi v hv => ?_, h.Fs, h.Ff, h.Fp⟩
  · obtain ⟨cur, hb⟩ := own_row h.pend g hg
    exact h3 g cur _ hb
  · rcases hc' i hi v hv with ⟨e1, e2⟩ | e
    · rw [e2]
      exact (h.freshC i hi v e1).keep (fun _ h _ => h) hc
    · exact e.keep (fun _ h _ => h) hc

/-- The map of what is safe has turned. -/
theorem Rest.safed (h : Rest w F sb fb pv n safe last pl sN fN sf ff) (hg : w.grownBy w' (some sb)) {sN' : Nat} {sf' : Int → Option Value} (hm : IMap w' sb sN' sf') {safe' : Nat → List Int} (hc' : ∀ i : Nat, i < n → (sf' i = sf i ∧ safe' i = safe i) ∨ CO w F (sf' i) (safe' i)) : Rest w' F sb fb pv n safe' last pl sN' fN sf' ff := by
  obtain ⟨h1, hc, h3⟩ := map_kept (F := F) h.safeM.block hg
  refine ⟨hm, h.freshM.of_block (h1 _ h.freshM.lt (Ne.symm h.ne)), h.ne, own_keep h.pend (fun g hg => ?_), fun i hi => ?_, fun i hi v hv => (h.freshC i hi v hv).keep (fun _ h _ => h) hc, h.Fs, h.Ff, h.Fp⟩
  · obtain ⟨cur, hb⟩ := own_row h.pend g hg
    exact h3 g cur _ hb
  · rcases hc' i hi with ⟨e1, e2⟩ | e
    · rw [e1, e2]
      exact (h.safeC i hi).keep (fun _ h _ => h) hc
    · exact e.keep (fun _ h _ => h) hc

/-- The list is empty again. -/
theorem Rest.emptied (h : Rest w F sb fb pv n safe last pl sN fN sf ff) {v' : Value} (hv : v' = .slice none 0 0 ∧ pv = .slice none 0 0 ∨ ∃ A m c, pv = .slice (some A) m c ∧ v' = .slice (some A) 0 c) : Rest w F sb fb v' n safe last [] sN fN sf ff := by
  rcases hv with ⟨rfl, rfl⟩ | ⟨A, m, c, rfl, rfl⟩
  · exact { h with pend := ⟨rfl, .inl ⟨rfl, rfl⟩⟩ }
  · have hp := h.pend
    rcases hp.2 with ⟨e, _⟩ | ⟨g, cap, cur, e, hb, hg, hc, hm, hs, _⟩
    · cases e
    · cases e
      exact { h with pend := ⟨rfl, .inr ⟨g, c, cur, rfl, hb, hg, Nat.zero_le _, hm, hs, rfl⟩⟩, Fp := fun g' hg' => h.Fp g' (by simpa [Value.ownBlock] using hg') }
end

/-- How many writes the fuse lets through. -/
def ArmIs (left : Int) (arm : Option Nat) : Prop := (-9223372036854775808 ≤ left ∧ left ≤ 9223372036854775807) ∧ (left < 0 ∧ arm = none ∨ ∃ k : Nat, left = k ∧ arm = some k)

/-- In w the program's disk S lies at p, in the blocks of F. -/
def DAt (w : World) (F : Nat → Prop) (p : Addr) (S : DS) : Prop :=
  ∃ b sb fb left pv sN fN sf ff, p = ⟨b, 0, none⟩ ∧ w.rowIs b 79 7 (diskRow left S.down S.n sb fb pv S.writes) ∧ Rest w F sb fb pv S.n S.safe S.last S.pend sN fN sf ff ∧ ArmIs left S.arm ∧ S.Ok ∧ (∀ i : Nat, i < S.n → ((ff i).isSome = true ↔ i ∈ S.pend)) ∧ (sN + fN ≤ S.writes ∧ S.pend.length ≤ fN ∧ S.writes ≤ 9223372036854775807) ∧ F b ∧ ∀ k, F k → k < w.heap.size

theorem lt_of_same {w w' : World} {k : Nat} (hlt : k < w.heap.size) (e : w'.heap[k]? = w.heap[k]?) : k < w'.heap.size := by
  rcases Nat.lt_or_ge k w'.heap.size with h | h
  · exact h
  · rw [Array.getElem?_eq_none h, Array.getElem?_eq_getElem hlt] at e
    cases e
theorem DAt.keep {w w' : World} {F : Nat → Prop} {p : Addr} {S : DS} (h : DAt w F p S) (hk : ∀ k, F k → w'.heap[k]? = w.heap[k]?) : DAt w' F p S := by
  obtain ⟨b, sb, fb, left, pv, sN, fN, sf, ff, rfl, hrow, hrest, harm, hok, hdom, hcnt, hFb, hlt⟩ := h
  exact ⟨b, sb, fb, left, pv, sN, fN, sf, ff, rfl, hrow.of_block (hk _ hFb), hrest.keep (fun _ h _ => h) (fun k hk' _ _ => hk k hk'), harm, hok, hdom, hcnt, hFb, fun k hk' => lt_of_same (hlt k hk') (hk k hk')⟩

/-- What a disk of F has become, its new blocks with it. -/
def After (F : Nat → Prop) (w w' : World) (p : Addr) (S' : DS) : Prop := ∃ F' : Nat → Prop, DAt w' F' p S' ∧ Touch F w w' ∧ ∀ k, F' k → F k ∨ w.heap.size ≤ k

/-- The blocks of F, and all new ones. -/
def FN (F : Nat → Prop) (w : World) : Nat → Prop := fun k => F k ∨ w.heap.size ≤ k

theorem Touch.grow {F : Nat → Prop} {w0 w w' : World} {row : Option Nat} (h : Touch F w0 w) (hg : w.grownBy w' row) (hr : ∀ x, row = some x → FN F w0 x) : Touch F w0 w' :=
  ⟨hg.os.trans h.os, hg.tape.trans h.tape, hg.output.trans h.output, Nat.le_trans h.size hg.size, fun k hk hF => (hg.block k (Nat.lt_of_lt_of_le hk h.size) (fun e => by
    rcases hr k e.symm with h1 | h1
    · exact hF h1
    · omega)).trans (h.block k hk hF)⟩
theorem grown_setCell (w : World) (b o : Nat) (v : Value) : w.grownBy (w.setCell ⟨b, o, none⟩ v) (some b) :=
  ⟨rfl, rfl, rfl, by simp, fun k _ hk => Below.heap_setCell w ⟨b, o, none⟩ v k (fun e => hk (by rw [e]))⟩
theorem grown_below {w w' : World} (h : Below w.heap.size w w') : w.grownBy w' none := ⟨h.os, h.tape, h.output, h.size, fun k hk _ => h.block k hk⟩

/-- The parts joined again. -/
theorem After.mk' {w0 w : World} {F : Nat → Prop} {b sb fb : Nat} {left : Int} {pv : Value} {sN fN : Nat} {sf ff : Int → Option Value} {S : DS} (hrow : w.rowIs b 79 7 (diskRow left S.down S.n sb fb pv S.writes)) (hrest : Rest w (FN F w0) sb fb pv S.n S.safe S.last S.pend sN fN sf ff) (harm : ArmIs left S.arm) (hok : S.Ok)
    (hdom : ∀ i : Nat, i < S.n → ((ff i).isSome = true ↔ i ∈ S.pend)) (hcnt : sN + fN ≤ S.writes ∧ S.pend.length ≤ fN ∧ S.writes ≤ 9223372036854775807) (hb : FN F w0 b) (ht : Touch F w0 w) : After F w0 w ⟨b, 0, none⟩ S :=
  ⟨fun k => FN F w0 k ∧ k < w.heap.size, ⟨b, sb, fb, left, pv, sN, fN, sf, ff, rfl, hrow, hrest.keep (fun k h1 h2 => ⟨h1, h2⟩) (fun _ _ _ _ => rfl), harm, hok, hdom, hcnt, ⟨hb, hrow.lt⟩, fun k hk => hk.2⟩, ht, fun k hk => hk.1⟩

end Go.Proofs.YtkpmfobmlaldfaaDoor

/-
  The small functions of the program's disk by contract: made, ready, has, the fuse; Size, Writes, Down, Arm; New. No condition beyond what each says of the cells.
-/
namespace Go.Proofs.YtkpmfobmlaldfaaDoor
open Go.RowKit
set_option maxRecDepth 100000
set_option linter.unusedVariables false

section
variable {w : World} {b : Nat}

theorem made_nil (w : World) : Calls Tryd.prog 81 #[.pointer none] w fun e w' => e = .returned (.bool false) ∧ w = w' := by
  go_enter Tryd.func81, Tryd.ntmps81
  go_wp2
  go_ret
  exact ⟨rfl, rfl⟩
theorem made_yes {n : Int} (h2 : w.cell? ⟨b, 2, none⟩ = some (.int .i64 n)) (hn : 0 < n) : Calls Tryd.prog 81 #[.pointer (some ⟨b, 0, none⟩)] w fun e w' => e = .returned (.bool true) ∧ w = w' := by
  have k : decide (0 < n) = true := by simpa using hn
  go_enter Tryd.func81, Tryd.ntmps81
  go_wp2
  go_ret
  exact ⟨rfl, rfl⟩
theorem made_no (h2 : w.cell? ⟨b, 2, none⟩ = some (.int .i64 0)) : Calls Tryd.prog 81 #[.pointer (some ⟨b, 0, none⟩)] w fun e w' => e = .returned (.bool false) ∧ w = w' := by
  go_enter Tryd.func81, Tryd.ntmps81
  go_wp2
  go_ret
  exact ⟨rfl, rfl⟩

theorem ready_nil (w : World) : Calls Tryd.prog 57 #[.pointer none] w fun e w' => e = .returned (.int .i64 2) ∧ w = w' := by
  go_enter Tryd.func57, Tryd.ntmps57
  go_wp2_with fail
  refine (made_nil w).mono ?_
  rintro e w1 ⟨rfl, rfl⟩
  go_wp2
  go_ret
  exact ⟨rfl, rfl⟩
theorem ready_no (h2 : w.cell? ⟨b, 2, none⟩ = some (.int .i64 0)) : Calls Tryd.prog 57 #[.pointer (some ⟨b, 0, none⟩)] w fun e w' => e = .returned (.int .i64 2) ∧ w = w' := by
  go_enter Tryd.func57, Tryd.ntmps57
  go_wp2_with fail
  refine (made_no h2).mono ?_
  rintro e w1 ⟨rfl, rfl⟩
  go_wp2
  go_ret
  exact ⟨rfl, rfl⟩
theorem ready_down {n : Int} (h1 : w.cell? ⟨b, 1, none⟩ = some (.bool true)) (h2 : w.cell? ⟨b, 2, none⟩ = some (.int .i64 n)) (hn : 0 < n) : Calls Tryd.prog 57 #[.pointer (some ⟨b, 0, none⟩)] w fun e w' => e = .returned (.int .i64 5) ∧ w = w' := by
  go_enter Tryd.func57, Tryd.ntmps57
  go_wp2_with fail
  refine (made_yes h2 hn).mono ?_
  rintro e w1 ⟨rfl, rfl⟩
  go_wp2
  go_ret
  exact ⟨rfl, rfl⟩
theorem ready_ok {n : Int} (h1 : w.cell? ⟨b, 1, none⟩ = some (.bool false)) (h2 : w.cell? ⟨b, 2, none⟩ = some (.int .i64 n)) (hn : 0 < n) : Calls Tryd.prog 57 #[.pointer (some ⟨b, 0, none⟩)] w fun e w' => e = .returned (.int .i64 0) ∧ w = w' := by
  go_enter Tryd.func57, Tryd.ntmps57
  go_wp2_with fail
  refine (made_yes h2 hn).mono ?_
  rintro e w1 ⟨rfl, rfl⟩
  go_wp2
  go_ret
  exact ⟨rfl, rfl⟩

theorem hasDev_any {n : Int} (i : Int) (h2 : w.cell? ⟨b, 2, none⟩ = some (.int .i64 n)) : Calls Tryd.prog 58 #[.pointer (some ⟨b, 0, none⟩), .int .i64 i] w fun e w' => e = .returned (.bool (decide (0 ≤ i ∧ i < n))) ∧ w = w' := by
  by_cases h0 : 0 ≤ i
  · have k0 : decide (0 ≤ i) = true := by simpa using h0
    have e : decide (0 ≤ i ∧ i < n) = decide (i < n) := by simp [h0]
    rw [e]
    generalize hq : decide (i < n) = q
    clear h0 e
    cases q
    · go_enter Tryd.func58, Tryd.ntmps58
      go_wp2
      go_ret
      exact ⟨rfl, rfl⟩
    · go_enter Tryd.func58, Tryd.ntmps58
      go_wp2
      go_ret
      exact ⟨rfl, rfl⟩
  · have k0 : decide (0 ≤ i) = false := by simpa using h0
    have e : decide (0 ≤ i ∧ i < n) = false := by simp [h0]
    rw [e]
    clear h0 e
    go_enter Tryd.func58, Tryd.ntmps58
    go_wp2
    go_ret
    exact ⟨rfl, rfl⟩

theorem blows_yes (h0 : w.cell? ⟨b, 0, none⟩ = some (.int .i64 0)) (h1 : w.cell? ⟨b, 1, none⟩ = some (.bool false)) (f1 : w.frozen? ⟨b, 1, none⟩ = false) :
    Calls Tryd.prog 78 #[.pointer (some ⟨b, 0, none⟩)] w fun e w' => e = .returned (.bool true) ∧ w' = w.setCell ⟨b, 1, none⟩ (.bool true) := by
  go_enter Tryd.func78, Tryd.ntmps78
  go_wp2
  go_ret
  exact ⟨rfl, rfl⟩
theorem blows_less {k : Nat} (hk : (k : Int) + 1 ≤ 9223372036854775807) (h0 : w.cell? ⟨b, 0, none⟩ = some (.int .i64 ((k : Int) + 1))) (h1 : w.cell? ⟨b, 1, none⟩ = some (.bool false)) (f0 : w.frozen? ⟨b, 0, none⟩ = false) :
    Calls Tryd.prog 78 #[.pointer (some ⟨b, 0, none⟩)] w fun e w' => e = .returned (.bool false) ∧ w' = w.setCell ⟨b, 0, none⟩ (.int .i64 (k : Int)) := by
  have e0 : ((k : Int) + 1 == 0) = false := by simp; omega
  have e1 : decide ((0 : Int) < (k : Int) + 1) = true := by simp
  have e2 : wrap64 ((k : Int) + 1 - 1) = k := by unfold wrap64; omega
  go_enter Tryd.func78, Tryd.ntmps78
  go_wp2
  go_ret
  exact ⟨rfl, rfl⟩
theorem blows_none {left : Int} (hl : left < 0) (h0 : w.cell? ⟨b, 0, none⟩ = some (.int .i64 left)) (h1 : w.cell? ⟨b, 1, none⟩ = some (.bool false)) :
    Calls Tryd.prog 78 #[.pointer (some ⟨b, 0, none⟩)] w fun e w' => e = .returned (.bool false) ∧ w' = w := by
  have e0 : (left == 0) = false := by simp; omega
  have e1 : decide ((0 : Int) < left) = false := by simp; omega
  go_enter Tryd.func78, Tryd.ntmps78
  go_wp2
  go_ret
  exact ⟨rfl, rfl⟩
end

/-- A call that only reads, at a disk. -/
theorem DAt.parts {w : World} {F : Nat → Prop} {p : Addr} {S : DS} (h : DAt w F p S) : ∃ b sb fb left pv sN fN sf ff, p = ⟨b, 0, none⟩ ∧ w.rowIs b 79 7 (diskRow left S.down S.n sb fb pv S.writes) ∧ Rest w F sb fb pv S.n S.safe S.last S.pend sN fN sf ff ∧ ArmIs left S.arm ∧ S.Ok ∧ (∀ i : Nat, i < S.n → ((ff i).isSome = true ↔ i ∈ S.pend)) ∧ (sN + fN ≤ S.writes ∧ S.pend.length ≤ fN ∧ S.writes ≤ 9223372036854775807) ∧ F b ∧ (∀ k, F k → k < w.heap.size) ∧
    w.cell? ⟨b, 0, none⟩ = some (.int .i64 left) ∧ w.cell? ⟨b, 1, none⟩ = some (.bool S.down) ∧ w.cell? ⟨b, 2, none⟩ = some (.int .i64 S.n) ∧ w.cell? ⟨b, 3, none⟩ = some (.map (some sb)) ∧ w.cell? ⟨b, 4, none⟩ = some (.map (some fb)) ∧ w.cell? ⟨b, 5, none⟩ = some pv ∧ w.cell? ⟨b, 6, none⟩ = some (.int .i64 S.writes) := by
  obtain ⟨b, sb, fb, left, pv, sN, fN, sf, ff, e, hrow, rest⟩ := h
  obtain ⟨h1, h2, h3, h4, h5, h6, h7⟩ := rest
  exact ⟨b, sb, fb, left, pv, sN, fN, sf, ff, e, hrow, h1, h2, h3, h4, h5, h6, h7, hrow.cell (i := 0) (by decide), hrow.cell (i := 1) (by decide), hrow.cell (i := 2) (by decide), hrow.cell (i := 3) (by decide), hrow.cell (i := 4) (by decide), hrow.cell (i := 5) (by decide), hrow.cell (i := 6) (by decide)⟩

theorem size_same (w : World) (F : Nat → Prop) (p : Addr) (S : DS) (h : DAt w F p S) : Calls Tryd.prog 65 #[.pointer (some p)] w fun e w' => e = .returned (.int .i64 (S.n : Int)) ∧ w' = w := by
  obtain ⟨b, sb, fb, left, pv, sN, fN, sf, ff, rfl, hrow, hrest, harm, hok, hdom, hcnt, hFb, hlt, c0, c1, c2, c3, c4, c5, c6⟩ := h.parts
  have hn : (0 : Int) < (S.n : Int) := by have := hok.size; omega
  go_enter Tryd.func65, Tryd.ntmps65
  go_wp2_with fail
  refine (made_yes c2 hn).mono ?_
  rintro e w1 ⟨rfl, rfl⟩
  go_wp2
  go_ret
  exact ⟨rfl, rfl⟩
theorem size_dev (w : World) (F : Nat → Prop) (p : Addr) (S : DS) (h : DAt w F p S) : Calls Tryd.prog 65 #[.pointer (some p)] w fun e w' => e = .returned (.int .i64 (S.n : Int)) ∧ Below w.heap.size w w' :=
  (size_same w F p S h).mono fun e w' ⟨h1, h2⟩ => ⟨h1, h2 ▸ Below.refl _ _⟩
theorem diskRow_set0 (left left' : Int) (down : Bool) (n sb fb : Nat) (pv : Value) (wr : Nat) : ∀ i, i < 7 → (fun j => if j = 0 then Value.int .i64 left' else diskRow left down n sb fb pv wr j) i = diskRow left' down n sb fb pv wr i := by
  intro i hi
  rcases (show i = 0 ∨ i = 1 ∨ i = 2 ∨ i = 3 ∨ i = 4 ∨ i = 5 ∨ i = 6 by omega) with rfl | rfl | rfl | rfl | rfl | rfl | rfl <;> rfl
theorem diskRow_set1 (left : Int) (down down' : Bool) (n sb fb : Nat) (pv : Value) (wr : Nat) : ∀ i, i < 7 → (fun j => if j = 1 then Value.bool down' else diskRow left down n sb fb pv wr j) i = diskRow left down' n sb fb pv wr i := by
  intro i hi
  rcases (show i = 0 ∨ i = 1 ∨ i = 2 ∨ i = 3 ∨ i = 4 ∨ i = 5 ∨ i = 6 by omega) with rfl | rfl | rfl | rfl | rfl | rfl | rfl <;> rfl
theorem diskRow_set5 (left : Int) (down : Bool) (n sb fb : Nat) (pv pv' : Value) (wr : Nat) : ∀ i, i < 7 → (fun j => if j = 5 then pv' else diskRow left down n sb fb pv wr j) i = diskRow left down n sb fb pv' wr i := by
  intro i hi
  rcases (show i = 0 ∨ i = 1 ∨ i = 2 ∨ i = 3 ∨ i = 4 ∨ i = 5 ∨ i = 6 by omega) with rfl | rfl | rfl | rfl | rfl | rfl | rfl <;> rfl
theorem diskRow_set6 (left : Int) (down : Bool) (n sb fb : Nat) (pv : Value) (wr wr' : Nat) : ∀ i, i < 7 → (fun j => if j = 6 then Value.int .i64 wr' else diskRow left down n sb fb pv wr j) i = diskRow left down n sb fb pv wr' i := by
  intro i hi
  rcases (show i = 0 ∨ i = 1 ∨ i = 2 ∨ i = 3 ∨ i = 4 ∨ i = 5 ∨ i = 6 by omega) with rfl | rfl | rfl | rfl | rfl | rfl | rfl <;> rfl

/-- A store into the disk's own block leaves the rest. -/
theorem Rest.setCell {w : World} {F : Nat → Prop} {b sb fb : Nat} {pv : Value} {n : Nat} {safe last : Nat → List Int} {pl : List Nat} {sN fN : Nat} {sf ff : Int → Option Value} {f : Nat → Value} (h : Rest w F sb fb pv n safe last pl sN fN sf ff) (hrow : w.rowIs b 79 7 f) (o : Nat) (v : Value) : Rest (w.setCell ⟨b, o, none⟩ v) F sb fb pv n safe last pl sN fN sf ff :=
  h.keep (fun _ h _ => h) (fun k _ hk hne => (grown_setCell w b o v).block k hk (fun e => by
    obtain ⟨c, hb, _⟩ := hrow
    have : k = b := by injection e
    subst this
    exact hne c hb))
/-- What was there stands: the rest too. -/
theorem Rest.below {w w' : World} {F : Nat → Prop} {sb fb : Nat} {pv : Value} {n : Nat} {safe last : Nat → List Int} {pl : List Nat} {sN fN : Nat} {sf ff : Int → Option Value} (h : Rest w F sb fb pv n safe last pl sN fN sf ff) (hb : Below w.heap.size w w') : Rest w' F sb fb pv n safe last pl sN fN sf ff :=
  h.keep (fun _ h _ => h) (fun k _ hk _ => hb.block k hk)

end Go.Proofs.YtkpmfobmlaldfaaDoor

/-
  disk.New by contract. No condition.
-/
namespace Go.Proofs.YtkpmfobmlaldfaaDoor
open Go.RowKit
set_option maxRecDepth 100000
set_option linter.unusedVariables false

set_option maxHeartbeats 400000 in
theorem new_no (n : Int) (w : World) (h : ¬ (3 ≤ n ∧ n ≤ 65536)) : Calls Tryd.prog 13 #[.int .i64 n] w fun e w' => e = .returned (.tuple #[.pointer none, .int .i64 1]) ∧ w = w' := by
  by_cases h1 : n < 3
  · have k1 : decide (n < 3) = true := by simpa using h1
    clear h h1
    go_enter Tryd.func13, Tryd.ntmps13
    go_wp2
    go_ret2
    exact ⟨rfl, rfl⟩
  · have k1 : decide (n < 3) = false := by simpa using h1
    have k2 : decide ((65536 : Int) < n) = true := by simp; omega
    clear h h1
    go_enter Tryd.func13, Tryd.ntmps13
    go_wp2
    go_ret2
    exact ⟨rfl, rfl⟩

/-- A disk as New makes it. -/
theorem new_at (n : Nat) (w : World) (h1 : 3 ≤ n) (h2 : n ≤ 65536) : After (fun _ => False) w ((((w.alloc (.map #[] 0)).alloc (.map #[] 0))).alloc (.cells #[.int .i64 (-1), .bool false, .int .i64 (n : Int), .map (some w.heap.size), .map (some (w.heap.size + 1)), .slice none 0 0, .int .i64 0] 79)) ⟨w.heap.size + 2, 0, none⟩ (DS.new n) := by
  have s0 : (w.alloc (.map #[] 0)).heap.size = w.heap.size + 1 := by simp
  have s1 : ((w.alloc (.map #[] 0)).alloc (.map #[] 0)).heap.size = w.heap.size + 2 := by simp
  generalize hw1 : w.alloc (.map #[] 0) = w1 at *
  generalize hw2 : w1.alloc (.map #[] 0) = w2 at *
  have m1 : IMap w1 w.heap.size 0 (fun _ => none) := by rw [← hw1]; exact IMap.made w
  have m1' : IMap w2 w.heap.size 0 (fun _ => none) := m1.of_block (by rw [← hw2]; exact heap_alloc_old _ _ (by omega))
  have m2 : IMap w2 (w.heap.size + 1) 0 (fun _ => none) := by rw [← hw2, ← s0]; exact IMap.made w1
  have b01 : Below w.heap.size w w2 := by
    rw [← hw2, ← hw1]
    exact ((Below.refl _ _).alloc (Nat.le_refl _) _).alloc (by simp) _
  have b02 := b01.alloc (o := .cells #[.int .i64 (-1), .bool false, .int .i64 (n : Int), .map (some w.heap.size), .map (some (w.heap.size + 1)), .slice none 0 0, .int .i64 0] 79) (by omega)
  rw [← s1]
  have hrest : Rest w2 (FN (fun _ => False) w) w.heap.size (w.heap.size + 1) (.slice none 0 0) (DS.new n).n (DS.new n).safe (DS.new n).last (DS.new n).pend 0 0 (fun _ => none) (fun _ => none) :=
    ⟨m1', m2, by omega, ⟨rfl, .inl ⟨rfl, rfl⟩⟩, fun i _ => rfl, (fun i _ v hv => by cases hv), .inr (Nat.le_refl _), .inr (by omega), fun g hg => by cases hg⟩
  refine After.mk' (left := -1) ?_ (hrest.keep (fun _ h _ => h) (fun k _ hk _ => heap_alloc_old _ _ hk)) ⟨by omega, .inl ⟨by omega, rfl⟩⟩ (DS.new_ok ⟨h1, h2⟩) (fun i _ => by simp [DS.new]) ⟨Nat.le_refl _, Nat.le_refl _, Nat.zero_le _⟩ (.inr (by omega)) (Touch.of_below b02)
  refine ⟨_, heap_alloc_new _ _, rfl, fun i hi => ?_⟩
  rcases (show i = 0 ∨ i = 1 ∨ i = 2 ∨ i = 3 ∨ i = 4 ∨ i = 5 ∨ i = 6 by omega) with rfl | rfl | rfl | rfl | rfl | rfl | rfl <;> rfl

set_option maxHeartbeats 400000 in
theorem new_yes (n : Nat) (w : World) (h1 : 3 ≤ n) (h2 : n ≤ 65536) : Calls Tryd.prog 13 #[.int .i64 n] w fun e w' => ∃ p : Addr, e = .returned (.tuple #[.pointer (some p), .int .i64 0]) ∧ After (fun _ => False) w w' p (DS.new n) := by
  have hmm := @run_makeMap Tryd.prog
  have k1 : decide ((n : Int) < 3) = false := by simp; omega
  have k2 : decide ((65536 : Int) < (n : Int)) = false := by simp; omega
  have HE := Lib.hid (new_at n w h1 h2)
  go_enter Tryd.func13, Tryd.ntmps13
  go_wp2
  go_ret2
  exact ⟨_, rfl, HE.out⟩

end Go.Proofs.YtkpmfobmlaldfaaDoor

/-
  slices.Clone on bytes by contract, and the program's Read. Condition: fewer than 2^43 elements.
-/
namespace Go.Proofs.YtkpmfobmlaldfaaDoor
open Go.RowKit
set_option maxRecDepth 100000
set_option linter.unusedVariables false

set_option maxHeartbeats 400000 in
theorem CloneB_own {w : World} {B n : Nat} {A : Option Addr} {l : List Int} (c : Nat) (h : RB w B A n l) (hB : B ≤ w.heap.size) (hn : n ≤ 140737488355328) :
    Calls Tryd.prog 47 #[.slice A n c] w fun e w' => ∃ A' c', e = .returned (.slice A' n c') ∧ n ≤ c' ∧ w'.ownsRow w.heap.size 5 1 (.slice A' n c') n (l.map (Value.int .u8)) ∧ Below w.heap.size w w' := by
  have q22 : ∀ (w : World) (a : Option Addr) (n c n' c' : Nat), (binOp .eql 69 (.slice a n c) (.slice none n' c')).run Tryd.prog w = .ok (.bool a.isNone) w := fun w a n c n' c' => Lib.run_eql_slice_nil w _ _ a n c n' c' Tryd.underlying69
  rcases A with _ | ad
  · have hm : n = 0 := by
      rcases Nat.eq_zero_or_pos n with h0 | h0
      · exact h0
      · obtain ⟨b, off, e, _⟩ := h.at_ h0; cases e
    subst hm
    obtain rfl : l = [] := List.eq_nil_of_length_eq_zero h.len
    go_enter Tryd.func47, Tryd.ntmps47
    go_wp2
    go_ret
    exact ⟨none, 0, rfl, Nat.le_refl _, World.ownsRow_nil _ _ _ _, Below.refl _ _⟩
  · go_enter Tryd.func47, Tryd.ntmps47
    go_wp2_with (at_builtin; refine wpList_append_bytes rfl _ _ rfl w.heap.size _ 0 [] rfl (World.ownsRow_made w #[] 0 (Nat.le_refl _) (Nat.zero_le _) rfl) B (some ad) n c l rfl (h.alloc hB _) (by omega) (by simp) ?_; intro v1 w1 hown1 _ hb1)
    simp only [Nat.zero_add, List.nil_append] at hown1
    obtain ⟨A', c', rfl, hc'⟩ := own_shape hown1
    go_ret
    exact ⟨A', c', rfl, hc', hown1, ((Below.refl w.heap.size w).alloc (Nat.le_refl _) _).trans hb1⟩

theorem zero_slice (w : World) : (zeroValue 69).run Tryd.prog w = .ok (.slice none 0 0) w := by kernel_rfl

theorem readE_down {S : DS} (i : Int) (h : S.down = true) : S.readE i = 5 ∧ S.readL i = [] := by
  have e : S.readE i = 5 := by simp [DS.readE, h]
  exact ⟨e, by simp [DS.readL, e]⟩
theorem readE_no {S : DS} {i : Int} (h : S.down = false) (hi : ¬ S.has i) : S.readE i = 1 ∧ S.readL i = [] := by
  have e : S.readE i = 1 := by simp [DS.readE, h, hi]
  exact ⟨e, by simp [DS.readL, e]⟩
theorem readE_yes {S : DS} {i : Int} (h : S.down = false) (hi : S.has i) : S.readE i = 0 ∧ S.readL i = S.last i.toNat := by
  have e : S.readE i = 0 := by simp [DS.readE, h, hi]
  exact ⟨e, by simp [DS.readL, e]⟩

theorem made_nought {w : World} {base g : Nat} (h : w.ownsRow base 5 1 (.slice (some ⟨g, 0, none⟩) 256 256) 256 (madeCells (Value.int .u8 0).cells (256 * 1)).toList) : RB w w.heap.size (some ⟨g, 0, none⟩) 256 nought := by
  refine RB.of_own (base := base) (e := 5) (c := 256) ?_ nought_ok.2
  rw [show (Value.int .u8 0).cells = #[Value.int .u8 0] from rfl, toList_madeCells_one, Nat.mul_one] at h
  rw [nought, List.map_replicate]
  exact h

theorem own_from0 {w : World} {base e n c : Nat} {A : Option Addr} {xs : List Value} (h : w.ownsRow base e 1 (.slice A n c) n xs) : ∀ a, A = some a → ∃ g, a = ⟨g, 0, none⟩ ∧ base ≤ g := by
  intro a ha
  subst ha
  rcases h.2 with ⟨e1, _⟩ | ⟨g, cap, cur, e1, hb, _⟩
  · cases e1
  · cases e1; exact ⟨g, rfl, hb⟩

set_option maxHeartbeats 800000 in
theorem read_fresh (i : Int) (w : World) (F : Nat → Prop) (p : Addr) (S : DS) (h : DAt w F p S) : Calls Tryd.prog 35 #[.pointer (some p), .int .i64 i] w fun e w' => ∃ (A : Option Addr) (n c : Nat), e = .returned (.tuple #[.slice A n c, .int .i64 (S.readE i)]) ∧ n ≤ c ∧ RB w' w'.heap.size A n (S.readL i) ∧ Below w.heap.size w w' ∧ ∀ a, A = some a → ∃ g, a = ⟨g, 0, none⟩ ∧ w.heap.size ≤ g := by
  obtain ⟨b, sb, fb, left, pv, sN, fN, sf, ff, rfl, hrow, hrest, harm, hok, hdom, hcnt, hFb, hlt, c0, c1, c2, c3, c4, c5, c6⟩ := h.parts
  have hn : (0 : Int) < (S.n : Int) := by have := hok.size; omega
  have hnm := hok.size
  by_cases hd : S.down = true
  · obtain ⟨e1, e2⟩ := readE_down i hd
    rw [hd] at c1
    rw [e1, e2]
    clear h hrow hrest hdom hd e1 e2 hlt
    go_enter Tryd.func35, Tryd.ntmps35
    go_wp2_with fail
    refine (ready_down c1 c2 hn).mono ?_
    rintro e w1 ⟨rfl, rfl⟩
    go_wp2
    go_ret2
    exact ⟨none, 0, 0, rfl, Nat.le_refl _, RB.nil_, Below.refl _ _, fun a ha => by cases ha⟩
  have hd' : S.down = false := by simpa using hd
  rw [hd'] at c1
  by_cases hi : S.has i
  · obtain ⟨e1, e2⟩ := readE_yes hd' hi
    rw [e1, e2]
    unfold DS.has at hi
    obtain ⟨k, rfl⟩ := Int.eq_ofNat_of_zero_le hi.1
    have hk : k < S.n := by omega
    have HH := Lib.hid (show decide (0 ≤ (k : Int) ∧ (k : Int) < (S.n : Int)) = true by simpa using hi)
    rw [Int.toNat_natCast]
    have hki : -9223372036854775808 ≤ (k : Int) ∧ (k : Int) ≤ 9223372036854775807 := by omega
    have q1 := hrest.freshM.look Tryd.underlying77 (zero_slice w) hki
    have q2 := hrest.safeM.look Tryd.underlying77 (zero_slice w) hki
    have hbytes := hok.lastBytes k
    have hfr := hrest.freshC k hk
    have hsf := hrest.safeC k hk
    have hdk := hdom k hk
    have hsame := hok.same k
    clear h hrow hrest hdom hd e1 e2 hlt hok
    rcases hff : ff (k : Int) with _ | v
    · rw [hff] at q1 hdk
      simp only [Option.getD_none, Option.isSome_none] at q1
      have hl : S.last k = S.safe k := hsame (fun hm => by simpa using hdk.2 hm)
      rw [hl] at hbytes ⊢
      clear hl hsame hdk hfr
      rcases hsv : sf (k : Int) with _ | v
      · rw [hsv] at q2 hsf
        simp only [Option.getD_none, Option.isSome_none] at q2
        obtain ⟨i0, hi', hz0, hz1, hz2⟩ := info_parts info_u8
        rw [show S.safe k = nought from hsf]
        clear hsf
        go_enter Tryd.func35, Tryd.ntmps35
        go_wp2_with fail
        refine (ready_ok c1 c2 hn).mono ?_
        rintro e w1 ⟨rfl, rfl⟩
        go_wp2_with fail
        refine (hasDev_any _ c2).mono ?_
        rw [HH.out]
        rintro e w1 ⟨rfl, rfl⟩
        go_wp2_with (refine wpList_make_full w rfl _ _ 69 rfl w.heap.size 5 i0 (.int .u8 0) 1 Tryd.underlying69 hi' hz0 hz1 .i64 .i64 _ _ 256 rfl rfl rfl rfl (by rw [hz2]; decide) (by decide) (Nat.le_refl _) ?_; intro w1 hown1 hg1; have hb1 : Below w.heap.size w w1 := (Below.refl _ _).grown hg1 (Nat.le_refl _) (by simp); have hr1 := made_nought hown1; clear hown1 hg1)
        go_ret2
        exact ⟨_, 256, 256, rfl, Nat.le_refl _, hr1, hb1, fun a ha => by cases ha; exact ⟨_, rfl, Nat.le_refl _⟩⟩
      · rw [hsv] at q2 hsf
        obtain ⟨g, c, rfl, hc, hr⟩ := Cont.rb hsf hbytes
        simp only [Option.getD_some, Option.isSome_some] at q2
        clear hsf
        go_enter Tryd.func35, Tryd.ntmps35
        go_wp2_with fail
        refine (ready_ok c1 c2 hn).mono ?_
        rintro e w1 ⟨rfl, rfl⟩
        go_wp2_with fail
        refine (hasDev_any _ c2).mono ?_
        rw [HH.out]
        rintro e w1 ⟨rfl, rfl⟩
        go_wp2_with fail
        refine (CloneB_own c hr (Nat.le_refl _) (by decide)).mono ?_
        rintro e w1 ⟨A', c', rfl, hc', hown, hb⟩
        go_wp2
        go_ret2
        exact ⟨_, _, _, rfl, hc', RB.of_own hown hbytes.2, hb, own_from0 hown⟩
    · rw [hff] at q1
      obtain ⟨g, c, rfl, hc, hr⟩ := Cont.rb (hfr v hff) hbytes
      simp only [Option.getD_some, Option.isSome_some] at q1
      clear hsf hfr hdk hsame q2
      go_enter Tryd.func35, Tryd.ntmps35
      go_wp2_with fail
      refine (ready_ok c1 c2 hn).mono ?_
      rintro e w1 ⟨rfl, rfl⟩
      go_wp2_with fail
      refine (hasDev_any _ c2).mono ?_
      rw [HH.out]
      rintro e w1 ⟨rfl, rfl⟩
      go_wp2_with fail
      refine (CloneB_own c hr (Nat.le_refl _) (by decide)).mono ?_
      rintro e w1 ⟨A', c', rfl, hc', hown, hb⟩
      go_wp2
      go_ret2
      exact ⟨_, _, _, rfl, hc', RB.of_own hown hbytes.2, hb, own_from0 hown⟩
  · obtain ⟨e1, e2⟩ := readE_no hd' hi
    rw [e1, e2]
    have HH := Lib.hid (show decide (0 ≤ i ∧ i < (S.n : Int)) = false by simpa [DS.has] using hi)
    clear h hrow hrest hdom hd e1 e2 hlt hi
    go_enter Tryd.func35, Tryd.ntmps35
    go_wp2_with fail
    refine (ready_ok c1 c2 hn).mono ?_
    rintro e w1 ⟨rfl, rfl⟩
    go_wp2_with fail
    refine (hasDev_any _ c2).mono ?_
    rw [HH.out]
    rintro e w1 ⟨rfl, rfl⟩
    go_wp2
    go_ret2
    exact ⟨none, 0, 0, rfl, Nat.le_refl _, RB.nil_, Below.refl _ _, fun a ha => by cases ha⟩

theorem read_dev (i : Int) (w : World) (F : Nat → Prop) (p : Addr) (S : DS) (h : DAt w F p S) : Calls Tryd.prog 35 #[.pointer (some p), .int .i64 i] w fun e w' => ∃ (A : Option Addr) (n c : Nat), e = .returned (.tuple #[.slice A n c, .int .i64 (S.readE i)]) ∧ n ≤ c ∧ RB w' w'.heap.size A n (S.readL i) ∧ Below w.heap.size w w' :=
  (read_fresh i w F p S h).mono fun e w' ⟨A, n, c, h1, h2, h3, h4, _⟩ => ⟨A, n, c, h1, h2, h3, h4⟩
/-- A sector that is there: its bytes lie in a new block. -/
theorem read_at (i : Int) (w : World) (F : Nat → Prop) (p : Addr) (S : DS) (h : DAt w F p S) (hr : S.readE i = 0) : Calls Tryd.prog 35 #[.pointer (some p), .int .i64 i] w fun e w' => ∃ g c, e = .returned (.tuple #[.slice (some ⟨g, 0, none⟩) 256 c, .int .i64 0]) ∧ 256 ≤ c ∧ w.heap.size ≤ g ∧ RB w' w'.heap.size (some ⟨g, 0, none⟩) 256 (S.last i.toNat) ∧ Below w.heap.size w w' := by
  have hok : S.Ok := by
    obtain ⟨b, sb, fb, left, pv, sN, fN, sf, ff, rfl, hrow, hrest, harm, hok, rest⟩ := h
    exact hok
  refine (read_fresh i w F p S h).mono ?_
  rintro e w' ⟨A, n, c, rfl, hc, hrb, hb, hA⟩
  rw [hr]
  have e2 : S.readL i = S.last i.toNat := by unfold DS.readL; rw [if_pos hr]
  rw [e2] at hrb
  have hn : n = 256 := by rw [← hrb.len]; exact (hok.lastBytes _).1
  subst hn
  obtain ⟨b, off, e3, _⟩ := hrb.at_ (by decide)
  obtain ⟨g, e4, hg⟩ := hA _ e3
  cases e4
  subst e3
  exact ⟨b, c, rfl, hc, hg, hrb, hb⟩

theorem pend_reads {w : World} {pv : Value} {S : DS} (hok : S.Ok) (hp : w.ownsRow 0 3 1 pv S.pend.length ((S.pend.map Int.ofNat).map (Value.int .i64))) : ∃ A c, pv = .slice A S.pend.length c ∧ S.pend.length ≤ c ∧ RI w w.heap.size A S.pend.length S.pending := by
  obtain ⟨A, c, rfl, hc⟩ := int_own_shape hp
  have hsz := hok.size
  exact ⟨A, c, rfl, hc, (RI.of_own hp (fun x hx => by
    obtain ⟨k, hk, rfl⟩ := List.mem_map.1 hx
    have := hok.pendLt k hk
    have e : Int.ofNat k = (k : Int) := rfl
    rw [e]
    omega)).1⟩

theorem pend_len_le {S : DS} (h : S.Ok) : S.pend.length ≤ S.n := nodup_lt S.n S.pend h.pendNodup h.pendLt

end Go.Proofs.YtkpmfobmlaldfaaDoor

/-
  The program's Write by contract. Condition: fewer than 2^63 - 1 writes.
-/
namespace Go.Proofs.YtkpmfobmlaldfaaDoor
open Go.RowKit
set_option maxRecDepth 100000
set_option linter.unusedVariables false

theorem wpList_append_pend {w : World} {ops : Array Oper} {rest : List Oper} {o : Oper} {a : Act} {Q : Exit → Act → World → Prop} (hgd : o.guard = none) (s x : Operand)
    (ho : o.op = .call { callee := .builtin .append, args := #[s, x], argTypes := #[22, 22] })
    (v : Value) (n : Nat) (xs : List Int) (hs : a.eval s = v) (b : Nat) (z : Int) (T : TypeId) (hx : a.eval x = .slice (some ⟨b, 0, none⟩) 1 1)
    (hown : w.ownsRow 0 3 1 v n (xs.map (Value.int .i64))) (hb : w.heap[b]? = some (.cells #[.int .i64 z] T)) (h63 : n ≤ 8796093022207)
    (h : ∀ A' c' w', w'.ownsRow 0 3 1 (.slice A' (n + 1) c') (n + 1) ((xs ++ [z]).map (Value.int .i64)) → w.grownBy w' v.ownBlock → ((Value.slice A' (n + 1) c').ownBlock = v.ownBlock ∨ (Value.slice A' (n + 1) c').ownBlock = some w.heap.size) → wpList Tryd.prog ops Q rest (a.put o.dst (.slice A' (n + 1) c')) w') : wpList Tryd.prog ops Q (o :: rest) a w := by
  obtain ⟨i0, hi, hz0, hz1, hz2⟩ := info_parts info_int
  refine wpList_append_own_at w hgd s x 22 ho 0 3 i0 (.int .i64 0) 1 8 Tryd.underlying22 hi hz0 hz1 hz2 rfl (by decide) v n _ hs hown ⟨b, 0, none⟩ 1 1 [.int .i64 z] hx rfl (World.news_of_block (cs := #[.int .i64 z]) hb) (fun u hu => by obtain rfl := List.mem_singleton.1 hu; rfl) (by unfold maxLen; omega) (by omega) (Nat.zero_le _) ?_
  intro v' w' h1 h2 _ h4
  obtain ⟨A', c', rfl, _⟩ := int_own_shape h1
  exact h A' c' w' (by simpa using h1) h2 h4

section
variable {w w4 w5 : World} {F : Nat → Prop} {b sb fb : Nat} {left : Int} {pv : Value} {sN fN : Nat} {sf ff : Int → Option Value} {S : DS}

/-- The end of a write: the map's store and the count. -/
theorem write_end {pl : List Nat} {i : Nat} {l : List Int} {v : Value} (hok : S.Ok) (hd : S.down = false) (hi : i < S.n) (hl : l.length = 256 ∧ AllBytes l) (hpl : pl = if i ∈ S.pend then S.pend else S.pend ++ [i]) (hw : S.writes ≤ 9223372036854775806)
    (hrow : w4.rowIs b 79 7 (diskRow left false S.n sb fb pv S.writes)) (hrest : Rest w4 (FN F w) sb fb pv S.n S.safe S.last pl sN fN sf ff) (harm : ArmIs left (S.arm.map (· - 1))) (hdom : ∀ i : Nat, i < S.n → ((ff i).isSome = true ↔ i ∈ S.pend)) (hcnt : sN + fN ≤ S.writes ∧ S.pend.length ≤ fN) (hFb : F b) (ht : Touch F w w4)
    (hb5 : Below w4.heap.size w4 w5) (hown : w5.ownsRow w4.heap.size 5 1 v 256 (l.map (Value.int .u8))) :
    ∃ w6, (Instr.mapUpdate 77 (.map (some fb)) (.int .i64 (i : Int)) v).run Tryd.prog w5 = .ok () w6 ∧ w5.cell? ⟨b, 4, none⟩ = some (.map (some fb)) ∧ w6.cell? ⟨b, 6, none⟩ = some (.int .i64 (S.writes : Int)) ∧ w6.frozen? ⟨b, 6, none⟩ = false ∧
      Hid (After F w (w6.setCell ⟨b, 6, none⟩ (.int .i64 ((S.writes : Int) + 1))) ⟨b, 0, none⟩ (S.put i l)) := by
  have hrest5 := hrest.below hb5
  have hrow5 := hrow.of_block (hb5.block _ hrow.lt)
  have hsz := hok.size
  obtain ⟨w6, hrun, him, hgr⟩ := hrest5.freshM.store Tryd.underlying77 (i := (i : Int)) (by unfold maxLen; omega) (by omega) v
  have hne : b ≠ fb := by
    obtain ⟨es, c, h1⟩ := hrest5.freshM.block
    obtain ⟨cs, h2, _⟩ := hrow5
    intro e
    rw [e, h1] at h2
    cases h2
  have hrow6 := hrow5.of_block (hgr.block b hrow5.lt (fun e => hne (by injection e)))
  have hC : Cont w5 (FN F w) v l := Cont.of_own hown (fun k hk => .inr (Nat.le_trans ht.size hk))
  have hrest6 : Rest w6 (FN F w) sb fb pv S.n S.safe (S.put i l).last pl sN (fN + 1) sf _ := hrest5.freshed hgr him (last' := (S.put i l).last) (fun j hj u hu => by
    have e1 : (S.put i l).last j = if j = i then l else S.last j := rfl
    by_cases e : j = i
    · subst e
      rw [if_pos rfl] at e1
      rw [if_pos rfl] at hu
      obtain rfl : v = u := by injection hu
      exact .inr (by rw [e1]; exact hC)
    · rw [if_neg e] at e1
      rw [if_neg (by omega)] at hu
      exact .inl ⟨hu, e1⟩)
  have hputok : (S.put i l).Ok := DS.put_ok hok hi hl
  have hpl' : pl = (S.put i l).pend := hpl
  refine ⟨w6, hrun, hrow5.cell (i := 4) (by decide), hrow6.cell (i := 6) (by decide), hrow6.frozen 6, Lib.hid ?_⟩
  have hrow7 := (hrow6.set 6 (.int .i64 ((S.writes : Int) + 1))).congr (diskRow_set6 _ _ _ _ _ _ _ (S.writes + 1))
  have ht4 := ht.grow (grown_below hb5) (fun x e => by cases e)
  have ht6 := ht4.grow hgr (fun x e => by injection e with e; rw [← e]; exact hrest.Ff)
  have ht7 := ht6.grow (grown_setCell w6 b 6 (.int .i64 ((S.writes : Int) + 1))) (fun x e => by injection e with e; rw [← e]; exact .inl hFb)
  rw [hpl'] at hrest6
  refine After.mk' (S := S.put i l) (left := left) ?_ (hrest6.setCell hrow6 6 _) harm hputok (fun j hj => ?_) ⟨?_, ?_, ?_⟩ (.inl hFb) ht7
  · have e1 : (S.put i l).down = false := hd
    rw [e1]
    exact hrow7
  · show (if (j : Int) = (i : Int) then some v else ff j).isSome = true ↔ j ∈ (if i ∈ S.pend then S.pend else S.pend ++ [i])
    have hdj := hdom j hj
    by_cases e : j = i
    · subst e
      rw [if_pos rfl]
      by_cases hm : j ∈ S.pend <;> simp [hm]
    · rw [if_neg (by omega), hdj]
      by_cases hm : i ∈ S.pend <;> simp [hm, e]
  · show sN + (fN + 1) ≤ S.writes + 1
    omega
  · show (if i ∈ S.pend then S.pend else S.pend ++ [i]).length ≤ fN + 1
    split
    · omega
    · rw [List.length_append]; simp; omega
  · show S.writes + 1 ≤ 9223372036854775807
    omega

/-- The fuse lets a write through. -/
theorem blows_go (hrow : w.rowIs b 79 7 (diskRow left false S.n sb fb pv S.writes)) (harm : ArmIs left S.arm) (hne : S.arm ≠ some 0) :
    Calls Tryd.prog 78 #[.pointer (some ⟨b, 0, none⟩)] w fun e w' => ∃ left', e = .returned (.bool false) ∧ w'.rowIs b 79 7 (diskRow left' false S.n sb fb pv S.writes) ∧ ArmIs left' (S.arm.map (· - 1)) ∧ w.grownBy w' (some b) ∧ w'.heap.size = w.heap.size := by
  have c0 : w.cell? ⟨b, 0, none⟩ = some (.int .i64 left) := hrow.cell (i := 0) (by decide)
  have c1 : w.cell? ⟨b, 1, none⟩ = some (.bool false) := hrow.cell (i := 1) (by decide)
  obtain ⟨hr, h⟩ := harm
  rcases h with ⟨hl, hn⟩ | ⟨k, hk, ha⟩
  · refine (blows_none hl c0 c1).mono ?_
    rintro e w' ⟨rfl, rfl⟩
    exact ⟨left, rfl, hrow, ⟨hr, .inl ⟨hl, by rw [hn]; rfl⟩⟩, (World.grownBy.refl _ _), rfl⟩
  · rcases k with _ | k
    · exact absurd ha hne
    · have hk' : left = (k : Int) + 1 := by rw [hk]; omega
      rw [hk'] at c0
      refine (blows_less (by omega) c0 c1 (hrow.frozen 0)).mono ?_
      rintro e w' ⟨rfl, rfl⟩
      exact ⟨k, rfl, (hrow.set 0 (.int .i64 (k : Int))).congr (diskRow_set0 _ _ _ _ _ _ _ _), ⟨by omega, .inr ⟨k, rfl, by rw [ha]; rfl⟩⟩, grown_setCell w b 0 _, by simp⟩
end

theorem writeE_yes {S : DS} {i : Nat} {l : List Int} (hd : S.down = false) (hi : i < S.n) (hl : l.length = 256) (ha : S.arm ≠ some 0) : S.writeE i l = 0 ∧ S.write i l = S.put i l := by
  have h : S.has (i : Int) := ⟨by omega, by omega⟩
  exact ⟨by simp [DS.writeE, hd, h, hl, ha], by simp [DS.write, hd, h, hl, ha]⟩
theorem writeE_blown {S : DS} {i : Nat} {l : List Int} (hd : S.down = false) (hi : i < S.n) (hl : l.length = 256) (ha : S.arm = some 0) : S.writeE i l = 5 ∧ S.write i l = { S with down := true } := by
  have h : S.has (i : Int) := ⟨by omega, by omega⟩
  exact ⟨by simp [DS.writeE, hd, h, hl, ha], by simp [DS.write, hd, h, hl, ha]⟩
theorem writeE_no {S : DS} {i : Int} {l : List Int} (hd : S.down = false) (h : ¬ (S.has i ∧ l.length = 256)) : S.writeE i l = 1 ∧ S.write i l = S := by
  exact ⟨by simp only [DS.writeE, hd]; rw [if_neg (by simp), if_pos h], by simp only [DS.write, hd]; rw [if_neg (by simp), if_pos h]⟩
theorem writeE_down {S : DS} {i : Int} {l : List Int} (hd : S.down = true) : S.writeE i l = 5 ∧ S.write i l = S := ⟨by simp [DS.writeE, hd], by simp [DS.write, hd]⟩

theorem After.same {F : Nat → Prop} {w : World} {p : Addr} {S : DS} (h : DAt w F p S) : After F w w p S := ⟨F, h, Touch.refl _ _, fun k hk => .inl hk⟩

end Go.Proofs.YtkpmfobmlaldfaaDoor

/-
  The program's Write by contract, where a sector is written. Condition: fewer than 2^63 - 1 writes.
-/
namespace Go.Proofs.YtkpmfobmlaldfaaDoor
open Go.RowKit
set_option maxRecDepth 100000
set_option linter.unusedVariables false

theorem cell_lt {w : World} {b o : Nat} {v : Value} (h : w.cell? ⟨b, o, none⟩ = some v) : b < w.heap.size := by
  rcases Nat.lt_or_ge b w.heap.size with h' | h'
  · exact h'
  · simp [World.cell?, Array.getElem?_eq_none h'] at h
theorem RB.here {w : World} {B n : Nat} {A : Option Addr} {l : List Int} (h : RB w B A n l) : RB w w.heap.size A n l :=
  ⟨h.1, h.2.1, fun hn => by
    obtain ⟨b, off, e, _, hc⟩ := h.2.2 hn
    exact ⟨b, off, e, cell_lt (hc 0 hn), hc⟩⟩
theorem RB.far {w w' : World} {n ab ao : Nat} {l : List Int} {row : Option Nat} (h : RB w w.heap.size (some ⟨ab, ao, none⟩) n l) (hg : w.grownBy w' row) (hne : ∀ x, row = some x → x ≠ ab) : RB w' w'.heap.size (some ⟨ab, ao, none⟩) n l :=
  ⟨h.1, h.2.1, fun hn => by
    obtain ⟨b, off, e, hb, hc⟩ := h.2.2 hn
    cases e
    exact ⟨ab, ao, rfl, Nat.lt_of_lt_of_le hb hg.size, fun j hj => (World.cell?_of_block (a := ⟨ab, ao + j, none⟩) (hg.block ab hb (fun e => hne ab e.symm rfl))).trans (hc j hj)⟩⟩

/-- What the pending list's append and the store of it leave. -/
theorem pend_stored {w X w3 : World} {F : Nat → Prop} {b sb fb i : Nat} {left : Int} {pv v3 : Value} {sN fN : Nat} {sf ff : Int → Option Value} {S : DS} {wr : Nat} (hrow : X.rowIs b 79 7 (diskRow left false S.n sb fb pv wr)) (hrest : Rest X (FN F w) sb fb pv S.n S.safe S.last S.pend sN fN sf ff) (hX : w.heap.size ≤ X.heap.size)
    (hown : w3.ownsRow 0 3 1 v3 (S.pend.length + 1) (((S.pend.map Int.ofNat) ++ [(i : Int)]).map (Value.int .i64))) (hg : X.grownBy w3 pv.ownBlock) (hloc : v3.ownBlock = pv.ownBlock ∨ v3.ownBlock = some X.heap.size) (hFb : F b) (ht : Touch F w X) :
    w3.cell? ⟨b, 5, none⟩ = some pv ∧ w3.frozen? ⟨b, 5, none⟩ = false ∧ ∃ w4, w3.setCell ⟨b, 5, none⟩ v3 = w4 ∧ w4.rowIs b 79 7 (diskRow left false S.n sb fb v3 wr) ∧ Rest w4 (FN F w) sb fb v3 S.n S.safe S.last (S.pend ++ [i]) sN fN sf ff ∧ Touch F w w4 ∧ (∀ ab ao n l, ¬ F ab → ab < w.heap.size → RB X X.heap.size (some ⟨ab, ao, none⟩) n l → RB w4 w4.heap.size (some ⟨ab, ao, none⟩) n l) := by
  have hpb : ∀ x, pv.ownBlock = some x → x ≠ b ∧ FN F w x := fun x hx => by
    obtain ⟨cur, h1⟩ := own_row hrest.pend x hx
    obtain ⟨cs, h2, _⟩ := hrow
    refine ⟨fun e => ?_, hrest.Fp x hx⟩
    rw [e, h2] at h1
    simp at h1
  have hrow3 := hrow.of_block (hg.block b hrow.lt (fun e => (hpb b e.symm).1 rfl))
  have hv3 : ∀ g, v3.ownBlock = some g → FN F w g := fun g hgg => by
    rcases hloc with e | e
    · exact hrest.Fp g (by rw [← e]; exact hgg)
    · rw [e] at hgg
      injection hgg with hgg
      exact .inr (by omega)
  have hrest3 := hrest.pended (i := i) hg (by simpa using hown) hv3
  have ht3 := ht.grow hg (fun x e => (hpb x e).2)
  refine ⟨hrow3.cell (i := 5) (by decide), hrow3.frozen 5, _, rfl, (hrow3.set 5 v3).congr (diskRow_set5 _ _ _ _ _ _ _ _), hrest3.setCell hrow3 5 v3, ht3.grow (grown_setCell w3 b 5 v3) (fun x e => by injection e with e; rw [← e]; exact .inl hFb), fun ab ao n l hF hlt hr => ?_⟩
  refine (hr.far hg (fun x hx e => ?_)).far (grown_setCell w3 b 5 v3) (fun x hx e => ?_)
  · rcases (hpb x hx).2 with h | h
    · exact hF (e ▸ h)
    · omega
  · injection hx with hx
    exact hF (by rw [← e, ← hx]; exact hFb)

set_option maxHeartbeats 8000000 in
theorem write_new (i : Nat) (A : Option Addr) (c B : Nat) (l : List Int) (w : World) (F : Nat → Prop) (p : Addr) (S : DS) (h : DAt w F p S) (hr : RB w B A 256 l) (hc : 256 ≤ c) (hw : S.writes ≤ 9223372036854775806) (hA : ∀ a, A = some a → ¬ F a.block) (hd : S.down = false) (hi : i < S.n) (ha : S.arm ≠ some 0) (hm : i ∉ S.pend) :
    Calls Tryd.prog 55 #[.pointer (some p), .int .i64 (i : Int), .slice A 256 c] w fun e w' => e = .returned (.int .i64 0) ∧ After F w w' p (S.put i l) := by
  obtain ⟨b, sb, fb, left, pv, sN, fN, sf, ff, rfl, hrow, hrest, harm, hok, hdom, hcnt, hFb, hlt, c0, c1, c2, c3, c4, c5, c6⟩ := h.parts
  have hn : (0 : Int) < (S.n : Int) := by have := hok.size; omega
  have hnm := hok.size
  have hpl := pend_len_le hok
  rw [hd] at c1 hrow
  have HH := Lib.hid (show decide (0 ≤ (i : Int) ∧ (i : Int) < (S.n : Int)) = true by simp; omega)
  have HB := Lib.hid (blows_go hrow harm ha)
  have hbl : l.length = 256 ∧ AllBytes l := ⟨hr.len, hr.bytes⟩
  have hr0 := hr.here
  obtain ⟨ab, ao, rfl, hab, _⟩ := hr0.at_ (by omega)
  have hAF : ¬ F ab := hA _ rfl
  have hki : -9223372036854775808 ≤ (i : Int) ∧ (i : Int) ≤ 9223372036854775807 := by omega
  have hfr := Lib.hid (show ff (i : Int) = none by 
    have := hdom i hi
    rcases hq : ff (i : Int) with _ | v
    · rfl
    · rw [hq] at this
      exact absurd (this.1 rfl) hm)
  have HD := Lib.hid hdom
  clear h hA hr c0 c3 c5 c6 hdom hlt
  go_enter Tryd.func55, Tryd.ntmps55
  go_wp2_with fail
  refine (ready_ok c1 c2 hn).mono ?_
  rintro e w1 ⟨rfl, rfl⟩
  go_wp2_with fail
  refine (hasDev_any _ c2).mono ?_
  rw [HH.out]
  rintro e w1 ⟨rfl, rfl⟩
  go_wp2_with fail
  refine HB.out.mono ?_
  rintro e w1 ⟨left', rfl, hrow1, harm1, hg1, hs1⟩
  have hrest1 : Rest w1 (FN F w) sb fb pv S.n S.safe S.last S.pend sN fN sf ff := hrest.keep (fun _ h _ => .inl h) (fun k _ hk hne => hg1.block k hk (fun e => by
    obtain ⟨cs, h2, _⟩ := hrow
    have : k = b := by injection e
    subst this
    exact hne cs h2))
  have ht1 : Touch F w w1 := (Touch.refl F w).grow hg1 (fun x e => by injection e with e; rw [← e]; exact .inl hFb)
  have hr1 := hr0.far hg1 (fun x e e' => by injection e with e; exact hAF (by rw [← e', ← e]; exact hFb))
  have d4 : w1.cell? ⟨b, 4, none⟩ = some (.map (some fb)) := hrow1.cell (i := 4) (by decide)
  have d5 : w1.cell? ⟨b, 5, none⟩ = some pv := hrow1.cell (i := 5) (by decide)
  have q1 := hrest1.freshM.look Tryd.underlying77 (zero_slice w1) hki
  have hS1 := Lib.hid hs1
  clear hs1
  have hRow := Lib.hid hrow1
  have hRest := Lib.hid hrest1
  have hR1 := Lib.hid hr1
  have hT1 := Lib.hid ht1
  have hArm1 := Lib.hid harm1
  clear hrow hrest HB HH hr0 c1 c2 c4 hrow1 hrest1 hr1 ht1 hg1 harm1 harm hn
  have hz : w1.heap.size = w1.heap.size := rfl
  rw [hfr.out] at q1
  simp only [Option.getD_none, Option.isSome_none] at q1
  have hX : Below w1.heap.size w1 (w1.alloc (.cells #[.int .i64 (i : Int)] 3)) := (Below.refl _ _).alloc (Nat.le_refl _) _
  have hRX := hRest.out.below hX
  have hrX := hRow.out.of_block (hX.block _ hRow.out.lt)
  have hpX := hRX.pend
  obtain ⟨Ap, kp, rfl, hkp⟩ := int_own_shape hpX
  have hbX : (w1.alloc (.cells #[.int .i64 (i : Int)] 3)).heap[w1.heap.size]? = some (.cells #[.int .i64 (i : Int)] 3) := heap_alloc_new _ _
  have hwX : w.heap.size ≤ (w1.alloc (.cells #[.int .i64 (i : Int)] 3)).heap.size := by have := hS1.out; simp; omega
  have htX := hT1.out.grow (grown_below hX) (fun x e => by cases e)
  have hr8X := hR1.out.far (grown_below hX) (fun x e => by cases e)
  have HPS := fun v3 w3 h1 h2 h3 => pend_stored (w3 := w3) (v3 := v3) (i := i) hrX hRX hwX h1 h2 h3 hFb htX
  have HPX := Lib.hid HPS
  have HR8 := Lib.hid hr8X
  clear hRX hrX htX hr8X HPS hX hz hwX
  go_wp2_with (at_builtin; refine wpList_append_pend rfl _ _ rfl _ S.pend.length (S.pend.map Int.ofNat) rfl w1.heap.size (i : Int) _ rfl hpX hbX (by omega) ?_; intro A3 k3 w3 hown3 hg3 hloc3; obtain ⟨d5', f5', w4, hw4, hrow4, hrest4, ht4, hr4⟩ := HPX.out _ w3 hown3 hg3 hloc3; have hr4 := hr4 _ _ _ _ hAF hab HR8.out; clear hown3 hg3 hloc3)
  have e4 : w4.drew.cell? ⟨b, 4, none⟩ = some (.map (some fb)) := hrow4.cell (i := 4) (by decide)
  have hr4d : RB w4.drew w4.drew.heap.size (some ⟨ab, ao, none⟩) 256 l := hr4.drew
  have HW := Lib.hid (fun w5 v hb hown => write_end (w4 := w4.drew) (w5 := w5) (v := v) (pl := S.pend ++ [i]) hok hd hi hbl (by rw [if_neg hm]) hw hrow4 (hrest4.keep (fun _ h _ => h) (fun _ _ _ _ => rfl)) hArm1.out HD.out ⟨hcnt.1, hcnt.2.1⟩ hFb ⟨ht4.os, ht4.tape, ht4.output, ht4.size, ht4.block⟩ hb hown)
  clear hrow4 hrest4 hpX hbX d4 d5 d5' f5' q1 hw4 hr4 ht4
  go_region_with
    (go_at_call 47; refine (CloneB_own c hr4d (Nat.le_refl _) (by decide)).mono ?_; rintro e w5 ⟨A5, k5, rfl, _, hown5, hb5⟩; obtain ⟨w6, hrun6, g4, g6, f6, HE⟩ := HW.out w5 _ hb5 hown5; clear hown5 hb5)
  all_goals go_wp2
  all_goals go_ret
  all_goals exact ⟨rfl, HE.out⟩

set_option maxHeartbeats 8000000 in
theorem write_old (i : Nat) (A : Option Addr) (c B : Nat) (l : List Int) (w : World) (F : Nat → Prop) (p : Addr) (S : DS) (h : DAt w F p S) (hr : RB w B A 256 l) (hc : 256 ≤ c) (hw : S.writes ≤ 9223372036854775806) (hA : ∀ a, A = some a → ¬ F a.block) (hd : S.down = false) (hi : i < S.n) (ha : S.arm ≠ some 0) (hm : i ∈ S.pend) :
    Calls Tryd.prog 55 #[.pointer (some p), .int .i64 (i : Int), .slice A 256 c] w fun e w' => e = .returned (.int .i64 0) ∧ After F w w' p (S.put i l) := by
  obtain ⟨b, sb, fb, left, pv, sN, fN, sf, ff, rfl, hrow, hrest, harm, hok, hdom, hcnt, hFb, hlt, c0, c1, c2, c3, c4, c5, c6⟩ := h.parts
  have hn : (0 : Int) < (S.n : Int) := by have := hok.size; omega
  have hnm := hok.size
  have hpl := pend_len_le hok
  rw [hd] at c1 hrow
  have HH := Lib.hid (show decide (0 ≤ (i : Int) ∧ (i : Int) < (S.n : Int)) = true by simp; omega)
  have HB := Lib.hid (blows_go hrow harm ha)
  have hbl : l.length = 256 ∧ AllBytes l := ⟨hr.len, hr.bytes⟩
  have hr0 := hr.here
  obtain ⟨ab, ao, rfl, hab, _⟩ := hr0.at_ (by omega)
  have hAF : ¬ F ab := hA _ rfl
  have hki : -9223372036854775808 ≤ (i : Int) ∧ (i : Int) ≤ 9223372036854775807 := by omega
  have hfr := Lib.hid (show (ff (i : Int)).isSome = true by
    exact (hdom i hi).2 hm)
  have HD := Lib.hid hdom
  clear h hA hr c0 c3 c5 c6 hdom hlt
  go_enter Tryd.func55, Tryd.ntmps55
  go_wp2_with fail
  refine (ready_ok c1 c2 hn).mono ?_
  rintro e w1 ⟨rfl, rfl⟩
  go_wp2_with fail
  refine (hasDev_any _ c2).mono ?_
  rw [HH.out]
  rintro e w1 ⟨rfl, rfl⟩
  go_wp2_with fail
  refine HB.out.mono ?_
  rintro e w1 ⟨left', rfl, hrow1, harm1, hg1, hs1⟩
  have hrest1 : Rest w1 (FN F w) sb fb pv S.n S.safe S.last S.pend sN fN sf ff := hrest.keep (fun _ h _ => .inl h) (fun k _ hk hne => hg1.block k hk (fun e => by
    obtain ⟨cs, h2, _⟩ := hrow
    have : k = b := by injection e
    subst this
    exact hne cs h2))
  have ht1 : Touch F w w1 := (Touch.refl F w).grow hg1 (fun x e => by injection e with e; rw [← e]; exact .inl hFb)
  have hr1 := hr0.far hg1 (fun x e e' => by injection e with e; exact hAF (by rw [← e', ← e]; exact hFb))
  have d4 : w1.cell? ⟨b, 4, none⟩ = some (.map (some fb)) := hrow1.cell (i := 4) (by decide)
  have d5 : w1.cell? ⟨b, 5, none⟩ = some pv := hrow1.cell (i := 5) (by decide)
  have q1 := hrest1.freshM.look Tryd.underlying77 (zero_slice w1) hki
  have hS1 := Lib.hid hs1
  clear hs1
  have hRow := Lib.hid hrow1
  have hRest := Lib.hid hrest1
  have hR1 := Lib.hid hr1
  have hT1 := Lib.hid ht1
  have hArm1 := Lib.hid harm1
  clear hrow hrest HB HH hr0 c1 c2 c4 hrow1 hrest1 hr1 ht1 hg1 harm1 harm hn
  obtain ⟨v0, hv0⟩ := Option.isSome_iff_exists.1 hfr.out
  rw [hv0] at q1
  simp only [Option.getD_some, Option.isSome_some] at q1
  go_wp2_with fail
  have hrow4 := hRow.out
  have hrest4 := hRest.out
  have ht4 := hT1.out
  have hr4 := hR1.out
  generalize w1 = w4 at *
  have e4 : w4.drew.cell? ⟨b, 4, none⟩ = some (.map (some fb)) := hrow4.cell (i := 4) (by decide)
  have hr4d : RB w4.drew w4.drew.heap.size (some ⟨ab, ao, none⟩) 256 l := hr4.drew
  have HW := Lib.hid (fun w5 v hb hown => write_end (w4 := w4.drew) (w5 := w5) (v := v) (pl := S.pend) hok hd hi hbl (by rw [if_pos hm]) hw hrow4 (hrest4.keep (fun _ h _ => h) (fun _ _ _ _ => rfl)) hArm1.out HD.out ⟨hcnt.1, hcnt.2.1⟩ hFb ⟨ht4.os, ht4.tape, ht4.output, ht4.size, ht4.block⟩ hb hown)
  clear hrow4 hrest4 d4 d5 q1 hr4 ht4
  go_region_with
    (go_at_call 47; refine (CloneB_own c hr4d (Nat.le_refl _) (by decide)).mono ?_; rintro e w5 ⟨A5, k5, rfl, _, hown5, hb5⟩; obtain ⟨w6, hrun6, g4, g6, f6, HE⟩ := HW.out w5 _ hb5 hown5; clear hown5 hb5)
  all_goals go_wp2
  all_goals go_ret
  all_goals exact ⟨rfl, HE.out⟩

end Go.Proofs.YtkpmfobmlaldfaaDoor

/-
  The program's Write by contract, whatever it answers. Condition: fewer than 2^63 - 1 writes.
-/
namespace Go.Proofs.YtkpmfobmlaldfaaDoor
open Go.RowKit
set_option maxRecDepth 100000
set_option linter.unusedVariables false

set_option maxHeartbeats 800000 in
theorem write_downs (i : Int) (A : Option Addr) (n c : Nat) (w : World) (F : Nat → Prop) (p : Addr) (S : DS) (h : DAt w F p S) (hd : S.down = true) :
    Calls Tryd.prog 55 #[.pointer (some p), .int .i64 i, .slice A n c] w fun e w' => e = .returned (.int .i64 5) ∧ w = w' := by
  obtain ⟨b, sb, fb, left, pv, sN, fN, sf, ff, rfl, hrow, hrest, harm, hok, hdom, hcnt, hFb, hlt, c0, c1, c2, c3, c4, c5, c6⟩ := h.parts
  have hn : (0 : Int) < (S.n : Int) := by have := hok.size; omega
  rw [hd] at c1
  clear h hrow hrest hdom hlt
  go_enter Tryd.func55, Tryd.ntmps55
  go_wp2_with fail
  refine (ready_down c1 c2 hn).mono ?_
  rintro e w1 ⟨rfl, rfl⟩
  go_wp2
  go_ret
  exact ⟨rfl, rfl⟩

set_option maxHeartbeats 800000 in
theorem write_args (i : Int) (A : Option Addr) (n c : Nat) (w : World) (F : Nat → Prop) (p : Addr) (S : DS) (h : DAt w F p S) (hn63 : n ≤ 4096) (hd : S.down = false) (hno : ¬ (S.has i ∧ n = 256)) :
    Calls Tryd.prog 55 #[.pointer (some p), .int .i64 i, .slice A n c] w fun e w' => e = .returned (.int .i64 1) ∧ w = w' := by
  obtain ⟨b, sb, fb, left, pv, sN, fN, sf, ff, rfl, hrow, hrest, harm, hok, hdom, hcnt, hFb, hlt, c0, c1, c2, c3, c4, c5, c6⟩ := h.parts
  have hn : (0 : Int) < (S.n : Int) := by have := hok.size; omega
  rw [hd] at c1
  clear h hrow hrest hdom hlt
  by_cases hi : S.has i
  · have HH := Lib.hid (show decide (0 ≤ i ∧ i < (S.n : Int)) = true by simpa [DS.has] using hi)
    have hne : n ≠ 256 := fun e => hno ⟨hi, e⟩
    have k : ((n : Int) != 256) = true := by simp; omega
    clear hi hno
    go_enter Tryd.func55, Tryd.ntmps55
    go_wp2_with fail
    refine (ready_ok c1 c2 hn).mono ?_
    rintro e w1 ⟨rfl, rfl⟩
    go_wp2_with fail
    refine (hasDev_any _ c2).mono ?_
    rw [HH.out]
    rintro e w1 ⟨rfl, rfl⟩
    go_wp2
    go_ret
    exact ⟨rfl, rfl⟩
  · have HH := Lib.hid (show decide (0 ≤ i ∧ i < (S.n : Int)) = false by simpa [DS.has] using hi)
    clear hi hno
    go_enter Tryd.func55, Tryd.ntmps55
    go_wp2_with fail
    refine (ready_ok c1 c2 hn).mono ?_
    rintro e w1 ⟨rfl, rfl⟩
    go_wp2_with fail
    refine (hasDev_any _ c2).mono ?_
    rw [HH.out]
    rintro e w1 ⟨rfl, rfl⟩
    go_wp2
    go_ret
    exact ⟨rfl, rfl⟩

set_option maxHeartbeats 800000 in
theorem write_blown (i : Nat) (A : Option Addr) (c : Nat) (w : World) (F : Nat → Prop) (p : Addr) (S : DS) (h : DAt w F p S) (hd : S.down = false) (hi : i < S.n) (ha : S.arm = some 0) :
    Calls Tryd.prog 55 #[.pointer (some p), .int .i64 (i : Int), .slice A 256 c] w fun e w' => e = .returned (.int .i64 5) ∧ After F w w' p { S with down := true } := by
  obtain ⟨b, sb, fb, left, pv, sN, fN, sf, ff, rfl, hrow, hrest, harm, hok, hdom, hcnt, hFb, hlt, c0, c1, c2, c3, c4, c5, c6⟩ := h.parts
  have hn : (0 : Int) < (S.n : Int) := by have := hok.size; omega
  have hnm := hok.size
  rw [hd] at c1 hrow
  have hl : left = 0 := by
    rcases harm.2 with ⟨_, e⟩ | ⟨k, e1, e2⟩
    · rw [ha] at e; cases e
    · rw [ha] at e2
      obtain rfl : 0 = k := by injection e2
      exact e1
  subst hl
  have f1 := hrow.frozen 1
  have HH := Lib.hid (show decide (0 ≤ (i : Int) ∧ (i : Int) < (S.n : Int)) = true by simp; omega)
  have HE : Hid (After F w (w.setCell ⟨b, 1, none⟩ (.bool true)) ⟨b, 0, none⟩ { S with down := true }) := Lib.hid (by
    refine After.mk' (S := { S with down := true }) ((hrow.set 1 (.bool true)).congr (diskRow_set1 _ _ _ _ _ _ _ _)) ((hrest.keep (fun _ h _ => .inl h) (fun _ _ _ _ => rfl)).setCell hrow 1 _) harm ⟨hok.size, hok.safeBytes, hok.lastBytes, hok.pendLt, hok.pendNodup, hok.same⟩ hdom hcnt (.inl hFb) ((Touch.refl F w).grow (grown_setCell w b 1 _) (fun x e => .inl (by injection e with e; rw [← e]; exact hFb))))
  clear h hrow hrest hdom hlt
  go_enter Tryd.func55, Tryd.ntmps55
  go_wp2_with fail
  refine (ready_ok c1 c2 hn).mono ?_
  rintro e w1 ⟨rfl, rfl⟩
  go_wp2_with fail
  refine (hasDev_any _ c2).mono ?_
  rw [HH.out]
  rintro e w1 ⟨rfl, rfl⟩
  go_wp2_with fail
  refine (blows_yes c0 c1 f1).mono ?_
  rintro e w1 ⟨rfl, rfl⟩
  go_wp2
  go_ret
  exact ⟨rfl, HE.out⟩

theorem write_dev (i : Int) (A : Option Addr) (n c B : Nat) (l : List Int) (w : World) (F : Nat → Prop) (p : Addr) (S : DS) (h : DAt w F p S) (hr : RB w B A n l) (hc : n ≤ c) (hn : n ≤ 4096) (hw : S.writes ≤ 9223372036854775806) (hA : ∀ a, A = some a → ¬ F a.block) :
    Calls Tryd.prog 55 #[.pointer (some p), .int .i64 i, .slice A n c] w fun e w' => e = .returned (.int .i64 (S.writeE i l)) ∧ After F w w' p (S.write i l) := by
  by_cases hd : S.down = true
  · obtain ⟨e1, e2⟩ := writeE_down (i := i) (l := l) hd
    rw [e1, e2]
    refine (write_downs i A n c w F p S h hd).mono ?_
    rintro e w' ⟨rfl, rfl⟩
    exact ⟨rfl, After.same h⟩
  have hd' : S.down = false := by simpa using hd
  by_cases hi : S.has i ∧ n = 256
  · obtain ⟨⟨h0, h1⟩, rfl⟩ := hi
    obtain ⟨k, rfl⟩ := Int.eq_ofNat_of_zero_le h0
    have hk : k < S.n := by omega
    by_cases ha : S.arm = some 0
    · obtain ⟨e1, e2⟩ := writeE_blown hd' hk hr.len ha
      rw [e1, e2]
      exact write_blown k A c w F p S h hd' hk ha
    · obtain ⟨e1, e2⟩ := writeE_yes hd' hk hr.len ha
      rw [e1, e2]
      by_cases hm : k ∈ S.pend
      · exact write_old k A c B l w F p S h hr hc hw hA hd' hk ha hm
      · exact write_new k A c B l w F p S h hr hc hw hA hd' hk ha hm
  · obtain ⟨e1, e2⟩ := writeE_no (i := i) (l := l) hd' (by rw [hr.len]; exact hi)
    rw [e1, e2]
    refine (write_args i A n c w F p S h hn hd' hi).mono ?_
    rintro e w' ⟨rfl, rfl⟩
    exact ⟨rfl, After.same h⟩

end Go.Proofs.YtkpmfobmlaldfaaDoor

/-
  The program's settle by contract, over any function value that answers which places are kept. No condition.
-/
namespace Go.Proofs.YtkpmfobmlaldfaaDoor
open Go.RowKit
set_option maxRecDepth 100000
set_option linter.unusedVariables false

/-- Whether a sector is kept by the first k places. -/
def Kept (S : DS) (K : Nat → Bool) (k j : Nat) : Prop := ∃ t, t < k ∧ S.pend[t]? = some j ∧ K t = true
open Classical in
/-- What is safe when the first k places were gone through. -/
noncomputable def safeK (S : DS) (K : Nat → Bool) (k : Nat) : Nat → List Int := fun j => if Kept S K k j then S.last j else S.safe j
theorem safeK_start (S : DS) (K : Nat → Bool) : safeK S K 0 = S.safe := by
  funext j
  unfold safeK
  rw [if_neg]
  rintro ⟨t, ht, _⟩
  omega
theorem safeK_skip {S : DS} {K : Nat → Bool} {k : Nat} (h : K k = false) : safeK S K (k + 1) = safeK S K k := by
  funext j
  unfold safeK
  have e : Kept S K (k + 1) j ↔ Kept S K k j := by
    constructor
    · rintro ⟨t, ht, h1, h2⟩
      refine ⟨t, ?_, h1, h2⟩
      rcases Nat.lt_or_ge t k with h' | h'
      · exact h'
      · obtain rfl : t = k := by omega
        rw [h] at h2; cases h2
    · rintro ⟨t, ht, h1, h2⟩
      exact ⟨t, by omega, h1, h2⟩
  by_cases hk : Kept S K k j
  · rw [if_pos hk, if_pos (e.2 hk)]
  · rw [if_neg hk, if_neg (fun h' => hk (e.1 h'))]
theorem safeK_hit {S : DS} {K : Nat → Bool} {k i : Nat} (hp : S.pend[k]? = some i) (h : K k = true) : safeK S K (k + 1) i = S.last i := by
  unfold safeK
  rw [if_pos ⟨k, by omega, hp, h⟩]
theorem safeK_other {S : DS} {K : Nat → Bool} {k i j : Nat} (hp : S.pend[k]? = some i) (hj : j ≠ i) : safeK S K (k + 1) j = safeK S K k j := by
  unfold safeK
  have e : Kept S K (k + 1) j ↔ Kept S K k j := by
    constructor
    · rintro ⟨t, ht, h1, h2⟩
      refine ⟨t, ?_, h1, h2⟩
      rcases Nat.lt_or_ge t k with h' | h'
      · exact h'
      · obtain rfl : t = k := by omega
        rw [hp] at h1
        injection h1 with h1
        exact absurd h1.symm hj
    · rintro ⟨t, ht, h1, h2⟩
      exact ⟨t, by omega, h1, h2⟩
  by_cases hk : Kept S K k j
  · rw [if_pos hk, if_pos (e.2 hk)]
  · rw [if_neg hk, if_neg (fun h' => hk (e.1 h'))]

/-- The disk when all places were gone through. -/
noncomputable def DS.settled (S : DS) (K : Nat → Bool) : DS := { S with safe := safeK S K S.pend.length, last := safeK S K S.pend.length, pend := [] }
theorem safeK_ok {S : DS} (h : S.Ok) (K : Nat → Bool) (k j : Nat) : (safeK S K k j).length = 256 ∧ AllBytes (safeK S K k j) := by
  unfold safeK
  split
  · exact h.lastBytes j
  · exact h.safeBytes j
theorem DS.settled_ok {S : DS} (h : S.Ok) (K : Nat → Bool) : (S.settled K).Ok :=
  ⟨h.size, safeK_ok h K _, safeK_ok h K _, (fun _ hm => by cases hm), List.nodup_nil, fun _ _ => rfl⟩

theorem wpList_clear {w : World} {ops : Array Oper} {rest : List Oper} {o : Oper} {a : Act} {Q : Exit → Act → World → Prop} (hgd : o.guard = none) (x : Operand) (t : TypeId)
    (ho : o.op = .call { callee := .builtin .clear, args := #[x], argTypes := #[t] }) (b n : Nat) (f : Int → Option Value) (e : TypeId) (hx : a.eval x = .map (some b)) (hm : IMap w b n f) (ht : Tryd.prog.underlying t = some (.map 3 e))
    (h : ∀ w', IMap w' b 0 (fun _ => none) → w.grownBy w' (some b) → wpList Tryd.prog ops Q rest (a.put o.dst (.tuple #[])) w') : wpList Tryd.prog ops Q (o :: rest) a w := by
  refine wpList_plain hgd fun K hK => ?_
  obtain ⟨w', hrun, h1, h2⟩ := hm.clear_ ht o.type
  unfold Oper.wp
  simp [execOp, ho, resolve, invoke, builtin, hx, hrun, Result.andThen]
  exact hK _ _ (h w' h1 h2)

section
variable {w : World} {F : Nat → Prop} {b sb fb : Nat} {left : Int} {pv : Value} {sN fN : Nat} {sf ff : Int → Option Value} {S : DS}

/-- What holds of the world between two rounds. -/
structure Mid (w : World) (F : Nat → Prop) (b sb fb : Nat) (left : Int) (pv : Value) (S : DS) (sN fN : Nat) (ff : Int → Option Value) (K : Nat → Bool) (J : World → Prop) (k : Nat) (wr : World) : Prop where
  row : wr.rowIs b 79 7 (diskRow left S.down S.n sb fb pv S.writes)
  rest : ∃ sf', Rest wr (FN F w) sb fb pv S.n (safeK S K k) S.last S.pend (sN + k) fN sf' ff
  touch : Touch F w wr
  inv : J wr

theorem Mid.below {K : Nat → Bool} {J : World → Prop} {k : Nat} {w1 w2 : World} (hJ : ∀ w1 w2 row, J w1 → w1.grownBy w2 row → (∀ x, row = some x → FN F w x) → J w2) (h : Mid w F b sb fb left pv S sN fN ff K J k w1) (hb : Below w1.heap.size w1 w2) : Mid w F b sb fb left pv S sN fN ff K J k w2 := by
  obtain ⟨sf', hr⟩ := h.rest
  exact ⟨h.row.of_block (hb.block _ h.row.lt), ⟨sf', hr.below hb⟩, h.touch.grow (grown_below hb) (fun x e => by cases e), hJ _ _ _ h.inv (grown_below hb) (fun x e => by cases e)⟩

theorem Mid.drew {K : Nat → Bool} {J : World → Prop} {k : Nat} {w1 : World} (hJ : ∀ w1 w2 row, J w1 → w1.grownBy w2 row → (∀ x, row = some x → FN F w x) → J w2) (h : Mid w F b sb fb left pv S sN fN ff K J k w1) : Mid w F b sb fb left pv S sN fN ff K J k w1.drew := by
  obtain ⟨sf', hr⟩ := h.rest
  exact ⟨h.row, ⟨sf', hr.keep (fun _ h _ => h) (fun _ _ _ _ => rfl)⟩, ⟨h.touch.os, h.touch.tape, h.touch.output, h.touch.size, h.touch.block⟩, hJ _ _ none h.inv ⟨rfl, rfl, rfl, Nat.le_refl _, fun _ _ _ => rfl⟩ (fun x e => by cases e)⟩

theorem Mid.skip {K : Nat → Bool} {J : World → Prop} {k : Nat} {w1 : World} (h : Mid w F b sb fb left pv S sN fN ff K J k w1) (hk : K k = false) : Mid w F b sb fb left pv S sN fN ff K J (k + 1) w1 := by
  obtain ⟨sf', hr⟩ := h.rest
  refine ⟨h.row, ⟨sf', ?_⟩, h.touch, h.inv⟩
  rw [safeK_skip hk]
  exact { hr with safeM := hr.safeM.mono (by omega) }

/-- A round that keeps: what its look-up and its store do. -/
theorem Mid.hit {K : Nat → Bool} {J : World → Prop} {k i : Nat} {w1 : World} (hJ : ∀ w1 w2 row, J w1 → w1.grownBy w2 row → (∀ x, row = some x → FN F w x) → J w2) (hFb : F b) (hok : S.Ok) (hdom : ∀ i : Nat, i < S.n → ((ff i).isSome = true ↔ i ∈ S.pend)) (hcnt : sN + fN ≤ S.writes ∧ S.pend.length ≤ fN ∧ S.writes ≤ 9223372036854775807)
    (h : Mid w F b sb fb left pv S sN fN ff K J k w1) (hk : K k = true) (hp : S.pend[k]? = some i) :
    ∃ v w2, (Instr.lookup 77 (.map (some fb)) (.int .i64 (i : Int)) false).run Tryd.prog w1 = .ok v w1 ∧ (Instr.mapUpdate 77 (.map (some sb)) (.int .i64 (i : Int)) v).run Tryd.prog w1 = .ok () w2 ∧ Hid (Mid w F b sb fb left pv S sN fN ff K J (k + 1) w2) := by
  obtain ⟨sf', hr⟩ := h.rest
  have hkl : k < S.pend.length := (List.getElem?_eq_some_iff.1 hp).1
  have him : i ∈ S.pend := List.mem_of_getElem? hp
  have hi := hok.pendLt i him
  have hsz := hok.size
  obtain ⟨v, hv⟩ := Option.isSome_iff_exists.1 ((hdom i hi).2 him)
  have q := hr.freshM.get Tryd.underlying77 (zero_slice w1) (i := (i : Int)) (by omega) hv
  obtain ⟨w2, hrun, hm, hg⟩ := hr.safeM.store Tryd.underlying77 (i := (i : Int)) (by unfold maxLen; omega) (by omega) v
  have hne : b ≠ sb := by
    obtain ⟨es, c, h1⟩ := hr.safeM.block
    obtain ⟨cs, h2, _⟩ := h.row
    intro e
    rw [e, h1] at h2
    cases h2
  refine ⟨v, w2, q, hrun, Lib.hid ⟨h.row.of_block (hg.block b h.row.lt (fun e => hne (by injection e))), ⟨fun j => if j = (i : Int) then some v else sf' j, ?_⟩, h.touch.grow hg (fun x e => by injection e with e; rw [← e]; exact hr.Fs), hJ _ _ _ h.inv hg (fun x e => by injection e with e; rw [← e]; exact hr.Fs)⟩⟩
  refine hr.safed hg hm (safe' := safeK S K (k + 1)) (fun j hj => ?_)
  by_cases e : j = i
  · subst e
    rw [if_pos rfl]
    right
    rw [safeK_hit hp hk]
    exact hr.freshC j hj v hv
  · rw [if_neg (by omega)]
    exact .inl ⟨rfl, safeK_other hp e⟩

/-- The end: the map of what was written last is cleared, the list emptied. -/
theorem Mid.fin {K : Nat → Bool} {J : World → Prop} {w1 w2 : World} {A : Option Addr} {m c : Nat} (hFb : F b) (hok : S.Ok) (harm : ArmIs left S.arm) (hcnt : sN + fN ≤ S.writes ∧ S.pend.length ≤ fN ∧ S.writes ≤ 9223372036854775807)
    (h : Mid w F b sb fb left (.slice A m c) S sN fN ff K J S.pend.length w1) (hm : IMap w2 fb 0 (fun _ => none)) (hg : w1.grownBy w2 (some fb)) (hA : A = none → m = 0 ∧ c = 0) :
    w2.cell? ⟨b, 5, none⟩ = some (.slice A m c) ∧ w2.frozen? ⟨b, 5, none⟩ = false ∧ Hid (After F w (w2.setCell ⟨b, 5, none⟩ (.slice A 0 c)) ⟨b, 0, none⟩ (S.settled K)) := by
  obtain ⟨sf', hr⟩ := h.rest
  have hne : b ≠ fb := by
    obtain ⟨es, c, h1⟩ := hr.freshM.block
    obtain ⟨cs, h2, _⟩ := h.row
    intro e
    rw [e, h1] at h2
    cases h2
  have hrow2 := h.row.of_block (hg.block b h.row.lt (fun e => hne (by injection e)))
  have hr2 := hr.freshed hg hm (last' := safeK S K S.pend.length) (fun i _ v hv => by cases hv)
  have hr3 : Rest w2 (FN F w) sb fb (.slice A 0 c) S.n (safeK S K S.pend.length) (safeK S K S.pend.length) [] (sN + S.pend.length) 0 sf' (fun _ => none) := hr2.emptied (by
    rcases A with _ | ad
    · obtain ⟨rfl, rfl⟩ := hA rfl
      exact .inl ⟨rfl, rfl⟩
    · exact .inr ⟨ad, m, c, rfl, rfl⟩)
  refine ⟨hrow2.cell (i := 5) (by decide), hrow2.frozen 5, Lib.hid ?_⟩
  refine After.mk' (S := S.settled K) ((hrow2.set 5 (.slice A 0 c)).congr (diskRow_set5 _ _ _ _ _ _ _ _)) (hr3.setCell hrow2 5 _) harm (DS.settled_ok hok K) (fun i _ => ?_) ⟨?_, Nat.zero_le _, hcnt.2.2⟩ (.inl hFb) ((h.touch.grow hg (fun x e => by injection e with e; rw [← e]; exact hr.Ff)).grow (grown_setCell w2 b 5 _) (fun x e => by injection e with e; rw [← e]; exact .inl hFb))
  · show (none : Option Value).isSome = true ↔ i ∈ ([] : List Nat)
    simp
  · show sN + S.pend.length + 0 ≤ S.writes
    omega
end

end Go.Proofs.YtkpmfobmlaldfaaDoor

/-
  The program's settle by contract, at the two function values that it is called with. No condition.
-/
namespace Go.Proofs.YtkpmfobmlaldfaaDoor
open Go.RowKit
set_option maxRecDepth 100000
set_option linter.unusedVariables false

set_option maxHeartbeats 3200000 in
theorem settle_all (K : Nat → Bool) (J : World → Prop) (w : World) (F : Nat → Prop) (p : Addr) (S : DS) (h : DAt w F p S) (hJ0 : J w) (hJ : ∀ w1 w2 row, J w1 → w1.grownBy w2 row → (∀ x, row = some x → FN F w x) → J w2)
    (hf : ∀ (t : Nat) (w1 : World), t < S.pend.length → J w1 → Calls Tryd.prog 80 #[.int .i64 (t : Int)] w1 fun e w2 => e = .returned (.bool (K t)) ∧ Below w1.heap.size w1 w2) :
    Calls Tryd.prog 79 #[.pointer (some p), .func (.func 80) #[] #[]] w fun e w' => e = .returned (.tuple #[]) ∧ After F w w' p (S.settled K) := by
  obtain ⟨b, sb, fb, left, pv, sN, fN, sf, ff, rfl, hrow, hrest, harm, hok, hdom, hcnt, hFb, hlt, c0, c1, c2, c3, c4, c5, c6⟩ := h.parts
  have hnm := hok.size
  have hpl := pend_len_le hok
  obtain ⟨A, c, rfl, hc, hr⟩ := pend_reads hok hrest.pend
  have hM0 : Mid w F b sb fb left (.slice A S.pend.length c) S sN fN ff K J 0 w := ⟨hrow, ⟨sf, by rw [safeK_start]; exact hrest.keep (fun _ h _ => .inl h) (fun _ _ _ _ => rfl)⟩, Touch.refl F w, hJ0⟩
  have HM0 := Lib.hid hM0
  have HF := Lib.hid hf
  have HJ := Lib.hid hJ
  have HD := Lib.hid hdom
  clear h hrow hrest hdom hlt hf hJ hr hM0
  go_enter Tryd.func79, Tryd.ntmps79
  go_wp2
  go_loopw [11] (fun i wr => ∃ k : Nat, k ≤ S.pend.length ∧ i = .int .i64 k ∧ Hid (Mid w F b sb fb left (.slice A S.pend.length c) S sN fN ff K J k wr)) (fun i _ => S.pend.length - (intOf i).toNat)
  case atStart => exact ⟨0, Nat.zero_le _, rfl, HM0⟩
  case round =>
    obtain ⟨k, hk, rfl, hM⟩ := hrel
    by_cases hlt : k < S.pend.length
    · have hlt' : (k : Int) < (S.pend.length : Int) := by omega
      obtain ⟨i, hp⟩ : ∃ i, S.pend[k]? = some i := ⟨_, List.getElem?_eq_getElem hlt⟩
      obtain ⟨sf', hrr⟩ := hM.out.rest
      obtain ⟨A', c', e', _, hri⟩ := pend_reads hok hrr.pend
      cases e'
      obtain ⟨pb, po, rfl, _, hcell⟩ := hri.2.2 (by omega)
      have hck := hcell k hlt
      have hpi : (S.pending[k]?).getD 0 = (i : Int) := by
        unfold DS.pending
        rw [List.getElem?_map, hp]
        rfl
      rw [hpi] at hck
      have HP := Lib.hid hp
      have HC := Lib.hid (HF.out k wr hlt hM.out.inv)
      clear hrr hcell hri hpi hp
      by_cases hKk : K k = true
      · have HKk := Lib.hid hKk
        clear hKk
        go_wp2_with fail
        refine HC.out.mono ?_
        rw [HKk.out]
        rintro e w2 ⟨rfl, hb2⟩
        have hM2 := hM.out.below HJ.out hb2
        obtain ⟨v, w3, q1, q2, hM3⟩ := Mid.hit (w1 := w2.drew) HJ.out hFb hok HD.out hcnt (hM2.drew HJ.out) HKk.out HP.out
        have d3 : w2.drew.cell? ⟨b, 3, none⟩ = some (.map (some sb)) := hM2.row.cell (i := 3) (by decide)
        have d4 : w2.drew.cell? ⟨b, 4, none⟩ = some (.map (some fb)) := hM2.row.cell (i := 4) (by decide)
        clear hM2 hb2 hck c0 c1 c2 c3 c4 c5 c6
        go_wp2_with fail
        go_region
        all_goals (go_wp2; go_roundw; (case rel => exact ⟨k + 1, by omega, by go_num, hM3⟩); (case measure => simp [intOf]; omega))
      · have HKk := Lib.hid (show K k = false by simpa using hKk)
        clear hKk
        go_wp2_with fail
        refine HC.out.mono ?_
        rw [HKk.out]
        rintro e w2 ⟨rfl, hb2⟩
        have hM3 := Lib.hid ((hM.out.below HJ.out hb2).skip HKk.out)
        clear hb2 hck c0 c1 c2 c3 c4 c5 c6
        go_wp2
        go_roundw
        case rel => exact ⟨k + 1, by omega, by go_num, hM3⟩
        case measure => simp [intOf]; omega
    · obtain rfl : k = S.pend.length := by omega
      obtain ⟨sf', hrr⟩ := hM.out.rest
      have hm := hrr.freshM
      have d4 : wr.cell? ⟨b, 4, none⟩ = some (.map (some fb)) := hM.out.row.cell (i := 4) (by decide)
      have hAn : A = none → S.pend.length = 0 ∧ c = 0 := fun e => by
        subst e
        rcases hrr.pend.2 with ⟨e1, e2⟩ | ⟨g, cap, cur, e1, _⟩
        · exact ⟨e2, by injection e1⟩
        · cases e1
      obtain ⟨w5, hrun5, hm5, hg5⟩ := hm.clear_ Tryd.underlying77 0
      obtain ⟨d5, f5, HE⟩ := Mid.fin (w2 := w5) hFb hok harm hcnt hM.out hm5 hg5 hAn
      clear hrr hM hm5 hg5 hm c0 c1 c2 c3 c4 c5 c6
      rcases A with _ | ad
      · obtain ⟨h0, rfl⟩ := hAn rfl
        have H0 := Lib.hid h0
        clear h0 hAn
        go_wp2
        go_end0
        exact ⟨rfl, HE.out⟩
      · clear hAn
        go_wp2
        go_end0
        exact ⟨rfl, HE.out⟩


end Go.Proofs.YtkpmfobmlaldfaaDoor

/-
  The program's Flush, standsIn and Crash by contract. No condition.
-/
namespace Go.Proofs.YtkpmfobmlaldfaaDoor
open Go.RowKit
set_option maxRecDepth 100000
set_option linter.unusedVariables false

theorem flush1_any (t : Int) (w : World) : Calls Tryd.prog 80 #[.int .i64 t] w fun e w' => e = .returned (.bool true) ∧ Below w.heap.size w w' := by
  go_enter Tryd.func80, Tryd.ntmps80
  go_wp2
  go_ret
  exact ⟨rfl, Below.refl _ _⟩

theorem settled_all {S : DS} (h : S.Ok) (hd : S.down = false) : S.settled (fun _ => true) = S.flush := by
  have e : safeK S (fun _ => true) S.pend.length = S.last := by
    funext j
    by_cases hj : j ∈ S.pend
    · unfold safeK
      obtain ⟨t, ht, e⟩ := List.getElem_of_mem hj
      rw [if_pos ⟨t, ht, by rw [List.getElem?_eq_getElem ht, e], rfl⟩]
    · unfold safeK
      rw [if_neg (fun ⟨t, _, h1, _⟩ => hj (List.mem_of_getElem? h1))]
      exact (h.same j hj).symm
  unfold DS.settled DS.flush
  rw [e, if_neg (by simp [hd])]

set_option maxHeartbeats 800000 in
theorem flush_dev (w : World) (F : Nat → Prop) (p : Addr) (S : DS) (h : DAt w F p S) : Calls Tryd.prog 56 #[.pointer (some p)] w fun e w' => e = .returned (.int .i64 S.flushE) ∧ After F w w' p S.flush := by
  have h0 := h
  obtain ⟨b, sb, fb, left, pv, sN, fN, sf, ff, rfl, hrow, hrest, harm, hok, hdom, hcnt, hFb, hlt, c0, c1, c2, c3, c4, c5, c6⟩ := h.parts
  have hn : (0 : Int) < (S.n : Int) := by have := hok.size; omega
  by_cases hd : S.down = true
  · have e1 : S.flushE = 5 := by simp [DS.flushE, hd]
    have e2 : S.flush = S := by simp [DS.flush, hd]
    rw [e1, e2]
    have HE := Lib.hid (After.same h0)
    rw [hd] at c1
    clear h h0 hrow hrest hdom hlt e1 e2
    go_enter Tryd.func56, Tryd.ntmps56
    go_wp2_with fail
    refine (ready_down c1 c2 hn).mono ?_
    rintro e w1 ⟨rfl, rfl⟩
    go_wp2
    go_ret
    exact ⟨rfl, HE.out⟩
  · have hd' : S.down = false := by simpa using hd
    have e1 : S.flushE = 0 := by simp [DS.flushE, hd']
    rw [e1, ← settled_all hok hd']
    rw [hd'] at c1
    have HS := Lib.hid (settle_all (fun _ => true) (fun _ => True) w F ⟨b, 0, none⟩ S h0 trivial (fun _ _ _ _ _ _ => trivial) (fun t w1 _ _ => flush1_any t w1))
    clear h h0 hrow hrest hdom hlt e1
    go_enter Tryd.func56, Tryd.ntmps56
    go_wp2_with fail
    refine (ready_ok c1 c2 hn).mono ?_
    rintro e w1 ⟨rfl, rfl⟩
    go_wp2_with fail
    refine HS.out.mono ?_
    rintro e w2 ⟨rfl, ha⟩
    go_wp2
    go_ret
    exact ⟨rfl, ha⟩

/-- A set of places: which whole numbers stand among the first k. -/
def Places (l : List Int) (k : Nat) : Int → Option Value := fun i => if i ∈ l.take k then some (.agg #[]) else none
theorem places_step {l : List Int} {k : Nat} {i : Int} (h : l[k]? = some i) : (fun j => if j = i then some (Value.agg #[]) else Places l k j) = Places l (k + 1) := by
  funext j
  unfold Places
  have e : l.take (k + 1) = l.take k ++ [i] := by rw [List.take_add_one, h]; rfl
  rw [e]
  by_cases hj : j = i
  · subst hj; simp
  · rw [if_neg hj]
    simp [hj]

theorem run_makeMap_int {P : Program} {t k e : TypeId} (ht : P.underlying t = some (.map k e)) (n : Int) (w : World) : (Instr.makeMap t (some (.int .i64 n))).run P w = .ok (.map (some w.heap.size)) (w.alloc (.map #[] 0)) := by
  simp [Instr.makeMap, run_underlying ht, asInt, asIntOf]

theorem places_get (l : List Int) (n : Nat) (i : Int) : (Places l n i).getD (.agg #[]) = .agg #[] ∧ (Places l n i).isSome = decide (i ∈ l.take n) := by
  unfold Places
  by_cases h : i ∈ l.take n <;> simp [h]

open Classical in
theorem settled_crash {S : DS} (l : List Int) : { S.settled (fun t => decide ((t : Int) ∈ l)) with arm := none, down := false } = S.crash l := by
  have e : safeK S (fun t => decide ((t : Int) ∈ l)) S.pend.length = fun i => if S.kept l i then S.last i else S.safe i := by
    funext j
    unfold safeK
    have h : Kept S (fun t => decide ((t : Int) ∈ l)) S.pend.length j ↔ S.kept l j := by
      constructor
      · rintro ⟨t, _, h1, h2⟩
        exact ⟨t, h1, of_decide_eq_true h2⟩
      · rintro ⟨t, h1, h2⟩
        exact ⟨t, (List.getElem?_eq_some_iff.1 h1).1, h1, decide_eq_true h2⟩
    by_cases hk : S.kept l j
    · rw [if_pos hk, if_pos (h.2 hk)]
    · rw [if_neg hk, if_neg (fun h' => hk (h.1 h'))]
  unfold DS.settled DS.crash
  rw [e]

theorem After.trans {F : Nat → Prop} {w w1 w2 : World} {p : Addr} {S1 S2 : DS} (h : After F w w1 p S1) (h' : ∀ F1, DAt w1 F1 p S1 → After F1 w1 w2 p S2) : After F w w2 p S2 := by
  obtain ⟨F1, h1, h2, h3⟩ := h
  obtain ⟨F2, h4, h5, h6⟩ := h' F1 h1
  refine ⟨F2, h4, ⟨h5.os.trans h2.os, h5.tape.trans h2.tape, h5.output.trans h2.output, Nat.le_trans h2.size h5.size, fun k hk hF => (h5.block k (Nat.lt_of_lt_of_le hk h2.size) (fun hf => ?_)).trans (h2.block k hk hF)⟩, fun k hk => ?_⟩
  · rcases h3 k hf with a | a
    · exact hF a
    · omega
  · rcases h6 k hk with a | a
    · exact h3 k a
    · exact .inr (Nat.le_trans h2.size a)

theorem After.base {F : Nat → Prop} {w0 w w1 : World} {p : Addr} {S : DS} (h : After F w w1 p S) (hb : Below w0.heap.size w0 w) : After F w0 w1 p S := by
  obtain ⟨F1, h1, h2, h3⟩ := h
  refine ⟨F1, h1, ⟨h2.os.trans hb.os, h2.tape.trans hb.tape, h2.output.trans hb.output, Nat.le_trans hb.size h2.size, fun k hk hF => (h2.block k (Nat.lt_of_lt_of_le hk hb.size) hF).trans (hb.block k hk)⟩, fun k hk => ?_⟩
  rcases h3 k hk with a | a
  · exact .inl a
  · exact .inr (Nat.le_trans hb.size a)

/-- The fuse mended. -/
theorem mended {F : Nat → Prop} {w : World} {b : Nat} {S : DS} (h : DAt w F ⟨b, 0, none⟩ S) : (∃ v0, w.cell? ⟨b, 0, none⟩ = some v0) ∧ (∃ v1, w.cell? ⟨b, 1, none⟩ = some v1) ∧ w.frozen? ⟨b, 0, none⟩ = false ∧ w.frozen? ⟨b, 1, none⟩ = false ∧ After F w ((w.setCell ⟨b, 0, none⟩ (.int .i64 (-1))).setCell ⟨b, 1, none⟩ (.bool false)) ⟨b, 0, none⟩ { S with arm := none, down := false } := by
  obtain ⟨b', sb, fb, left, pv, sN, fN, sf, ff, e, hrow, hrest, harm, hok, hdom, hcnt, hFb, hlt, c0, c1, c2, c3, c4, c5, c6⟩ := h.parts
  obtain rfl : b = b' := by injection e
  refine ⟨⟨_, c0⟩, ⟨_, c1⟩, hrow.frozen 0, hrow.frozen 1, ?_⟩
  have hrow1 := (hrow.set 0 (.int .i64 (-1))).congr (diskRow_set0 _ _ _ _ _ _ _ _)
  have hrow2 := (hrow1.set 1 (.bool false)).congr (diskRow_set1 _ _ _ _ _ _ _ _)
  have hr := ((hrest.keep (F' := FN F w) (w' := w) (fun _ h _ => .inl h) (fun _ _ _ _ => rfl)).setCell hrow 0 (.int .i64 (-1))).setCell hrow1 1 (.bool false)
  have hFx : ∀ x, (some b : Option Nat) = some x → FN F w x := fun x e => .inl (by injection e with e; rw [← e]; exact hFb)
  exact After.mk' (S := { S with arm := none, down := false }) hrow2 hr ⟨by omega, .inl ⟨by omega, rfl⟩⟩ ⟨hok.size, hok.safeBytes, hok.lastBytes, hok.pendLt, hok.pendNodup, hok.same⟩ hdom hcnt (.inl hFb) (((Touch.refl F w).grow (grown_setCell w b 0 _) hFx).grow (grown_setCell _ b 1 _) hFx)

end Go.Proofs.YtkpmfobmlaldfaaDoor

/-
  Contract of the program's test of images, over any disk that answers as it is to. Condition: at most 65,536 images.
-/
namespace Go.Proofs.YtkpmfobmlaldfaaDoor
open Go.RowKit
set_option maxRecDepth 100000
set_option linter.unusedVariables false

/-- What the test of images answers. -/
def rightE (S : DS) (l : List (Int × List Int)) : Int := if (l.length : Int) > S.P then 6 else if rightS S l then 0 else 1

section
variable {D : World → (Nat → Prop) → Addr → DS → Prop} {w : World} {F : Nat → Prop} {p : Addr} {S : DS} {q : Nat} {seq : Int}

end

end Go.Proofs.YtkpmfobmlaldfaaDoor
