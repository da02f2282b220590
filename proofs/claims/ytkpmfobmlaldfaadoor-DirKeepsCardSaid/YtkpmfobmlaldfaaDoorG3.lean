/-
  The texts RedoRD, RedoRE, Imgs, RedoRF, DirB, PgP, DiskSaidB, LayApi, LayDev, SConcat, SEqual, SClone, SecPack, SecDev, RedoPA, RedoPB joined. Conditions: those that each part says at its head.
-/
import Derived.Test.YtkpmfobmlaldfaaDoorG2
import Derived.Test.YtkpmfobmlaldfaaDoorG1
import Derived.Deep.QuietTactic
import Derived.BigQuiet
import Derived.IntWalk
import Derived.Lib.AppendZerosOnto
import Derived.Deep.RegionWith
import Derived.Deep.Cut

/-
  Contracts of the plain log's Open, Pages and Load, over the plain disk. Condition: fewer than 2^63 - 1 writes.
-/
namespace Go.Proofs.YtkpmfobmlaldfaaDoor
open Go.RowKit
set_option maxRecDepth 100000
set_option linter.unusedVariables false

theorem unpack_err (l : List Int) : (unpackR l).2.2.2 = 0 ∨ (unpackR l).2.2.2 = 4 := by
  unfold unpackR
  split
  · exact .inl rfl
  · exact .inr rfl
theorem unpack_count {l : List Int} (h : (unpackR l).2.2.2 = 0) : (unpackR l).1 < 4294967296 ∧ (unpackR l).2.1 ≤ 4611686018427387904 := by
  unfold unpackR at h ⊢
  by_cases hs : isSec l
  · rw [if_pos hs]
    have h4 := of_decide_eq_true hs.2.2
    exact ⟨h4.2.1, h4.2.2.2⟩
  · rw [if_neg hs] at h
    cases h

/-- What Open answers behind the slots. -/
def openTail (S : DS) (seq : Int) : Option (List (Int × List Int)) → Int × Int × DS
  | none => (0, seq, S)
  | some l => if (homesS S l).1 ≠ 0 then ((homesS S l).1, 0, (homesS S l).2) else (0, seq, (homesS S l).2)
theorem openS_up {S : DS} (hd : S.down = false) (he : (unpackR (S.last 0)).2.2.2 = 0) : openS S = openTail S (unpackR (S.last 0)).2.1 (slotsOf S.n S.last (unpackR (S.last 0)).1 (unpackR (S.last 0)).2.1) := by
  unfold openS openTail
  rw [if_neg (by simp [hd]), if_neg (fun h' => h' he)]
  rfl
theorem slotsOf_pages {n c s : Int} {f : Nat → List Int} {l : List (Int × List Int)} (h : slotsOf n f c s = some l) : (∀ y ∈ l, 0 ≤ y.1 ∧ y.1 < pagesOf n) ∧ (l.length : Int) ≤ 32767 := by
  obtain ⟨h1, h2⟩ := slotsOf_some h
  obtain ⟨h3, h4⟩ := slotsUp_mem _ h2
  have hb := pagesOf_bounds n
  refine ⟨fun y hy => ?_, by omega⟩
  obtain ⟨i, hi, e⟩ := List.getElem_of_mem hy
  obtain ⟨h5, _, h6, h7⟩ := slotIn_some (h4 i y (by rw [List.getElem?_eq_getElem hi, e]))
  rw [h7]
  exact ⟨(unpack_page h5).1, h6⟩

/-- A plain log at block q: of the disk at x, with a seq. -/
def RLog (w : World) (q : Nat) (x : Addr) (seq : Int) : Prop := w.heap[q]? = some (.cells #[.pointer (some x), .int .i64 seq] 101 (0, 0))

section
variable {w : World} {G : Nat → Prop} {x : Addr} {S : DS}

/-- What Open leaves: the disk, and a log apart from it, if there is one. -/
def OpenedR (w : World) (G : Nat → Prop) (x : Addr) (r : Int × Int × DS) (e : Ending) (w' : World) : Prop :=
  (r.1 ≠ 0 ∧ e = .returned (.tuple #[.pointer none, .int .i64 r.1]) ∧ Wrote w G x r.2.2 w') ∨
  (r.1 = 0 ∧ ∃ q G', e = .returned (.tuple #[.pointer (some ⟨q, 0, none⟩), .int .i64 0]) ∧ w.heap.size ≤ q ∧ RLog w' q x r.2.1 ∧ ¬ G' q ∧ RefAt w' G' x r.2.2 ∧ Touch G w w' ∧ ∀ k, G' k → G k ∨ w.heap.size ≤ k)

theorem opened_new {w1 : World} {S' : DS} {seq : Int} (h : Wrote w G x S' w1) : ∃ G', (w.heap.size ≤ w1.heap.size) ∧ RLog (w1.alloc (.cells #[.pointer (some x), .int .i64 seq] 101)) w1.heap.size x seq ∧ ¬ G' w1.heap.size ∧ RefAt (w1.alloc (.cells #[.pointer (some x), .int .i64 seq] 101)) G' x S' ∧ Touch G w (w1.alloc (.cells #[.pointer (some x), .int .i64 seq] 101)) ∧ ∀ k, G' k → G k ∨ w.heap.size ≤ k := by
  obtain ⟨G1, h1, h2, h3⟩ := h
  refine ⟨G1, h2.size, heap_alloc_new _ _, fun hf => by have := h1.lt _ hf; omega, h1.keep (fun k hk => heap_alloc_old _ _ (h1.lt k hk)), ⟨h2.os, h2.tape, h2.output, by have := h2.size; simp; omega, fun k hk hF => (heap_alloc_old _ _ (Nat.lt_of_lt_of_le hk h2.size)).trans (h2.block k hk hF)⟩, h3⟩

set_option maxHeartbeats 3200000 in
theorem refOpen_any (h : RefAt w G x S) (hw : S.writes ≤ 9223372036854700000) :
    Calls Tryd.prog 19 #[.pointer (some x)] w fun e w' => OpenedR w G x (openS S) e w' := by
  have hok := h.okay'
  have hsz := hok.size
  have hpb := pagesOf_bounds (S.n : Int)
  have hlt := h.lt
  by_cases hd : S.down = true
  · have hO : openS S = (5, 0, S) := by unfold openS; rw [if_pos hd]
    have hre : S.readE 0 = 5 := by simp [DS.readE, hd]
    have HRD := Lib.hid (refRead_any h 0)
    rw [hre] at HRD
    have HS := Lib.hid (fun w1 hb => Wrote.later (w1 := w1) h hb)
    rw [hO]
    clear hO hre h hok hd
    go_enter Tryd.func19, Tryd.ntmps19
    go_wp2_with fail
    refine HRD.out.mono ?_
    rintro e w1 ⟨A, n, c, rfl, _, _, hb⟩
    have HW := Lib.hid (HS.out w1 hb)
    clear hb
    go_wp2
    go_ret2
    exact .inl ⟨by show ¬ (5 : Int) = 0; decide, rfl, HW.out⟩
  have hd' : S.down = false := by simpa using hd
  have HRD := Lib.hid (refRead_at h (q := 0) (by omega) hd')
  by_cases he : (unpackR (S.last 0)).2.2.2 = 0
  · have hcnt := unpack_count he
    have hpg := unpack_page he
    obtain ⟨count, hcount⟩ := Int.eq_ofNat_of_zero_le hpg.1
    have HE := Lib.hid he
    have HC := Lib.hid hcount
    have HSL := Lib.hid (fun (w1 : World) (h1 : RefAt w1 G x S) => refSlots_any h1 hok hd' count (unpackR (S.last 0)).2.1 (by omega))
    have HK := Lib.hid (fun (w1 : World) hb => h.keep (w' := w1) (fun k hk => Below.block (B := w.heap.size) hb k (hlt k hk)))
    have HO := Lib.hid (show openS S = openTail S (unpackR (S.last 0)).2.1 (slotsOf S.n S.last count (unpackR (S.last 0)).2.1) by rw [openS_up hd' he, hcount])
    clear hd hd' hcnt hpg hcount he
    go_enter Tryd.func19, Tryd.ntmps19
    go_wp2_with fail
    refine HRD.out.mono ?_
    rintro e w1 ⟨g, rfl, hg, hr1, hb1⟩
    go_wp2_with fail
    refine (refUnpack_any _ 256 256 _ _ _ hr1 (Nat.le_refl _) (Nat.le_refl _) (by decide)).mono ?_
    rw [HE.out, HC.out]
    rintro e w2 ⟨A2, n2, c2, rfl, _, _, hb2⟩
    have hb02 := hb1.trans (hb2.mono hb1.size)
    have h2 := HK.out w2 hb02
    clear hr1 hb1 hb2
    have hs02 := hb02.size
    have HB02 := Lib.hid hb02
    generalize (unpackR (S.last 0)).2.1 = seq at HSL HO ⊢
    clear hb02
    go_wp2_with fail
    refine (HSL.out w2 h2).mono ?_
    rintro e w3 ⟨hb3, hc⟩
    have hb03 := HB02.out.trans (hb3.mono hs02)
    have h3 := HK.out w3 hb03
    rcases hc with ⟨hno, rfl⟩ | ⟨l, A, n, c, A', n', c', hso, rfl, hrows⟩
    · have HN := Lib.hid (show openTail S seq (slotsOf S.n S.last count seq) = (0, seq, S) by rw [hno]; rfl)
      obtain ⟨G', q1, q2, q3, q4, q5, q6⟩ := opened_new (seq := seq) (Wrote.later h hb03)
      have HF := Lib.hid (And.intro q1 (And.intro q2 (And.intro q3 (And.intro q4 (And.intro q5 q6)))))
      clear hno h3 hb03 hb3 q1 q2 q3 q4 q5 q6 h2 h
      go_wp2
      go_ret2
      rw [HO.out, HN.out]
      exact .inr ⟨rfl, _, G', rfl, HF.out⟩
    · obtain ⟨hpg, hll⟩ := slotsOf_pages hso
      have HN := Lib.hid (show openTail S seq (slotsOf S.n S.last count seq) = openTail S seq (some l) by rw [hso])
      have HHM := Lib.hid (refHomes_any h3 hrows hpg (by omega) (by omega))
      have HT3 := Lib.hid (Touch.of_below (F := G) hb03)
      clear hso hrows hpg h3 hb03 hb3 h2 h
      by_cases h0 : (homesS S l).1 = 0
      · have H0 := Lib.hid h0
        have HN2 := Lib.hid (show openTail S seq (some l) = (0, seq, (homesS S l).2) by unfold openTail; simp [h0])
        clear h0
        go_wp2_with fail
        refine HHM.out.mono ?_
        rw [H0.out]
        rintro e w4 ⟨rfl, hW4⟩
        obtain ⟨G', q1, q2, q3, q4, q5, q6⟩ := opened_new (seq := seq) (Wrote.join HT3.out (fun k hk => .inl hk) hW4)
        have HF := Lib.hid (And.intro q1 (And.intro q2 (And.intro q3 (And.intro q4 (And.intro q5 q6)))))
        clear hW4 q1 q2 q3 q4 q5 q6
        go_wp2
        go_ret2
        rw [HO.out, HN.out, HN2.out]
        exact .inr ⟨rfl, _, G', rfl, HF.out⟩
      · have kne : ((homesS S l).1 != 0) = true := by simpa using h0
        have KN := Lib.hid kne
        have HN2 := Lib.hid (show openTail S seq (some l) = ((homesS S l).1, 0, (homesS S l).2) by unfold openTail; simp [h0])
        have H0 := Lib.hid h0
        clear h0 kne
        go_wp2_with fail
        refine HHM.out.mono ?_
        rintro e w4 ⟨rfl, hW4⟩
        have hF := Lib.hid (Wrote.join HT3.out (fun k hk => .inl hk) hW4)
        have kne := KN.out
        clear hW4
        go_wp2
        go_ret2
        rw [HO.out, HN.out, HN2.out]
        exact .inl ⟨H0.out, rfl, hF.out⟩
  · have he4 : (unpackR (S.last 0)).2.2.2 = 4 := by
      rcases unpack_err (S.last 0) with e | e
      · exact absurd e he
      · exact e
    have HO := Lib.hid (show openS S = (4, 0, S) by unfold openS; rw [if_neg hd, if_pos he])
    have HE := Lib.hid he4
    have HS := Lib.hid (fun w1 hb => Wrote.later (w1 := w1) h hb)
    clear he he4 hd hd' h
    go_enter Tryd.func19, Tryd.ntmps19
    go_wp2_with fail
    refine HRD.out.mono ?_
    rintro e w1 ⟨g, rfl, hg, hr1, hb1⟩
    go_wp2_with fail
    refine (refUnpack_any _ 256 256 _ _ _ hr1 (Nat.le_refl _) (Nat.le_refl _) (by decide)).mono ?_
    rw [HE.out]
    rintro e w2 ⟨A2, n2, c2, rfl, _, _, hb2⟩
    have HW := Lib.hid (HS.out w2 (hb1.trans (hb2.mono hb1.size)))
    clear hr1 hb1 hb2
    go_wp2
    go_ret2
    rw [HO.out]
    exact .inl ⟨by show ¬ (4 : Int) = 0; decide, rfl, HW.out⟩
end

end Go.Proofs.YtkpmfobmlaldfaaDoor

/-
  Contracts of the plain log's Pages and Load, over the plain disk. No condition.
-/
namespace Go.Proofs.YtkpmfobmlaldfaaDoor
open Go.RowKit
set_option maxRecDepth 100000
set_option linter.unusedVariables false

section
variable {w : World} {G : Nat → Prop} {x : Addr} {S : DS} {q : Nat} {seq : Int}

theorem RLog.cells (h : RLog w q x seq) : w.cell? ⟨q, 0, none⟩ = some (.pointer (some x)) ∧ w.cell? ⟨q, 1, none⟩ = some (.int .i64 seq) ∧ w.frozen? ⟨q, 1, none⟩ = false ∧ q < w.heap.size := by
  refine ⟨?_, ?_, ?_, (Array.getElem?_eq_some_iff.1 h).1⟩
  · rw [cell_of_row w q 0 _ _ (0, 0) h]; rfl
  · rw [cell_of_row w q 1 _ _ (0, 0) h]; rfl
  · simp [World.frozen?, show w.heap[q]? = _ from h]
theorem RLog.keep {w' : World} (h : RLog w q x seq) (e : w'.heap[q]? = w.heap[q]?) : RLog w' q x seq := e.trans h

set_option maxHeartbeats 400000 in
theorem refLogPages_any (h : RefAt w G x S) (hq : RLog w q x seq) : Calls Tryd.prog 52 #[.pointer (some ⟨q, 0, none⟩)] w fun e w' => e = .returned (.int .i64 (pagesOf S.n)) ∧ w = w' := by
  obtain ⟨l0, l1, l2, l3⟩ := hq.cells
  obtain ⟨gl, c0, gx, rfl, hGx⟩ := h.sizeCell
  have hsz := h.okay'.size
  have HP := Lib.hid (refPages_any (S.n : Int) w (by omega))
  clear h hq
  go_enter Tryd.func52, Tryd.ntmps52
  go_wp2_with fail
  refine HP.out.mono ?_
  rintro e w1 ⟨rfl, rfl⟩
  go_wp2
  go_ret
  exact ⟨rfl, rfl⟩

set_option maxHeartbeats 1600000 in
theorem refLoad_any (h : RefAt w G x S) (hq : RLog w q x seq) (p : Int) : Calls Tryd.prog 50 #[.pointer (some ⟨q, 0, none⟩), .int .i64 p] w fun e w' => ∃ A n c, e = .returned (.tuple #[.slice A n c, .int .i64 (loadS S p).2]) ∧ n ≤ c ∧ RB w' w'.heap.size A n (loadS S p).1 ∧ Below w.heap.size w w' := by
  obtain ⟨i0, hi, hz0, hz1, hz2⟩ := info_parts info_u8
  obtain ⟨l0, l1, l2, l3⟩ := hq.cells
  obtain ⟨gl, c0, gx, rfl, hGx⟩ := h.sizeCell
  have hok := h.okay'
  have hsz := hok.size
  have hpb := pagesOf_bounds (S.n : Int)
  have hpn := (pagesOf_nn (S.n : Int)).2.1 (by omega)
  have HHM := Lib.hid (refHome_any (S.n : Int) p w (by omega))
  have hP : S.P = pagesOf S.n := rfl
  by_cases hr : p < 0 ∨ p ≥ pagesOf S.n
  · have hL : loadS S p = ([], 1) := by unfold loadS; rw [hP, if_pos hr]
    have hh : homeOf (S.n : Int) p = (0, false) := by unfold homeOf; rw [if_pos hr]
    rw [hh] at HHM
    rw [hL]
    clear hL hh hr h hq
    go_enter Tryd.func50, Tryd.ntmps50
    go_wp2_with fail
    refine HHM.out.mono ?_
    rintro e w1 ⟨rfl, rfl⟩
    go_wp2
    go_ret2
    exact ⟨none, 0, 0, rfl, Nat.le_refl _, RB.nil_, Below.refl _ _⟩
  have hh : homeOf (S.n : Int) p = (p + 1 + pagesOf S.n, true) := by unfold homeOf; rw [if_neg hr]
  rw [hh] at HHM
  by_cases hd : S.down = true
  · have hL : loadS S p = ([], 5) := by unfold loadS; rw [hP, if_neg hr, if_pos hd]
    have hre : S.readE (p + 1 + pagesOf S.n) = 5 := by simp [DS.readE, hd]
    have hrl : S.readL (p + 1 + pagesOf S.n) = [] := by simp [DS.readL, hre]
    have HRD := Lib.hid (refRead_any h (p + 1 + pagesOf S.n))
    rw [hre, hrl] at HRD
    rw [hL]
    clear hL hh hr h hq hre hrl hd
    go_enter Tryd.func50, Tryd.ntmps50
    go_wp2_with fail
    refine HHM.out.mono ?_
    rintro e w1 ⟨rfl, rfl⟩
    go_wp2_with fail
    refine HRD.out.mono ?_
    rintro e w1 ⟨A, n, c, rfl, _, _, hb⟩
    have HB := Lib.hid hb
    clear hb
    go_wp2
    go_ret2
    exact ⟨none, 0, 0, rfl, Nat.le_refl _, RB.nil_, HB.out⟩
  have hd' : S.down = false := by simpa using hd
  obtain ⟨a, ha⟩ := Int.eq_ofNat_of_zero_le (show 0 ≤ p + 1 + pagesOf S.n by omega)
  have HRD := Lib.hid (refRead_at h (q := a) (by omega) hd')
  rw [ha] at HHM
  have hbytes := hok.lastBytes a
  have hL : loadS S p = if (unpackR (S.last a)).2.2.2 ≠ 0 ∨ (unpackR (S.last a)).1 ≠ p then (zpage, 0) else ((unpackR (S.last a)).2.2.1, 0) := by
    unfold loadS
    rw [hP, if_neg hr, if_neg hd, ha, Int.toNat_natCast]
  have HL := Lib.hid hL
  have HUB := Lib.hid (unpackR_bytes hbytes.2)
  clear hL hh hr h hq hd hd' ha hbytes hok
  generalize hpg : (unpackR (S.last a)).1 = pg at HL
  generalize her : (unpackR (S.last a)).2.2.2 = er at HL
  have HPE := Lib.hid (And.intro hpg her)
  clear hpg her
  by_cases h1 : er = 0
  · subst h1
    by_cases h2 : pg = p
    · subst h2
      have k2 : (pg != pg) = false := by simp
      have HL2 := Lib.hid (HL.out.trans (if_neg (by simp)))
      go_enter Tryd.func50, Tryd.ntmps50
      go_wp2_with fail
      refine HHM.out.mono ?_
      rintro e w1 ⟨rfl, rfl⟩
      go_wp2_with fail
      refine HRD.out.mono ?_
      rintro e w1 ⟨g, rfl, hg, hr1, hb1⟩
      go_wp2_with fail
      refine (refUnpack_any _ 256 256 _ _ _ hr1 (Nat.le_refl _) (Nat.le_refl _) (by decide)).mono ?_
      rw [HPE.out.1, HPE.out.2]
      rintro e w2 ⟨A2, n2, c2, rfl, hc2, hr2, hb2⟩
      have HF := Lib.hid (And.intro hc2 (And.intro hr2 (hb1.trans (hb2.mono hb1.size))))
      clear hc2 hr2 hb1 hb2 hr1
      go_wp2
      go_ret2
      rw [HL2.out]
      exact ⟨_, _, _, rfl, HF.out⟩
    · have k2 : (pg != p) = true := by simpa using h2
      have HL2 := Lib.hid (HL.out.trans (if_pos (.inr h2)))
      clear h2
      go_enter Tryd.func50, Tryd.ntmps50
      go_wp2_with fail
      refine HHM.out.mono ?_
      rintro e w1 ⟨rfl, rfl⟩
      go_wp2_with fail
      refine HRD.out.mono ?_
      rintro e w1 ⟨g, rfl, hg, hr1, hb1⟩
      go_wp2_with fail
      refine (refUnpack_any _ 256 256 _ _ _ hr1 (Nat.le_refl _) (Nat.le_refl _) (by decide)).mono ?_
      rw [HPE.out.1, HPE.out.2]
      rintro e w2 ⟨A2, n2, c2, rfl, hc2, hr2, hb2⟩
      have hb02 := hb1.trans (hb2.mono hb1.size)
      clear hc2 hr2 hb1 hb2 hr1
      go_wp2_with (refine wpList_make_full w2 rfl _ _ 69 rfl w2.heap.size 5 i0 (.int .u8 0) 1 Tryd.underlying69 hi hz0 hz1 .i64 .i64 _ _ 240 rfl rfl rfl rfl (by rw [hz2]; decide) (by decide) (Nat.le_refl _) ?_; intro w3 hown3 hg3; have hb3 : Below w2.heap.size w2 w3 := (Below.refl _ _).grown hg3 (Nat.le_refl _) (by simp); have hr3 := RB.made hown3; have HF := Lib.hid (And.intro hr3 (hb02.trans (hb3.mono hb02.size))); clear hown3 hg3 hb3 hr3)
      go_ret2
      rw [HL2.out]
      exact ⟨_, 240, 240, rfl, Nat.le_refl _, HF.out⟩
  · have k1 : (er != 0) = true := by simpa using h1
    have HL2 := Lib.hid (HL.out.trans (if_pos (.inl h1)))
    clear h1
    go_enter Tryd.func50, Tryd.ntmps50
    go_wp2_with fail
    refine HHM.out.mono ?_
    rintro e w1 ⟨rfl, rfl⟩
    go_wp2_with fail
    refine HRD.out.mono ?_
    rintro e w1 ⟨g, rfl, hg, hr1, hb1⟩
    go_wp2_with fail
    refine (refUnpack_any _ 256 256 _ _ _ hr1 (Nat.le_refl _) (Nat.le_refl _) (by decide)).mono ?_
    rw [HPE.out.1, HPE.out.2]
    rintro e w2 ⟨A2, n2, c2, rfl, hc2, hr2, hb2⟩
    have hb02 := hb1.trans (hb2.mono hb1.size)
    clear hc2 hr2 hb1 hb2 hr1
    go_wp2_with (refine wpList_make_full w2 rfl _ _ 69 rfl w2.heap.size 5 i0 (.int .u8 0) 1 Tryd.underlying69 hi hz0 hz1 .i64 .i64 _ _ 240 rfl rfl rfl rfl (by rw [hz2]; decide) (by decide) (Nat.le_refl _) ?_; intro w3 hown3 hg3; have hb3 : Below w2.heap.size w2 w3 := (Below.refl _ _).grown hg3 (Nat.le_refl _) (by simp); have hr3 := RB.made hown3; have HF := Lib.hid (And.intro hr3 (hb02.trans (hb3.mono hb02.size))); clear hown3 hg3 hb3 hr3)
    go_ret2
    rw [HL2.out]
    exact ⟨_, 240, 240, rfl, Nat.le_refl _, HF.out⟩
end

end Go.Proofs.YtkpmfobmlaldfaaDoor

/-
  Words for a list of images as it lies in memory; the plain log's test of images by contract. Condition: at most 65,536 images.
-/
namespace Go.Proofs.YtkpmfobmlaldfaaDoor
open Go.RowKit
set_option maxRecDepth 100000
set_option linter.unusedVariables false

/-- An image at place i of a row, apart from the blocks G. -/
def ImgAt (w : World) (G : Nat → Prop) (b i : Nat) (y : Int × List Int) : Prop :=
  w.cell? ⟨b, i * 2, none⟩ = some (.int .i64 y.1) ∧ ∃ D m c, w.cell? ⟨b, i * 2 + 1, none⟩ = some (.slice D m c) ∧ m ≤ c ∧ m ≤ 9223372036854775807 ∧ RB w w.heap.size D m y.2 ∧ ∀ a, D = some a → 0 < m → ¬ G a.block
/-- The slice at A of n images reads as the list l, apart from the blocks G. -/
def RImgs (w : World) (G : Nat → Prop) (A : Option Addr) (n : Nat) (l : List (Int × List Int)) : Prop :=
  l.length = n ∧ (0 < n → ∃ b, A = some ⟨b, 0, none⟩ ∧ ¬ G b ∧ b < w.heap.size ∧ ∀ i y, l[i]? = some y → ImgAt w G b i y)

theorem RImgs.keep {w w' : World} {G G' : Nat → Prop} {A : Option Addr} {n : Nat} {l : List (Int × List Int)} (h : RImgs w G A n l) (hs : w.heap.size ≤ w'.heap.size) (hG : ∀ k, k < w.heap.size → ¬ G k → ¬ G' k) (hk : ∀ k, k < w.heap.size → ¬ G k → w'.heap[k]? = w.heap[k]?) : RImgs w' G' A n l := by
  refine ⟨h.1, fun hn => ?_⟩
  obtain ⟨b, e, h1, h2, h3⟩ := h.2 hn
  refine ⟨b, e, hG b h2 h1, by omega, fun i y hy => ?_⟩
  obtain ⟨c1, D, m, c, c2, c3, c4, c5, c6⟩ := h3 i y hy
  refine ⟨(World.cell?_of_block (a := ⟨b, i * 2, none⟩) (hk b h2 h1)).trans c1, D, m, c, (World.cell?_of_block (a := ⟨b, i * 2 + 1, none⟩) (hk b h2 h1)).trans c2, c3, c4, ?_, fun a ha hm => ?_⟩
  · refine ⟨c5.1, c5.2.1, fun hm => ?_⟩
    obtain ⟨bb, off, e2, hbb, hc⟩ := c5.2.2 hm
    have hng : ¬ G bb := by have := c6 _ e2 hm; exact this
    exact ⟨bb, off, e2, by omega, fun j hj => (World.cell?_of_block (a := ⟨bb, off + j, none⟩) (hk bb hbb hng)).trans (hc j hj)⟩
  · obtain ⟨bb, off, e2, hbb, hc⟩ := c5.2.2 hm
    rw [e2] at ha
    cases ha
    exact hG bb hbb (c6 _ e2 hm)

/-- The first i images may be committed. -/
def GoodUp (S : DS) (l : List (Int × List Int)) (i : Nat) : Prop :=
  (∀ j y, j < i → l[j]? = some y → 0 ≤ y.1 ∧ y.1 < S.P ∧ y.2.length = 240) ∧ ∀ j k y z, j < k → k < i → l[j]? = some y → l[k]? = some z → y.1 ≠ z.1
theorem GoodUp.all {S : DS} {l : List (Int × List Int)} (h : GoodUp S l l.length) : rightS S l := by
  refine ⟨fun x hx => ?_, ?_⟩
  · obtain ⟨i, hi, e⟩ := List.getElem_of_mem hx
    exact h.1 i x hi (by rw [List.getElem?_eq_getElem hi, e])
  · rw [List.nodup_iff_pairwise_ne, List.pairwise_iff_getElem]
    intro i j hi hj hij
    simp only [List.length_map] at hi hj
    rw [List.getElem_map, List.getElem_map]
    exact h.2 i j _ _ hij hj (List.getElem?_eq_getElem hi) (List.getElem?_eq_getElem hj)
theorem not_right_at {S : DS} {l : List (Int × List Int)} {i : Nat} {y : Int × List Int} (hy : l[i]? = some y) (h : ¬ (0 ≤ y.1 ∧ y.1 < S.P ∧ y.2.length = 240)) : ¬ rightS S l := fun hr => h (hr.1 y (List.mem_of_getElem? hy))
theorem not_right_two {S : DS} {l : List (Int × List Int)} {i j : Nat} {y z : Int × List Int} (hij : j < i) (hy : l[i]? = some y) (hz : l[j]? = some z) (h : z.1 = y.1) : ¬ rightS S l := fun hr => by
  have := hr.2
  rw [List.nodup_iff_pairwise_ne, List.pairwise_iff_getElem] at this
  obtain ⟨hi, e1⟩ := List.getElem?_eq_some_iff.1 hy
  obtain ⟨hj, e2⟩ := List.getElem?_eq_some_iff.1 hz
  refine this j i (by simpa using hj) (by simpa using hi) hij ?_
  rw [List.getElem_map, List.getElem_map, e1, e2, h]
theorem GoodUp.next {S : DS} {l : List (Int × List Int)} {i : Nat} {y : Int × List Int} (h : GoodUp S l i) (hy : l[i]? = some y) (h1 : 0 ≤ y.1 ∧ y.1 < S.P ∧ y.2.length = 240) (h2 : ∀ j z, j < i → l[j]? = some z → z.1 ≠ y.1) : GoodUp S l (i + 1) := by
  refine ⟨fun j z hj hz => ?_, fun j k z v hjk hk hz hv => ?_⟩
  · rcases Nat.lt_or_ge j i with h' | h'
    · exact h.1 j z h' hz
    · obtain rfl : j = i := by omega
      rw [hy] at hz
      cases hz
      exact h1
  · rcases Nat.lt_or_ge k i with h' | h'
    · exact h.2 j k z v hjk h' hz hv
    · obtain rfl : k = i := by omega
      rw [hy] at hv
      cases hv
      exact h2 j z hjk hz

end Go.Proofs.YtkpmfobmlaldfaaDoor

/-
  Contract of the plain log's test of images, over the plain disk. Condition: at most 65,536 images.
-/
namespace Go.Proofs.YtkpmfobmlaldfaaDoor
open Go.RowKit
set_option maxRecDepth 100000
set_option linter.unusedVariables false

theorem belowN {B : Nat} {w w' : World} (h : Below B w w') : ∀ n, Below B w (w'.drewN n) := fun n => ⟨h.os, h.tape, h.output, h.size, h.block⟩

section
variable {w : World} {G : Nat → Prop} {x : Addr} {S : DS} {q : Nat} {seq : Int}

end

end Go.Proofs.YtkpmfobmlaldfaaDoor

/-
  Contracts of dir.has and of the plain right: for every Meta and slot they answer the same; one new block. No condition beyond that lengths are ints.
-/
namespace Go.Proofs.YtkpmfobmlaldfaaDoor
open Go.RowKit
set_option maxRecDepth 100000
set_option linter.unusedVariables false

/-- A Meta in a block of its own. -/
def DBox (w : World) (b : Nat) (d f n c : Int) (v : Value) : Prop := w.heap[b]? = some (.cells #[.int .i64 d, .int .i64 f, .int .i64 n, .int .i64 c, v] 24 (0, 0))
theorem DBox.new (w : World) (d f n c : Int) (v : Value) : DBox (w.alloc (.cells #[.int .i64 d, .int .i64 f, .int .i64 n, .int .i64 c, v] 24)) w.heap.size d f n c v := heap_alloc_new _ _
theorem DBox.cells {w : World} {b : Nat} {d f n c : Int} {v : Value} (h : DBox w b d f n c v) : w.cell? ⟨b, 0, none⟩ = some (.int .i64 d) ∧ w.cell? ⟨b, 1, none⟩ = some (.int .i64 f) ∧ w.cell? ⟨b, 2, none⟩ = some (.int .i64 n) ∧ w.cell? ⟨b, 3, none⟩ = some (.int .i64 c) ∧ w.cell? ⟨b, 4, none⟩ = some v ∧ b < w.heap.size := by
  refine ⟨?_, ?_, ?_, ?_, ?_, (Array.getElem?_eq_some_iff.1 h).1⟩ <;> (rw [cell_of_row w b _ _ _ (0, 0) h]; rfl)
theorem DBox.below {w w' : World} {b : Nat} {d f n c : Int} {v : Value} (h : DBox w b d f n c v) (hb : Below w.heap.size w w') : DBox w' b d f n c v := (hb.block b h.cells.2.2.2.2.2).trans h

set_option maxHeartbeats 6400000 in
theorem dirHas_any (d f n c : Int) (A : Option Addr) (k cap : Nat) (slot : Int) (w : World) (hk : k ≤ maxLen) :
    Calls Tryd.prog 21 #[.agg #[.int .i64 d, .int .i64 f, .int .i64 n, .int .i64 c, .slice A k cap], .int .i64 slot] w fun e w' => e = .returned (.bool (okD d k slot)) ∧ Below w.heap.size w w' := by
  unfold maxLen at hk
  have HX := Lib.hid (show Below w.heap.size w (w.alloc (.cells #[.int .i64 d, .int .i64 f, .int .i64 n, .int .i64 c, .slice A k cap] 24)) from (Below.refl _ _).alloc (Nat.le_refl _) _)
  have HND := Lib.hid (fun w => Need_any d w)
  obtain ⟨z0, z1, z2, z3, z4, _⟩ := (DBox.new w d f n c (.slice A k cap)).cells
  have hp := powD_le d
  by_cases h1 : 0 ≤ d
  case neg =>
    have hr : okD d k slot = false := decide_eq_false (fun h => h1 h.1.1)
    rw [hr]
    clear hr
    have k1 : decide (0 ≤ d) = false := by simpa using h1
    clear h1
    go_enter Tryd.func21, Tryd.ntmps21
    go_wp2_with fail
    go_quiet (fail)
    go_wp2
    go_ret
    exact ⟨rfl, belowN HX.out _⟩
  have k1 : decide (0 ≤ d) = true := by simpa using h1
  by_cases h2 : d ≤ 10
  case neg =>
    have hr : okD d k slot = false := decide_eq_false (fun h => h2 h.1.2)
    rw [hr]
    clear hr
    have k2 : decide (d ≤ 10) = false := by simpa using h2
    clear h1 h2
    go_enter Tryd.func21, Tryd.ntmps21
    go_wp2_with fail
    go_quiet (fail)
    go_wp2
    go_ret
    exact ⟨rfl, belowN HX.out _⟩
  have k2 : decide (d ≤ 10) = true := by simpa using h2
  have hsh := shlD ⟨h1, h2⟩
  by_cases h3 : 0 ≤ slot
  case neg =>
    have hr : okD d k slot = false := decide_eq_false (fun h => h3 h.2.1.1)
    rw [hr]
    clear hr hsh
    have k3 : decide (0 ≤ slot) = false := by simpa using h3
    clear h3
    go_enter Tryd.func21, Tryd.ntmps21
    go_wp2_with fail
    go_quiet (fail)
    go_wp2
    go_ret
    exact ⟨rfl, belowN HX.out _⟩
  have k3 : decide (0 ≤ slot) = true := by simpa using h3
  by_cases h4 : slot < ((2 ^ depD d : Nat) : Int)
  case neg =>
    have hr : okD d k slot = false := decide_eq_false (fun h => h4 h.2.1.2)
    rw [hr]
    clear hr
    have k4 : decide (slot < ((2 ^ depD d : Nat) : Int)) = false := by simpa using h4
    clear h4
    generalize 2 ^ depD d = m at hsh hp k4
    go_enter Tryd.func21, Tryd.ntmps21
    go_wp2_with fail
    go_quiet (fail)
    go_wp2
    go_ret
    exact ⟨rfl, belowN HX.out _⟩
  have k4 : decide (slot < ((2 ^ depD d : Nat) : Int)) = true := by simpa using h4
  have hr : okD d k slot = ((k : Int) == ((needD d : Nat) : Int)) := by
    unfold okD
    by_cases e : k = needD d
    · rw [decide_eq_true ⟨⟨h1, h2⟩, ⟨h3, h4⟩, e⟩, e]; simp
    · rw [decide_eq_false (fun h => e h.2.2)]; simp; omega
  rw [hr]
  clear hr h4
  generalize needD d = nd at *
  generalize 2 ^ depD d = m at *
  go_enter Tryd.func21, Tryd.ntmps21
  go_wp2_with fail
  go_quiet ((go_at_call 11; exact Calls.quiet_of_same ((HND.out _).mono (fun e w' h => ⟨h.1, h.2.symm⟩))))
  go_wp2
  go_ret
  exact ⟨rfl, belowN HX.out _⟩

set_option maxHeartbeats 6400000 in
theorem refRight_dir (d f n c : Int) (A : Option Addr) (k cap : Nat) (slot : Int) (w : World) (hk : k ≤ maxLen) :
    Calls Tryd.prog 27 #[.agg #[.int .i64 d, .int .i64 f, .int .i64 n, .int .i64 c, .slice A k cap], .int .i64 slot] w fun e w' => e = .returned (.bool (okD d k slot)) ∧ Below w.heap.size w w' := by
  unfold maxLen at hk
  have HX := Lib.hid (show Below w.heap.size w (w.alloc (.cells #[.int .i64 d, .int .i64 f, .int .i64 n, .int .i64 c, .slice A k cap] 24)) from (Below.refl _ _).alloc (Nat.le_refl _) _)
  have HND := Lib.hid (fun w => refNeed_any d w)
  obtain ⟨z0, z1, z2, z3, z4, _⟩ := (DBox.new w d f n c (.slice A k cap)).cells
  have hp := powD_le d
  by_cases h1 : 0 ≤ d
  case neg =>
    have hr : okD d k slot = false := decide_eq_false (fun h => h1 h.1.1)
    rw [hr]
    clear hr
    have k1 : decide (d < 0) = true := by simp; omega
    clear h1
    go_enter Tryd.func27, Tryd.ntmps27
    go_wp2_with fail
    go_quiet (fail)
    go_wp2
    go_ret
    exact ⟨rfl, belowN HX.out _⟩
  have k1 : decide (d < 0) = false := by simp; omega
  by_cases h2 : d ≤ 10
  case neg =>
    have hr : okD d k slot = false := decide_eq_false (fun h => h2 h.1.2)
    rw [hr]
    clear hr
    have k2 : decide (10 < d) = true := by simp; omega
    clear h1 h2
    go_enter Tryd.func27, Tryd.ntmps27
    go_wp2_with fail
    go_quiet (fail)
    go_wp2
    go_ret
    exact ⟨rfl, belowN HX.out _⟩
  have k2 : decide (10 < d) = false := by simp; omega
  by_cases h5 : k = needD d
  case neg =>
    have hr : okD d k slot = false := decide_eq_false (fun h => h5 h.2.2)
    rw [hr]
    clear hr
    have k5 : ((k : Int) != ((needD d : Nat) : Int)) = true := by simp; omega
    clear h5
    generalize needD d = nd at *
    go_enter Tryd.func27, Tryd.ntmps27
    go_wp2_with fail
    go_quiet ((go_at_call 12; exact Calls.quiet_of_same ((HND.out _).mono (fun e w' h => ⟨h.1, h.2.symm⟩))))
    go_wp2
    go_ret
    exact ⟨rfl, belowN HX.out _⟩
  have k5 : ((k : Int) != ((needD d : Nat) : Int)) = false := by simp; omega
  have hr : okD d k slot = (decide (0 ≤ slot) && decide (slot < ((2 ^ depD d : Nat) : Int))) := by
    unfold okD
    by_cases e : 0 ≤ slot ∧ slot < ((2 ^ depD d : Nat) : Int)
    · rw [decide_eq_true ⟨⟨h1, h2⟩, e, h5⟩, decide_eq_true e.1, decide_eq_true e.2]; rfl
    · rw [decide_eq_false (fun h => e h.2.1)]
      by_cases e1 : 0 ≤ slot
      · rw [decide_eq_false (p := slot < _) (fun h => e ⟨e1, h⟩)]; simp
      · rw [decide_eq_false e1]; rfl
  rw [hr]
  clear hr h5
  generalize needD d = nd at *
  obtain ⟨dk, rfl⟩ := Int.eq_ofNat_of_zero_le h1
  have hdk : depD (dk : Int) = dk := by unfold depD; omega
  rw [hdk] at hp ⊢
  clear hdk
  have hdk10 : dk ≤ 10 := by omega
  generalize hrr : (decide (0 ≤ slot) && decide (slot < ((2 ^ dk : Nat) : Int))) = rr at *
  have HR := Lib.hid hrr
  clear hrr
  go_enter Tryd.func27, Tryd.ntmps27
  go_wp2_with fail
  go_quiet ((go_at_call 12; exact Calls.quiet_of_same ((HND.out _).mono (fun e w' h => ⟨h.1, h.2.symm⟩))))
  have HB := Lib.hid (belowN HX.out nq)
  clear HND k1 k2 k5 h1 h2
  go_wp2
  go_loop [5, 6] (fun v i => ∃ j : Nat, j ≤ dk ∧ i = .int .i64 j ∧ v = .int .i64 ((2 ^ j : Nat) : Int)) (fun _ i => 10 - (intOf i).toNat)
  case atStart => exact ⟨0, Nat.zero_le _, rfl, rfl⟩
  case round =>
    obtain ⟨j, hj, rfl, rfl⟩ := hrel
    have p1 : 2 ^ j ≤ 1024 := by
      have := Nat.pow_le_pow_right (n := 2) (by decide) (show j ≤ 10 by omega)
      omega
    have hs := Lib.hid (show 2 ^ (j + 1) = 2 ^ j * 2 from Nat.pow_succ ..)
    by_cases hlt : j < dk
    · have h1 : (j : Int) < (dk : Int) := by omega
      generalize 2 ^ j = m at p1 hs ⊢
      clear hp
      go_wp2
      go_round
      case rel => exact ⟨j + 1, by omega, by go_num, by rw [hs.out]; first | rfl | simp⟩
      case measure => simp [intOf]; omega
    · obtain rfl : j = dk := by omega
      clear hs hp
      generalize 2 ^ j = m at p1 HR ⊢
      by_cases e1 : 0 ≤ slot
      · have hrr : decide (slot < (m : Int)) = rr := by rw [← HR.out, decide_eq_true e1]; rfl
        go_wp2
        go_ret
        exact ⟨rfl, HB.out⟩
      · have hrr : rr = false := by rw [← HR.out, decide_eq_false e1]; rfl
        subst hrr
        have k3 : decide (0 ≤ slot) = false := by simpa using e1
        clear e1
        go_wp2
        go_ret
        exact ⟨rfl, HB.out⟩
end Go.Proofs.YtkpmfobmlaldfaaDoor

/-
  Plain: what a pager has set, as a rising list of pages, and what it makes of a log; as the document says. No program.
-/
namespace Go.Proofs.YtkpmfobmlaldfaaDoor
open Go.RowKit
set_option maxRecDepth 100000
set_option linter.unusedVariables false

/-- What page i was set to, if it was. -/
def atL : List (Int × List Int) → Int → Option (List Int)
  | [], _ => none
  | x :: r, i => if x.1 = i then some x.2 else atL r i
/-- Page i is set to l. -/
def setL : List (Int × List Int) → Int → List Int → List (Int × List Int)
  | [], i, l => [(i, l)]
  | x :: r, i, l => if x.1 < i then x :: setL r i l else if x.1 = i then (i, l) :: r else (i, l) :: x :: r
/-- Rising. -/
def Rising (L : List (Int × List Int)) : Prop := L.Pairwise fun a b => a.1 < b.1
/-- All of it may be committed, one by one. -/
def AllSet (S : DS) (L : List (Int × List Int)) : Prop := ∀ x ∈ L, 0 ≤ x.1 ∧ x.1 < S.P ∧ x.2.length = 240 ∧ AllBytes x.2
def getPg (S : DS) (L : List (Int × List Int)) (i : Int) : List Int × Int := match atL L i with | some l => (l, 0) | none => loadS S i
def setPgE (S : DS) (i : Int) (l : List Int) : Int := if i < 0 ∨ i ≥ S.P ∨ l.length ≠ 240 then 1 else 0
def setPg (S : DS) (L : List (Int × List Int)) (i : Int) (l : List Int) : List (Int × List Int) := if i < 0 ∨ i ≥ S.P ∨ l.length ≠ 240 then L else setL L i l
def leftPg (S : DS) (seq : Int) (L : List (Int × List Int)) : List (Int × List Int) := if (commitS S seq L).1 = 0 then [] else L

section
variable {S : DS} {L : List (Int × List Int)} {i j : Int} {l : List Int}

theorem atL_setL : ∀ L : List (Int × List Int), atL (setL L i l) j = if j = i then some l else atL L j
  | [] => by
    show (if i = j then some l else none) = _
    by_cases h : j = i
    · rw [if_pos h, if_pos h.symm]
    · rw [if_neg h, if_neg (fun e => h e.symm)]; rfl
  | x :: r => by
    unfold setL
    by_cases h1 : x.1 < i
    · rw [if_pos h1]
      show (if x.1 = j then some x.2 else atL (setL r i l) j) = if j = i then some l else if x.1 = j then some x.2 else atL r j
      rw [atL_setL r]
      by_cases h2 : x.1 = j
      · rw [if_pos h2, if_pos h2, if_neg (by omega)]
      · rw [if_neg h2, if_neg h2]
    · rw [if_neg h1]
      by_cases h2 : x.1 = i
      · rw [if_pos h2]
        show (if i = j then some l else atL r j) = if j = i then some l else if x.1 = j then some x.2 else atL r j
        by_cases h3 : j = i
        · rw [if_pos h3.symm, if_pos h3]
        · rw [if_neg (fun e => h3 e.symm), if_neg h3, if_neg (by omega)]
      · rw [if_neg h2]
        show (if i = j then some l else if x.1 = j then some x.2 else atL r j) = if j = i then some l else if x.1 = j then some x.2 else atL r j
        by_cases h3 : j = i
        · rw [if_pos h3.symm, if_pos h3]
        · rw [if_neg (fun e => h3 e.symm), if_neg h3]
theorem mem_setL {x : Int × List Int} : ∀ L : List (Int × List Int), x ∈ setL L i l → x = (i, l) ∨ x ∈ L
  | [], h => .inl (List.mem_singleton.1 h)
  | y :: r, h => by
    unfold setL at h
    by_cases h1 : y.1 < i
    · rw [if_pos h1] at h
      rcases List.mem_cons.1 h with rfl | h
      · exact .inr (List.mem_cons_self ..)
      · exact (mem_setL r h).imp id (List.mem_cons_of_mem _)
    · rw [if_neg h1] at h
      by_cases h2 : y.1 = i
      · rw [if_pos h2] at h
        rcases List.mem_cons.1 h with rfl | h
        · exact .inl rfl
        · exact .inr (List.mem_cons_of_mem _ h)
      · rw [if_neg h2] at h
        rcases List.mem_cons.1 h with rfl | h
        · exact .inl rfl
        · exact .inr h
theorem Rising.set : ∀ {L : List (Int × List Int)}, Rising L → Rising (setL L i l)
  | [], _ => List.pairwise_singleton ..
  | y :: r, h => by
    have h' := List.pairwise_cons.1 h
    unfold setL
    by_cases h1 : y.1 < i
    · rw [if_pos h1]
      refine List.pairwise_cons.2 ⟨fun z hz => ?_, Rising.set h'.2⟩
      rcases mem_setL r hz with rfl | hz
      · exact h1
      · exact h'.1 z hz
    · rw [if_neg h1]
      by_cases h2 : y.1 = i
      · rw [if_pos h2]
        exact List.pairwise_cons.2 ⟨fun z hz => by have := h'.1 z hz; show i < z.1; omega, h'.2⟩
      · rw [if_neg h2]
        refine List.pairwise_cons.2 ⟨fun z hz => ?_, h⟩
        rcases List.mem_cons.1 hz with rfl | hz
        · show i < z.1; omega
        · have := h'.1 z hz; show i < z.1; omega
theorem AllSet.set (h : AllSet S L) (hi : 0 ≤ i ∧ i < S.P) (hl : l.length = 240) (hb : AllBytes l) : AllSet S (setL L i l) := fun x hx => by
  rcases mem_setL L hx with rfl | hx
  · exact ⟨hi.1, hi.2, hl, hb⟩
  · exact h x hx
theorem setPg_ok (h : Rising L) (h2 : AllSet S L) (hb : AllBytes l) : Rising (setPg S L i l) ∧ AllSet S (setPg S L i l) := by
  unfold setPg
  by_cases hc : i < 0 ∨ i ≥ S.P ∨ l.length ≠ 240
  · rw [if_pos hc]; exact ⟨h, h2⟩
  · rw [if_neg hc]
    exact ⟨h.set, h2.set (by omega) (by omega) hb⟩
theorem atL_none : ∀ {L : List (Int × List Int)}, (∀ x ∈ L, x.1 ≠ i) → atL L i = none
  | [], _ => rfl
  | x :: r, h => by
    unfold atL
    rw [if_neg (h x (List.mem_cons_self ..))]
    exact atL_none fun y hy => h y (List.mem_cons_of_mem _ hy)
theorem atL_mem : ∀ {L : List (Int × List Int)}, atL L i = some l → (i, l) ∈ L
  | [], h => by cases h
  | x :: r, h => by
    unfold atL at h
    by_cases h1 : x.1 = i
    · rw [if_pos h1] at h
      cases h
      rw [← h1]
      exact List.mem_cons_self ..
    · rw [if_neg h1] at h
      exact List.mem_cons_of_mem _ (atL_mem h)
theorem Rising.at_ : ∀ {L : List (Int × List Int)}, Rising L → (i, l) ∈ L → atL L i = some l
  | [], _, h => by cases h
  | x :: r, hr, h => by
    have h' := List.pairwise_cons.1 hr
    unfold atL
    rcases List.mem_cons.1 h with e | h
    · rw [← e, if_pos rfl]
    · have : x.1 < i := h'.1 _ h
      rw [if_neg (by omega)]
      exact Rising.at_ h'.2 h
theorem Rising.nodup (h : Rising L) : (L.map (·.1)).Nodup := by
  rw [List.nodup_iff_pairwise_ne, List.pairwise_map]
  exact h.imp fun {a b} hab => by omega
theorem Rising.right (h : Rising L) (h2 : AllSet S L) : rightS S L := ⟨fun x hx => ⟨(h2 x hx).1, (h2 x hx).2.1, (h2 x hx).2.2.1⟩, h.nodup⟩
theorem nodup_between : ∀ (N : Nat) (l : List Int), l.Nodup → (∀ x ∈ l, 0 ≤ x ∧ x < N) → l.length ≤ N
  | 0, l, _, h => by
    cases l with
    | nil => exact Nat.le_refl _
    | cons x r => have := h x (List.mem_cons_self ..); omega
  | N + 1, l, hn, h => by
    have h1 : (l.erase (N : Int)).length ≤ N := nodup_between N _ (hn.erase _) fun x hx => by
      have hx' := (hn.mem_erase_iff).1 hx
      have := h x hx'.2
      have := hx'.1
      omega
    have h2 : l.length ≤ (l.erase (N : Int)).length + 1 := by
      rw [List.length_erase]
      split <;> omega
    omega
theorem few_set (h : Rising L) (h2 : AllSet S L) : (L.length : Int) ≤ S.P := by
  have hp := pagesOf_bounds (S.n : Int)
  rcases Int.lt_or_le S.P 0 with hneg | hpos
  · cases L with
    | nil => exfalso; have := (pagesOf_nn (S.n : Int)).1; unfold DS.P at hneg; omega
    | cons x r => have := h2 x (List.mem_cons_self ..); omega
  · obtain ⟨N, hN⟩ := Int.eq_ofNat_of_zero_le hpos
    have := nodup_between N (L.map (·.1)) h.nodup fun x hx => by
      obtain ⟨y, hy, rfl⟩ := List.mem_map.1 hx
      have := h2 y hy
      omega
    rw [List.length_map] at this
    omega
end

end Go.Proofs.YtkpmfobmlaldfaaDoor

/-
  What the program's own disk is to answer (Pending is not asked: for seats that do not call it), as a statement over any way in which a disk lies in memory: proved in a text of its own, used by the laws' walks.
-/
namespace Go.Proofs.YtkpmfobmlaldfaaDoor
open Go.RowKit
set_option maxRecDepth 100000
set_option linter.unusedVariables false

/-- D w F p S: in w a disk S lies at p, in the blocks of F. -/
structure DiskApi (D : World → (Nat → Prop) → Addr → DS → Prop) : Prop where
  keep : ∀ (w w' : World) (F : Nat → Prop) (p : Addr) (S : DS), D w F p S → (∀ k, F k → w'.heap[k]? = w.heap[k]?) → D w' F p S
  lt : ∀ (w : World) (F : Nat → Prop) (p : Addr) (S : DS), D w F p S → ∀ k, F k → k < w.heap.size
  ok : ∀ (w : World) (F : Nat → Prop) (p : Addr) (S : DS), D w F p S → S.Ok
  new : ∀ (n : Int) (w : World), 3 ≤ n → n ≤ 65536 → Calls Tryd.prog 13 #[.int .i64 n] w fun e w' => ∃ (p : Addr) (F : Nat → Prop), e = .returned (.tuple #[.pointer (some p), .int .i64 0]) ∧ D w' F p (DS.new n.toNat) ∧ Below w.heap.size w w' ∧ ∀ k, F k → w.heap.size ≤ k
  newNo : ∀ (n : Int) (w : World), ¬ (3 ≤ n ∧ n ≤ 65536) → Calls Tryd.prog 13 #[.int .i64 n] w fun e w' => e = .returned (.tuple #[.pointer none, .int .i64 1]) ∧ w = w'
  read : ∀ (i : Int) (w : World) (F : Nat → Prop) (p : Addr) (S : DS), D w F p S → Calls Tryd.prog 35 #[.pointer (some p), .int .i64 i] w fun e w' => ∃ (A : Option Addr) (n c : Nat), e = .returned (.tuple #[.slice A n c, .int .i64 (S.readE i)]) ∧ n ≤ c ∧ RB w' w'.heap.size A n (S.readL i) ∧ Below w.heap.size w w'
  readAt : ∀ (i : Int) (w : World) (F : Nat → Prop) (p : Addr) (S : DS), D w F p S → S.readE i = 0 → Calls Tryd.prog 35 #[.pointer (some p), .int .i64 i] w fun e w' => ∃ g c, e = .returned (.tuple #[.slice (some ⟨g, 0, none⟩) 256 c, .int .i64 0]) ∧ 256 ≤ c ∧ w.heap.size ≤ g ∧ RB w' w'.heap.size (some ⟨g, 0, none⟩) 256 (S.last i.toNat) ∧ Below w.heap.size w w'
  write : ∀ (i : Int) (A : Option Addr) (n c B : Nat) (l : List Int) (w : World) (F : Nat → Prop) (p : Addr) (S : DS), D w F p S → RB w B A n l → n ≤ c → n ≤ 4096 → S.writes ≤ 9223372036854775806 → (∀ a, A = some a → ¬ F a.block) →
    Calls Tryd.prog 55 #[.pointer (some p), .int .i64 i, .slice A n c] w fun e w' => e = .returned (.int .i64 (S.writeE i l)) ∧ ∃ F' : Nat → Prop, D w' F' p (S.write i l) ∧ Touch F w w' ∧ ∀ k, F' k → F k ∨ w.heap.size ≤ k
  flush : ∀ (w : World) (F : Nat → Prop) (p : Addr) (S : DS), D w F p S → Calls Tryd.prog 56 #[.pointer (some p)] w fun e w' => e = .returned (.int .i64 S.flushE) ∧ ∃ F' : Nat → Prop, D w' F' p S.flush ∧ Touch F w w' ∧ ∀ k, F' k → F k ∨ w.heap.size ≤ k
  sizes : ∀ (w : World) (F : Nat → Prop) (p : Addr) (S : DS), D w F p S → Calls Tryd.prog 65 #[.pointer (some p)] w fun e w' => e = .returned (.int .i64 (S.n : Int)) ∧ Below w.heap.size w w'
  sizeSame : ∀ (w : World) (F : Nat → Prop) (p : Addr) (S : DS), D w F p S → Calls Tryd.prog 65 #[.pointer (some p)] w fun e w' => e = .returned (.int .i64 (S.n : Int)) ∧ w' = w

theorem DiskApi.below {D : World → (Nat → Prop) → Addr → DS → Prop} (api : DiskApi D) {w w' : World} {F : Nat → Prop} {p : Addr} {S : DS} (h : D w F p S) (hb : Below w.heap.size w w') : D w' F p S :=
  api.keep w w' F p S h fun k hk => hb.block k (api.lt w F p S h k hk)

/-- A disk in a law's memory: in blocks of the law's own. -/
def Own (D : World → (Nat → Prop) → Addr → DS → Prop) (B : Nat) (w : World) (p : Addr) (S : DS) : Prop := ∃ F : Nat → Prop, D w F p S ∧ ∀ k, F k → B ≤ k

end Go.Proofs.YtkpmfobmlaldfaaDoor

/-
  What the program's own layout is to answer, as statements: proved in a text of its own, used by the laws' walks. No condition.
-/
namespace Go.Proofs.YtkpmfobmlaldfaaDoor
open Go.RowKit
set_option maxRecDepth 100000
set_option linter.unusedVariables false

def LayPagesSaid : Prop := ∀ (n : Int) (w : World), -9223372036854775808 ≤ n ∧ n ≤ 9223372036854775807 → Calls Tryd.prog 64 #[.int .i64 n] w fun e w' => e = .returned (.int .i64 (pagesOf n)) ∧ w = w'
def LaySlotSaid : Prop := ∀ (n i : Int) (w : World), -9223372036854775808 ≤ n ∧ n ≤ 9223372036854775807 → -9223372036854775808 ≤ i ∧ i ≤ 9223372036854775807 → Calls Tryd.prog 83 #[.int .i64 n, .int .i64 i] w fun e w' => e = .returned (.tuple #[.int .i64 (slotOf n i).1, .bool (slotOf n i).2]) ∧ w = w'
def LayHomeSaid : Prop := ∀ (n i : Int) (w : World), -9223372036854775808 ≤ n ∧ n ≤ 9223372036854775807 → -9223372036854775808 ≤ i ∧ i ≤ 9223372036854775807 → Calls Tryd.prog 75 #[.int .i64 n, .int .i64 i] w fun e w' => e = .returned (.tuple #[.int .i64 (homeOf n i).1, .bool (homeOf n i).2]) ∧ w = w'
def LayMarkSaid : Prop := ∀ w : World, Calls Tryd.prog 36 #[] w fun e w' => e = .returned (.int .i64 0) ∧ w = w'
/-- All four. -/
structure LayApi : Prop where
  pages : LayPagesSaid
  slot : LaySlotSaid
  home : LayHomeSaid
  mark : LayMarkSaid

end Go.Proofs.YtkpmfobmlaldfaaDoor

/-
  The program's own layout by contract: for any numbers it answers how many pages there are and where they stand; nothing is written. No condition.
-/
namespace Go.Proofs.YtkpmfobmlaldfaaDoor
open Go.RowKit
set_option maxRecDepth 100000
set_option linter.unusedVariables false

theorem layMark_any : LayMarkSaid := by
  intro w
  go_enter Tryd.func36, Tryd.ntmps36
  go_wp2; go_ret; exact ⟨rfl, rfl⟩

set_option maxHeartbeats 800000 in
theorem layPages_any : LayPagesSaid := by
  intro n w hn
  unfold pagesOf
  by_cases h1 : n < 3
  · rw [if_pos (.inl h1)]
    have k1 : decide (n < 3) = true := by simpa using h1
    clear h1
    go_enter Tryd.func64, Tryd.ntmps64
    go_wp2; go_ret; exact ⟨rfl, rfl⟩
  by_cases h2 : 65536 < n
  · rw [if_pos (.inr h2)]
    have k1 : decide (n < 3) = false := by simpa using h1
    have k2 : decide (65536 < n) = true := by simpa using h2
    clear h1 h2
    go_enter Tryd.func64, Tryd.ntmps64
    go_wp2; go_ret; exact ⟨rfl, rfl⟩
  · rw [if_neg (by omega)]
    have k1 : decide (n < 3) = false := by simpa using h1
    have k2 : decide (65536 < n) = false := by simpa using h2
    go_enter Tryd.func64, Tryd.ntmps64
    go_wp2; go_ret
    exact ⟨rfl, rfl⟩

set_option maxHeartbeats 800000 in
theorem layHas_any (n i : Int) (w : World) (hn : -9223372036854775808 ≤ n ∧ n ≤ 9223372036854775807) (hi : -9223372036854775808 ≤ i ∧ i ≤ 9223372036854775807) : Calls Tryd.prog 85 #[.int .i64 n, .int .i64 i] w fun e w' => e = .returned (.bool (decide (0 ≤ i ∧ i < pagesOf n))) ∧ w = w' := by
  have hp := pagesOf_bounds n
  have HP := Lib.hid (layPages_any n w hn)
  by_cases h1 : i < 0
  · rw [show decide (0 ≤ i ∧ i < pagesOf n) = false from by simpa using fun h => by omega]
    have k1 : decide (0 ≤ i) = false := by simpa using h1
    clear h1
    go_enter Tryd.func85, Tryd.ntmps85
    go_wp2_with (go_at_call 64; refine HP.out.mono ?_; rintro e w1 ⟨rfl, rfl⟩)
    go_ret; exact ⟨rfl, rfl⟩
  have k1 : decide (0 ≤ i) = true := by simpa using h1
  by_cases h2 : i < pagesOf n
  · rw [show decide (0 ≤ i ∧ i < pagesOf n) = true from by simpa using ⟨by omega, h2⟩]
    have k2 : decide (i < pagesOf n) = true := by simpa using h2
    clear h1 h2
    go_enter Tryd.func85, Tryd.ntmps85
    go_wp2_with (go_at_call 64; refine HP.out.mono ?_; rintro e w1 ⟨rfl, rfl⟩)
    go_ret; exact ⟨rfl, rfl⟩
  · rw [show decide (0 ≤ i ∧ i < pagesOf n) = false from by simpa using fun h => by omega]
    have k2 : decide (i < pagesOf n) = false := by simpa using h2
    clear h1 h2
    go_enter Tryd.func85, Tryd.ntmps85
    go_wp2_with (go_at_call 64; refine HP.out.mono ?_; rintro e w1 ⟨rfl, rfl⟩)
    go_ret; exact ⟨rfl, rfl⟩

set_option maxHeartbeats 800000 in
theorem laySlot_any : LaySlotSaid := by
  intro n i w hn hi
  have hp := pagesOf_bounds n
  have HH := Lib.hid (layHas_any n i w hn hi)
  have HM := Lib.hid (layMark_any w)
  unfold slotOf
  by_cases h : 0 ≤ i ∧ i < pagesOf n
  · rw [if_neg (by omega)]
    rw [show decide (0 ≤ i ∧ i < pagesOf n) = true from by simpa using h] at HH
    go_enter Tryd.func83, Tryd.ntmps83
    go_wp2_with (first
      | (go_at_call 85; refine HH.out.mono ?_; rintro e w1 ⟨rfl, rfl⟩)
      | (go_at_call 36; refine HM.out.mono ?_; rintro e w1 ⟨rfl, rfl⟩))
    go_ret2; exact ⟨by simp; omega, rfl⟩
  · rw [if_pos (by omega)]
    rw [show decide (0 ≤ i ∧ i < pagesOf n) = false from by simpa using h] at HH
    go_enter Tryd.func83, Tryd.ntmps83
    go_wp2_with (first
      | (go_at_call 85; refine HH.out.mono ?_; rintro e w1 ⟨rfl, rfl⟩)
      | (go_at_call 36; refine HM.out.mono ?_; rintro e w1 ⟨rfl, rfl⟩))
    go_ret2; exact ⟨rfl, rfl⟩

set_option maxHeartbeats 800000 in
theorem layHome_any : LayHomeSaid := by
  intro n i w hn hi
  have hp := pagesOf_bounds n
  have HH := Lib.hid (layHas_any n i w hn hi)
  have HM := Lib.hid (layMark_any w)
  have HP := Lib.hid (layPages_any n w hn)
  unfold homeOf
  by_cases h : 0 ≤ i ∧ i < pagesOf n
  · rw [if_neg (by omega)]
    rw [show decide (0 ≤ i ∧ i < pagesOf n) = true from by simpa using h] at HH
    generalize pagesOf n = P at *
    go_enter Tryd.func75, Tryd.ntmps75
    go_wp2_with (first
      | (go_at_call 85; refine HH.out.mono ?_; rintro e w1 ⟨rfl, rfl⟩)
      | (go_at_call 36; refine HM.out.mono ?_; rintro e w1 ⟨rfl, rfl⟩)
      | (go_at_call 64; refine HP.out.mono ?_; rintro e w1 ⟨rfl, rfl⟩))
    go_ret2; exact ⟨by simp; omega, rfl⟩
  · rw [if_pos (by omega)]
    rw [show decide (0 ≤ i ∧ i < pagesOf n) = false from by simpa using h] at HH
    go_enter Tryd.func75, Tryd.ntmps75
    go_wp2_with (first
      | (go_at_call 85; refine HH.out.mono ?_; rintro e w1 ⟨rfl, rfl⟩)
      | (go_at_call 36; refine HM.out.mono ?_; rintro e w1 ⟨rfl, rfl⟩)
      | (go_at_call 64; refine HP.out.mono ?_; rintro e w1 ⟨rfl, rfl⟩))
    go_ret2; exact ⟨rfl, rfl⟩

theorem lay_said : LayApi := ⟨layPages_any, laySlot_any, layHome_any, layMark_any⟩

end Go.Proofs.YtkpmfobmlaldfaaDoor

/-
  slices.Grow of nil and slices.Concat of slices of bytes by their contracts: a row of their own that reads as the slices one behind the other; nothing that was there is written. Condition: fewer than 2^47 bytes in all, and at least one.
-/
namespace Go.Proofs.YtkpmfobmlaldfaaDoor
open Go.RowKit
set_option maxRecDepth 100000
set_option linter.unusedVariables false

set_option maxHeartbeats 800000 in
theorem GrowNil_any (n : Nat) (w : World) (h0 : 0 < n) (hn : n ≤ 140737488355328) : Calls Tryd.prog 86 #[.slice none 0 0, .int .i64 n] w fun e w' => ∃ v, e = .returned v ∧ w'.ownsRow w.heap.size 5 1 v 0 [] ∧ Below w.heap.size w w' := by
  obtain ⟨i0, hi, hz0, hz1, hz2⟩ := info_parts info_u8
  have hrz : ∀ ty, (Builtin.append_ #[69, 3] ty #[.slice none 0 0, .int .i64 (n : Int)]).run Tryd.prog w =
      .ok (.slice (some ⟨w.heap.size, 0, none⟩) n (grownCap w n 0 5)) (w.drew.alloc (.cells (#[] ++ Builtin.zeroCells (Value.int .u8 0).cells n ++ Builtin.zeroCells (Value.int .u8 0).cells (grownCap w n 0 5 - n)) 5)) := fun ty => by
    have h := Lib.run_append_grow_zeros w 69 3 ty 5 i0 (.int .u8 0) .i64 .i64 Tryd.underlying69 Tryd.underlying3 hi hz0 none 0 0 [] (run_firstCells_none w.drew i0.size 0 0 0) n h0 (by rw [hz1]; decide) (by omega) (by omega) (by rw [hz2]; omega) (by rw [hz2]; exact growslice_fits (by omega) (by omega))
    simp only [Nat.zero_add] at h
    exact h
  have hGn : n ≤ grownCap w n 0 5 := grownCap_ge w _ _ _
  have hGm := grownCap_le_maxLen w n 0 5 (by unfold maxLen; omega)
  obtain ⟨G, hG⟩ : ∃ G, G = grownCap w n 0 5 := ⟨_, rfl⟩
  rw [← hG] at hrz hGn hGm
  have hG63 : G ≤ 9223372036854775807 := by unfold maxLen at hGm; omega
  clear hG hi hz0 hz1 hz2
  have hn0 : (0 : Int) < (n : Int) := by omega
  go_enter Tryd.func86, Tryd.ntmps86
  go_wp2_with (at_builtin; refine Lib.wpList_append_run _ rfl _ _ _ _ rfl _ _ rfl rfl _ _ (hrz _) ?_)
  all_goals go_ret
  all_goals refine ⟨_, rfl, ⟨rfl, .inr ⟨w.heap.size, G, _, rfl, Nat.le_refl _, heap_alloc_new _ _, Nat.zero_le _, hGm, ?_, rfl⟩⟩, (Below.refl w.heap.size w).drew.alloc (Nat.le_refl _) _⟩
  all_goals simp [size_zeroCells]
  all_goals omega

/-- How many bytes the first slices have. -/
def totN (ns : Nat → Nat) : Nat → Nat | 0 => 0 | k + 1 => totN ns k + ns k
/-- The first slices, one behind the other. -/
def catL (ls : Nat → List Int) : Nat → List Int | 0 => [] | k + 1 => catL ls k ++ ls k
theorem totN_le (ns : Nat → Nat) {j k : Nat} (h : j ≤ k) : totN ns j ≤ totN ns k := by
  induction h with
  | refl => exact Nat.le_refl _
  | step _ ih => exact Nat.le_trans ih (Nat.le_add_right _ _)
theorem catL_bytes {ls : Nat → List Int} : ∀ k : Nat, (∀ j, j < k → AllBytes (ls j)) → AllBytes (catL ls k)
  | 0, _ => AllBytes.nil
  | k + 1, h => AllBytes.append (catL_bytes k fun j hj => h j (by omega)) (h k (by omega))

set_option maxHeartbeats 1600000 in
theorem Concat_any (g k B : Nat) (As : Nat → Option Addr) (ns cs : Nat → Nat) (ls : Nat → List Int) (w : World) (hg : g < w.heap.size) (hB : B ≤ w.heap.size) (hk : k ≤ 1000)
    (hcell : ∀ j, j < k → w.cell? ⟨g, j, none⟩ = some (.slice (As j) (ns j) (cs j))) (hr : ∀ j, j < k → RB w B (As j) (ns j) (ls j)) (h0 : 0 < totN ns k) (hn : totN ns k ≤ 140737488355328) :
    Calls Tryd.prog 77 #[.slice (some ⟨g, 0, none⟩) k k] w fun e w' => ∃ v, e = .returned v ∧ w'.ownsRow w.heap.size 5 1 v (totN ns k) ((catL ls k).map (Value.int .u8)) ∧ Below w.heap.size w w' := by
  have HC := Lib.hid hcell
  have HR := Lib.hid hr
  have HT := Lib.hid (fun j (hj : j < k) => show totN ns j + ns j ≤ totN ns k from totN_le ns (Nat.succ_le_of_lt hj))
  clear hcell hr
  go_enter Tryd.func77, Tryd.ntmps77
  go_wp2
  go_loop [3, 11] (fun s i => ∃ j : Nat, j ≤ k ∧ i = .int .i64 j ∧ s = .int .i64 (totN ns j : Int)) (fun _ i => k - (intOf i).toNat)
  case atStart => exact ⟨0, Nat.zero_le _, rfl, rfl⟩
  case round =>
    obtain ⟨j, hj, rfl, rfl⟩ := hrel
    by_cases hlt : j < k
    · have hc := HC.out j hlt
      have ht := HT.out j hlt
      have hlt' : (j : Int) < (k : Int) := by omega
      obtain ⟨x, hx⟩ : ∃ x, x = totN ns j := ⟨_, rfl⟩
      obtain ⟨y, hy⟩ : ∃ y, y = ns j := ⟨_, rfl⟩
      have hxy := Lib.hid (show totN ns (j + 1) = x + y by rw [hx, hy]; rfl)
      rw [← hy] at hc
      rw [← hx, ← hy] at ht
      rw [← hx]
      clear hx hy
      have hns : ¬ ((x : Int) + (y : Int) < 0) := by omega
      go_wp2
      go_roundw
      case rel => exact ⟨j + 1, by omega, by go_num, by rw [hxy.out]; go_num⟩
      case measure => simp [intOf]; omega
    · obtain rfl : j = k := by omega
      go_wp2_with fail
      refine (GrowNil_any _ _ h0 hn).mono ?_
      rintro e w1 ⟨v1, rfl, hown1, hb1⟩
      go_wp2
      go_loopw [6, 27] (fun v i wr => ∃ m : Nat, m ≤ j ∧ i = .int .i64 m ∧ wr.ownsRow w.heap.size 5 1 v (totN ns m) ((catL ls m).map (Value.int .u8)) ∧ Below w.heap.size w wr) (fun _ i _ => j - (intOf i).toNat)
      case atStart => exact ⟨0, Nat.zero_le _, rfl, hown1, hb1⟩
      case round =>
        obtain ⟨m, hm, rfl, hown, hbw⟩ := hrel
        by_cases hlt2 : m < j
        · have hc := (hbw.cell (p := ⟨g, m, none⟩) hg).trans (HC.out m hlt2)
          have ht := HT.out m hlt2
          have hrm := (HR.out m hlt2).below (hbw.mono hB)
          have hlt' : (m : Int) < (j : Int) := by omega
          go_wp2_with (at_builtin; refine wpList_append_bytes rfl _ _ rfl w.heap.size _ (totN ns m) (catL ls m) rfl hown B (As m) (ns m) (cs m) (ls m) rfl hrm (by omega) hbw.size ?_; intro v2 w2 hown2 _ hb2; have HO2 := Lib.hid hown2; have HB2 := Lib.hid (hbw.trans hb2); clear hown2 hb2)
          go_roundw
          case rel => exact ⟨m + 1, by omega, by go_num, HO2.out, HB2.out⟩
          case measure => simp [intOf]; omega
        · obtain rfl : m = j := by omega
          go_wp2
          go_ret
          exact ⟨_, rfl, hown, hbw⟩

end Go.Proofs.YtkpmfobmlaldfaaDoor

/-
  slices.Equal on bytes by its contract: whether they are the same. Nothing is written. No condition.
-/
namespace Go.Proofs.YtkpmfobmlaldfaaDoor
open Go.RowKit
set_option maxRecDepth 100000
set_option linter.unusedVariables false

theorem same_bytes {l m : List Int} (h : l.length = m.length) (he : ∀ j, j < l.length → l[j]?.getD 0 = m[j]?.getD 0) : l = m := by
  apply List.ext_getElem h
  intro j h1 h2
  have := he j h1
  rw [List.getElem?_eq_getElem h1, List.getElem?_eq_getElem h2] at this
  exact this

theorem below_drewN {B : Nat} {w w' : World} (h : Below B w w') : ∀ n, Below B w (w'.drewN n) := fun n => ⟨h.os, h.tape, h.output, h.size, h.block⟩

set_option maxHeartbeats 800000 in
theorem SEqual_any {w : World} {B B' n m : Nat} {A A' : Option Addr} {l l' : List Int} (c d : Nat) (hr : RB w B A n l) (hr' : RB w B' A' m l') (hm : n ≤ maxLen) (hm' : m ≤ maxLen) (hB : B ≤ w.heap.size) (hB' : B' ≤ w.heap.size) :
    Calls Tryd.prog 59 #[.slice A n c, .slice A' m d] w fun e w' => e = .returned (.bool (decide (l = l'))) ∧ Below w.heap.size w w' := by
  unfold maxLen at hm hm'
  have hlen := hr.len
  have hlen' := hr'.len
  by_cases hnm : n = m
  · subst hnm
    have hne : ((n : Int) != (n : Int)) = false := by simp
    go_enter Tryd.func59, Tryd.ntmps59
    go_wp2
    go_loopw [13] (fun i wr => ∃ k : Nat, k ≤ n ∧ i = .int .i64 k ∧ Hid (∀ j, j < k → l[j]?.getD 0 = l'[j]?.getD 0) ∧ Below w.heap.size w wr) (fun i _ => n - (intOf i).toNat)
    case atStart => exact ⟨0, Nat.zero_le _, rfl, Lib.hid (fun j hj => absurd hj (by omega)), Below.refl _ _⟩
    case round =>
      obtain ⟨k, hk, rfl, hbef, hbw⟩ := hrel
      by_cases hlt : k < n
      · obtain ⟨b, off, rfl, hb, hcell⟩ := hr.2.2 (by omega)
        obtain ⟨b', off', rfl, hb', hcell'⟩ := hr'.2.2 (by omega)
        have hck := (hbw.cell (p := ⟨b, off + k, none⟩) (Nat.lt_of_lt_of_le hb hB)).trans (hcell k hlt)
        have hck' := (hbw.cell (p := ⟨b', off' + k, none⟩) (Nat.lt_of_lt_of_le hb' hB')).trans (hcell' k hlt)
        clear hcell hcell'
        have hlt' : (k : Int) < (n : Int) := by omega
        by_cases hv : l[k]?.getD 0 = l'[k]?.getD 0
        · have hn := Lib.hid (fun j (hj : j < k + 1) => show l[j]?.getD 0 = l'[j]?.getD 0 by
            rcases Nat.lt_or_ge j k with h | h
            · exact hbef.out j h
            · obtain rfl : j = k := by omega
              exact hv)
          have kv : (l[k]?.getD 0 != l'[k]?.getD 0) = false := by simp [hv]
          clear hv
          generalize l[k]?.getD 0 = u at hck kv
          generalize l'[k]?.getD 0 = u' at hck' kv
          go_wp2_with fail
          go_quiet (fail)
          go_wp2
          go_roundw
          case rel => exact ⟨k + 1, by omega, by go_num, hn, below_drewN hbw _⟩
          case measure => simp [intOf]; omega
        · have hd := Lib.hid (show decide (l = l') = false by
            have : ¬ l = l' := fun e => hv (by rw [e])
            simpa using this)
          have kv : (l[k]?.getD 0 != l'[k]?.getD 0) = true := by simpa using hv
          clear hv
          generalize l[k]?.getD 0 = u at hck kv
          generalize l'[k]?.getD 0 = u' at hck' kv
          go_wp2_with fail
          go_quiet (fail)
          go_wp2
          go_ret
          rw [hd.out]
          exact ⟨rfl, below_drewN hbw _⟩
      · obtain rfl : k = n := by omega
        have hd := Lib.hid (show decide (l = l') = true by
          have : l = l' := same_bytes (by omega) (fun j hj => hbef.out j (by omega))
          simpa using this)
        go_wp2
        go_ret
        rw [hd.out]
        exact ⟨rfl, hbw⟩
  · have hne : ((n : Int) != (m : Int)) = true := by simp; omega
    have hd : decide (l = l') = false := by
      have : ¬ l = l' := fun e => hnm (by rw [← hlen, ← hlen', e])
      simpa using this
    rw [hd]
    clear hd hnm
    go_enter Tryd.func59, Tryd.ntmps59
    go_wp2
    go_ret
    exact ⟨rfl, Below.refl _ _⟩

end Go.Proofs.YtkpmfobmlaldfaaDoor

/-
  slices.Clone on bytes by its contract: a new slice of the same bytes, or nil; nothing that was there is written. Condition: at most 2^47 bytes.
-/
namespace Go.Proofs.YtkpmfobmlaldfaaDoor
open Go.RowKit
set_option maxRecDepth 100000
set_option linter.unusedVariables false

set_option maxHeartbeats 400000 in
theorem SClone_any {w : World} {B n : Nat} {A : Option Addr} {l : List Int} (c : Nat) (h : RB w B A n l) (hB : B ≤ w.heap.size) (hn : n ≤ 140737488355328) :
    Calls Tryd.prog 47 #[.slice A n c] w fun e w' => ∃ A' c', e = .returned (.slice A' n c') ∧ n ≤ c' ∧ RB w' w'.heap.size A' n l ∧ Below w.heap.size w w' := by
  have q22 : ∀ (w : World) (a : Option Addr) (n c n' c' : Nat), (binOp .eql 69 (.slice a n c) (.slice none n' c')).run Tryd.prog w = .ok (.bool a.isNone) w := fun w a n c n' c' => Lib.run_eql_slice_nil w _ _ a n c n' c' Tryd.underlying69
  rcases A with _ | ad
  · have hm : n = 0 := by
      rcases Nat.eq_zero_or_pos n with h0 | h0
      · exact h0
      · obtain ⟨b, off, e, _⟩ := h.at_ h0; cases e
    subst hm
    obtain rfl : l = [] := List.eq_nil_of_length_eq_zero h.len
    go_enter Tryd.func47, Tryd.ntmps47
    go_wp2
    go_ret
    exact ⟨none, 0, rfl, Nat.le_refl _, RB.nil_, Below.refl _ _⟩
  · go_enter Tryd.func47, Tryd.ntmps47
    go_wp2_with (at_builtin; refine wpList_append_bytes rfl _ _ rfl w.heap.size _ 0 [] rfl (World.ownsRow_made w #[] 0 (Nat.le_refl _) (Nat.zero_le _) rfl) B (some ad) n c l rfl (h.alloc hB _) (by omega) (by simp) ?_; intro v1 w1 hown1 _ hb1)
    simp only [Nat.zero_add, List.nil_append] at hown1
    obtain ⟨A', c', rfl, hc'⟩ := own_shape hown1
    go_ret
    exact ⟨A', c', rfl, hc', RB.of_own hown1 h.bytes, ((Below.refl w.heap.size w).alloc (Nat.le_refl _) _).trans hb1⟩

end Go.Proofs.YtkpmfobmlaldfaaDoor

/-
  The program's own Right and Pack of sectors by contract. Conditions: fewer than 2^47 bytes; the table that crc.Step reads holds what the program's text lays in it.
-/
namespace Go.Proofs.YtkpmfobmlaldfaaDoor
open Go.RowKit
set_option maxRecDepth 100000
set_option linter.unusedVariables false

theorem secR_and (p s : Int) : secR p s = (rightB p 4 && (decide (0 ≤ s) && decide (s ≤ 4611686018427387904))) := by
  unfold secR rightB
  by_cases a : 0 ≤ p <;> by_cases b : p < 4294967296 <;> by_cases c : 0 ≤ s <;> by_cases d : s ≤ 4611686018427387904 <;> simp [a, b, c, d]

set_option maxHeartbeats 800000 in
theorem secRight_said : SecRightSaid := by
  intro p s w
  rw [secR_and]
  generalize hb : rightB p 4 = b
  generalize h3 : decide (0 ≤ s) = b3
  generalize h4 : decide (s ≤ 4611686018427387904) = b4
  have HB := Lib.hid hb
  clear hb
  cases b
  · go_enter Tryd.func61, Tryd.ntmps61
    go_wp2_with (go_at_call 22; refine (Right_no _ _ _ HB.out).mono ?_; rintro e w' ⟨rfl, rfl⟩)
    go_ret; exact ⟨rfl, rfl⟩
  cases b3
  · go_enter Tryd.func61, Tryd.ntmps61
    go_wp2_with (go_at_call 22; refine (Right_yes _ _ _ HB.out).mono ?_; rintro e w' ⟨rfl, rfl⟩)
    go_ret; exact ⟨rfl, rfl⟩
  cases b4
  · go_enter Tryd.func61, Tryd.ntmps61
    go_wp2_with (go_at_call 22; refine (Right_yes _ _ _ HB.out).mono ?_; rintro e w' ⟨rfl, rfl⟩)
    go_ret; exact ⟨rfl, rfl⟩
  · go_enter Tryd.func61, Tryd.ntmps61
    go_wp2_with (go_at_call 22; refine (Right_yes _ _ _ HB.out).mono ?_; rintro e w' ⟨rfl, rfl⟩)
    go_ret; exact ⟨rfl, rfl⟩

set_option maxHeartbeats 800000 in
theorem sumOf_any (A : Option Addr) (n c B : Nat) (l : List Int) (w : World) (hr : RB w B A n l) (hm : n ≤ maxLen) (ht : Tab w) :
    Calls Tryd.prog 60 #[.slice A n c] w fun e w' => ∃ v, e = .returned v ∧ w'.ownsRow w.heap.size 5 1 v 4 ((putB (sumOf l : Int) 4).map (Value.int .u8)) ∧ Below w.heap.size w w' := by
  have hsl := sumOf_lt hr.bytes
  have HR := Lib.hid (putR_page (sum_right hr.bytes))
  go_enter Tryd.func60, Tryd.ntmps60
  go_wp2_with fail
  refine (Sum_any _ _ _ _ _ _ hr hm ht).mono ?_
  rintro e w1 ⟨rfl, rfl⟩
  go_wp2_with fail
  refine (Put_own none 0 0 0 [] (sumOf l : Int) 4 _ RB.nil_ (Nat.zero_le _) (Nat.le_refl _) (by decide) (by omega) (by omega)).mono ?_
  rw [HR.out, putB_length]
  rintro e w2 ⟨v, rfl, hown, hb⟩
  go_wp2
  go_ret
  exact ⟨_, rfl, hown, hb⟩

theorem block_fn (w : World) (cs : Array Value) (T : TypeId) (f : Nat → Value) (k : Nat) (h : ∀ j, j < k → cs[j]? = some (f j)) : ∀ j, j < k → (w.alloc (.cells cs T)).cell? ⟨w.heap.size, j, none⟩ = some (f j) := by
  intro j hj
  rw [cell_of_row (w.alloc (.cells cs T)) w.heap.size j cs T (0, 0) (heap_alloc_new w _)]
  exact h j hj

/-- The slices that Pack joins. -/
def three (v1 v2 v3 : Value) : Nat → Value | 0 => v1 | 1 => v2 | _ => v3
theorem three_cells (w : World) (v1 v2 v3 : Value) (T : TypeId) : ∀ j, j < 3 → (w.alloc (.cells #[v1, v2, v3] T)).cell? ⟨w.heap.size, j, none⟩ = some (three v1 v2 v3 j) :=
  block_fn w _ T _ 3 fun j hj => by
    rcases (show j = 0 ∨ j = 1 ∨ j = 2 by omega) with rfl | rfl | rfl <;> rfl
theorem two_cells (w : World) (v1 v2 : Value) (T : TypeId) : ∀ j, j < 2 → (w.alloc (.cells #[v1, v2] T)).cell? ⟨w.heap.size, j, none⟩ = some (three v1 v2 v2 j) :=
  block_fn w _ T _ 2 fun j hj => by
    rcases (show j = 0 ∨ j = 1 by omega) with rfl | rfl <;> rfl
def pick3 {α : Type} (a b c : α) : Nat → α | 0 => a | 1 => b | _ => c
theorem three_slices (A1 A2 A3 : Option Addr) (n1 n2 n3 c1 c2 c3 : Nat) (j : Nat) : three (.slice A1 n1 c1) (.slice A2 n2 c2) (.slice A3 n3 c3) j = .slice (pick3 A1 A2 A3 j) (pick3 n1 n2 n3 j) (pick3 c1 c2 c3 j) := by
  match j with
  | 0 => rfl
  | 1 => rfl
  | j + 2 => rfl

theorem Concat3 {A1 A2 A3 : Option Addr} {n1 n2 n3 c1 c2 c3 B : Nat} {l1 l2 l3 : List Int} {w : World} (T : TypeId) (h1 : RB w B A1 n1 l1) (h2 : RB w B A2 n2 l2) (h3 : RB w B A3 n3 l3) (hB : B ≤ w.heap.size) (h0 : 0 < n1) (hn : n1 + n2 + n3 ≤ 140737488355328) :
    Calls Tryd.prog 77 #[.slice (some ⟨w.heap.size, 0, none⟩) 3 3] (w.alloc (.cells #[.slice A1 n1 c1, .slice A2 n2 c2, .slice A3 n3 c3] T)) fun e w' => ∃ v, e = .returned v ∧ w'.ownsRow w.heap.size 5 1 v (n1 + n2 + n3) ((l1 ++ l2 ++ l3).map (Value.int .u8)) ∧ Below w.heap.size w w' := by
  have ht : totN (pick3 n1 n2 n3) 3 = n1 + n2 + n3 := by simp [totN, pick3]
  have hl : catL (pick3 l1 l2 l3) 3 = l1 ++ l2 ++ l3 := by simp [catL, pick3]
  have hx := Concat_any w.heap.size 3 B (pick3 A1 A2 A3) (pick3 n1 n2 n3) (pick3 c1 c2 c3) (pick3 l1 l2 l3) (w.alloc (.cells #[.slice A1 n1 c1, .slice A2 n2 c2, .slice A3 n3 c3] T)) (by simp) (by simp; omega) (by decide)
    (fun j hj => by rw [← three_slices]; exact three_cells w _ _ _ T j hj)
    (fun j hj => by
      rcases (show j = 0 ∨ j = 1 ∨ j = 2 by omega) with rfl | rfl | rfl
      · exact h1.alloc hB _
      · exact h2.alloc hB _
      · exact h3.alloc hB _)
    (by omega) (by omega)
  rw [ht, hl] at hx
  refine hx.mono ?_
  rintro e w' ⟨v, rfl, hown, hb⟩
  exact ⟨v, rfl, own_base_le hown (by simp), ((Below.refl w.heap.size w).alloc (Nat.le_refl _) _).trans (hb.mono (by simp))⟩

theorem Concat2 {A1 A2 : Option Addr} {n1 n2 c1 c2 B : Nat} {l1 l2 : List Int} {w : World} (T : TypeId) (h1 : RB w B A1 n1 l1) (h2 : RB w B A2 n2 l2) (hB : B ≤ w.heap.size) (h0 : 0 < n1) (hn : n1 + n2 ≤ 140737488355328) :
    Calls Tryd.prog 77 #[.slice (some ⟨w.heap.size, 0, none⟩) 2 2] (w.alloc (.cells #[.slice A1 n1 c1, .slice A2 n2 c2] T)) fun e w' => ∃ v, e = .returned v ∧ w'.ownsRow w.heap.size 5 1 v (n1 + n2) ((l1 ++ l2).map (Value.int .u8)) ∧ Below w.heap.size w w' := by
  have ht : totN (pick3 n1 n2 n2) 2 = n1 + n2 := by simp [totN, pick3]
  have hl : catL (pick3 l1 l2 l2) 2 = l1 ++ l2 := by simp [catL, pick3]
  have hx := Concat_any w.heap.size 2 B (pick3 A1 A2 A2) (pick3 n1 n2 n2) (pick3 c1 c2 c2) (pick3 l1 l2 l2) (w.alloc (.cells #[.slice A1 n1 c1, .slice A2 n2 c2] T)) (by simp) (by simp; omega) (by decide)
    (fun j hj => by rw [← three_slices]; exact two_cells w _ _ T j hj)
    (fun j hj => by
      rcases (show j = 0 ∨ j = 1 by omega) with rfl | rfl
      · exact h1.alloc hB _
      · exact h2.alloc hB _)
    (by omega) (by omega)
  rw [ht, hl] at hx
  refine hx.mono ?_
  rintro e w' ⟨v, rfl, hown, hb⟩
  exact ⟨v, rfl, own_base_le hown (by simp), ((Below.refl w.heap.size w).alloc (Nat.le_refl _) _).trans (hb.mono (by simp))⟩

set_option maxHeartbeats 1600000 in
theorem Pack_yes (A : Option Addr) (n c B : Nat) (l : List Int) (p s : Int) (w : World) (hr : RB w B A n l) (hB : B ≤ w.heap.size) (hn : n = 240) (hs : secR p s = true) (ht : Tab w) (hg : 0 < w.heap.size) :
    Calls Tryd.prog 54 #[.int .i64 p, .int .i64 s, .slice A n c] w fun e w' => ∃ v, e = .returned (.tuple #[v, .int .i64 0]) ∧ w'.ownsRow w.heap.size 5 1 v 256 ((secL p s l).map (Value.int .u8)) ∧ Below w.heap.size w w' := by
  subst hn
  obtain ⟨r1, r2⟩ := secR_right hs
  obtain ⟨b1, b2, b3, b4⟩ := secR_ints hs
  have HS := Lib.hid hs
  have hlen := hr.len
  have HR1 := Lib.hid (putR_page r1)
  have HR2 := Lib.hid (putR_seq [] r2)
  have hbytes := secBody_bytes p s hr.bytes
  clear hs r1 r2
  go_enter Tryd.func54, Tryd.ntmps54
  go_wp2_with fail
  refine (secRight_said _ _ _).mono ?_
  rw [HS.out]
  rintro e w1 ⟨rfl, rfl⟩
  go_wp2_with fail
  refine (Put_own none 0 0 0 [] p 4 _ RB.nil_ (Nat.zero_le _) (Nat.le_refl _) (by decide) b1 b2).mono ?_
  rw [HR1.out, putB_length]
  rintro e w1 ⟨v1, rfl, hown1, hb1⟩
  obtain ⟨A1, c1, rfl, hc1, hr1⟩ := read_own hown1 (putB_bytes _ _)
  have hs1 := hb1.size
  have hra1 := hr.below (hb1.mono hB)
  clear hown1
  go_wp2_with fail
  refine (Put_own none 0 0 0 [] s 8 _ RB.nil_ (Nat.zero_le _) (Nat.le_refl _) (by decide) b3 b4).mono ?_
  rw [HR2.out, List.nil_append, putB_length]
  rintro e w2 ⟨v2, rfl, hown2, hb2⟩
  obtain ⟨A2, c2, rfl, hc2, hr2⟩ := read_own hown2 (putB_bytes _ _)
  have hs2 := hb2.size
  have hb02 := hb1.trans (hb2.mono hs1)
  have hra2 := (hra1.below (hb2.mono (Nat.le_trans hB hs1))).more (B' := w2.heap.size) (by omega)
  have hr12 := (hr1.below hb2).more (B' := w2.heap.size) hs2
  clear hr1 hra1 hown2
  go_wp2_with fail
  refine (Concat3 _ hr12 hr2 hra2 (Nat.le_refl _) (by decide) (by decide)).mono ?_
  rintro e w3 ⟨v3, rfl, hown3, hb3⟩
  have hown3' : w3.ownsRow w2.heap.size 5 1 v3 252 ((secBody p s l).map (Value.int .u8)) := hown3
  obtain ⟨A3, c3, rfl, hc3, hr3⟩ := read_own hown3' hbytes
  have hs3 := hb3.size
  have hb03 := hb02.trans (hb3.mono hb02.size)
  have ht3 := ht.below hb03 hg
  clear hown3 hown3' hra2 hr12 hr2
  go_wp2_with fail
  refine (sumOf_any _ _ _ _ _ _ hr3 (by decide) ht3).mono ?_
  rintro e w4 ⟨v4, rfl, hown4, hb4⟩
  obtain ⟨A4, c4, rfl, hc4, hr4⟩ := read_own hown4 (putB_bytes _ _)
  have hs4 := hb4.size
  have hr34 := (hr3.below hb4).more (B' := w4.heap.size) hs4
  have hb04 := hb03.trans (hb4.mono hb03.size)
  clear hr3 hown4
  go_wp2_with fail
  refine (Concat2 _ hr4 hr34 (Nat.le_refl _) (by decide) (by decide)).mono ?_
  rintro e w5 ⟨v5, rfl, hown5, hb5⟩
  have hown5' := Lib.hid (own_base_le (show w5.ownsRow w4.heap.size 5 1 v5 256 ((secL p s l).map (Value.int .u8)) from hown5) hb04.size)
  have hb05 := hb04.trans (hb5.mono hb04.size)
  clear hown5 hr4 hr34
  go_wp2
  go_ret2
  exact ⟨_, rfl, hown5'.out, hb05⟩

set_option maxHeartbeats 400000 in
theorem Pack_no (A : Option Addr) (n c : Nat) (p s : Int) (w : World) (hn : n ≤ maxLen) (h : secR p s = false ∨ n ≠ 240) :
    Calls Tryd.prog 54 #[.int .i64 p, .int .i64 s, .slice A n c] w fun e w' => e = .returned (.tuple #[.slice none 0 0, .int .i64 1]) ∧ w = w' := by
  unfold maxLen at hn
  by_cases hs : secR p s = true
  · have hne : n ≠ 240 := by
      rcases h with h | h
      · rw [hs] at h; cases h
      · exact h
    have k : ((n : Int) != 240) = true := by simp; omega
    have HS := Lib.hid hs
    clear hs h
    go_enter Tryd.func54, Tryd.ntmps54
    go_wp2_with fail
    refine (secRight_said _ _ _).mono ?_
    rw [HS.out]
    rintro e w1 ⟨rfl, rfl⟩
    go_wp2
    go_ret2
    exact ⟨rfl, rfl⟩
  · have HS := Lib.hid (show secR p s = false by simpa using hs)
    clear hs h
    go_enter Tryd.func54, Tryd.ntmps54
    go_wp2_with fail
    refine (secRight_said _ _ _).mono ?_
    rw [HS.out]
    rintro e w1 ⟨rfl, rfl⟩
    go_wp2
    go_ret2
    exact ⟨rfl, rfl⟩

theorem pack_said : PackSaid := by
  intro A n c B l p s w hr hB hc hn ht hg
  unfold packR
  by_cases h : secR p s = true ∧ l.length = 240
  · rw [if_pos h]
    refine (Pack_yes A n c B l p s w hr hB (by rw [← hr.len]; exact h.2) h.1 ht hg).mono ?_
    rintro e w' ⟨v, rfl, hown, hb⟩
    have hl : (secL p s l).length = 256 := by rw [secL_length, h.2]
    exact ⟨v, rfl, by rw [hl]; exact hown, hb⟩
  · rw [if_neg h]
    have h' : secR p s = false ∨ n ≠ 240 := by
      by_cases hs : secR p s = true
      · right
        intro e
        exact h ⟨hs, by rw [hr.len]; exact e⟩
      · left; simpa using hs
    refine (Pack_no A n c p s w (by unfold maxLen; omega) h').mono ?_
    rintro e w' ⟨rfl, rfl⟩
    exact ⟨_, rfl, World.ownsRow_nil _ _ _ _, Below.refl _ _⟩

end Go.Proofs.YtkpmfobmlaldfaaDoor

/-
  The program's own Unpack of sectors by contract. Conditions: fewer than 2^47 bytes; the table that crc.Step reads holds what the program's text lays in it.
-/
namespace Go.Proofs.YtkpmfobmlaldfaaDoor
open Go.RowKit
set_option maxRecDepth 100000
set_option linter.unusedVariables false

/-- Whether the sum that stands first is that of what follows. -/
theorem sum_stands {l : List Int} (hl : AllBytes l) (h : l.length = 256) : (l.take 4 = putB (sumOf (l.drop 4) : Int) 4) ↔ numOf (l.take 4) = (sumOf (l.drop 4) : Int) := by
  have hs := sumOf_lt (hl.drop 4)
  constructor
  · intro e
    rw [e]
    exact wrap_putB (sum_right (hl.drop 4)) (by omega) (by omega)
  · intro e
    rw [← e]
    exact (putB_numOf4 (hl.take 4) (by simp; omega)).symm

set_option maxHeartbeats 1600000 in
theorem Unpack_len (A : Option Addr) (n c : Nat) (w : World) (hm : n ≤ maxLen) (hn : n ≠ 256) :
    Calls Tryd.prog 37 #[.slice A n c] w fun e w' => e = .returned (.tuple #[.int .i64 0, .int .i64 0, .slice none 0 0, .int .i64 4]) ∧ Below w.heap.size w w' := by
  have k : ((n : Int) != 256) = true := by simp; omega
  unfold maxLen at hm
  go_enter Tryd.func37, Tryd.ntmps37
  go_wp2_with fail
  go_quiet (fail)
  go_wp2
  exact bodyPost_ret (v := .tuple #[.int .i64 0, .int .i64 0, .slice none 0 0, .int .i64 4]) (by simp [results, Tryd.results37, go_sem]) rfl ⟨rfl, below_drewN (Below.refl w.heap.size w) _⟩

theorem sumOf_sl (A : Option Addr) (n c B : Nat) (l : List Int) (w : World) (hr : RB w B A n l) (hm : n ≤ maxLen) (ht : Tab w) :
    Calls Tryd.prog 60 #[.slice A n c] w fun e w' => ∃ A' c', e = .returned (.slice A' 4 c') ∧ RB w' w'.heap.size A' 4 (putB (sumOf l : Int) 4) ∧ Below w.heap.size w w' := by
  refine (sumOf_any A n c B l w hr hm ht).mono ?_
  rintro e w1 ⟨v1, rfl, hown1, hb1⟩
  obtain ⟨A1, c1, rfl, hc1, hr1⟩ := read_own hown1 (putB_bytes _ _)
  exact ⟨A1, c1, rfl, hr1, hb1⟩

set_option maxHeartbeats 8000000 in
theorem Unpack_256 (A : Option Addr) (c B : Nat) (l : List Int) (w : World) (hr : RB w B A 256 l) (hB : B ≤ w.heap.size) (hc : 256 ≤ c) (ht : Tab w) (hg : 0 < w.heap.size) :
    Calls Tryd.prog 37 #[.slice A 256 c] w fun e w' => ∃ A' n' c', e = .returned (.tuple #[.int .i64 (unpackR l).1, .int .i64 (unpackR l).2.1, .slice A' n' c', .int .i64 (unpackR l).2.2.2]) ∧ n' ≤ c' ∧ RB w' w'.heap.size A' n' (unpackR l).2.2.1 ∧ Below w.heap.size w w' := by
  have hl := hr.len
  obtain ⟨bd, hd⟩ : ∃ bd, bd = decide (l.take 4 = putB (sumOf (l.drop 4) : Int) 4) := ⟨_, rfl⟩
  have HD := Lib.hid hd
  clear hd
  obtain ⟨b, off, rfl, hb, hcell⟩ := hr.at_ (by omega)
  have hr0 : RB w B (some ⟨b, off, none⟩) 4 (l.take 4) := ⟨by simp; omega, hr.bytes.take 4, fun _ => ⟨b, off, rfl, hb, fun j hj => by rw [hcell j (by omega), List.getElem?_take, if_pos hj]⟩⟩
  have hr4 : RB w B (some ⟨b, off + 4, none⟩) 252 (l.drop 4) := hr.cut hcell 4 (by omega) hb
  have ht1 : Tab w.drew := ht
  have hr0d : RB w.drew B (some ⟨b, off, none⟩) 4 (l.take 4) := hr0.drew
  have hr4d : RB w.drew B (some ⟨b, off + 4, none⟩) 252 (l.drop 4) := hr4.drew
  have hBd : B ≤ w.drew.heap.size := hB
  have hBel := Lib.hid ((Below.refl w.heap.size w).drew)
  have hr16 : RB w B (some ⟨b, off + 16, none⟩) 240 (l.drop 16) := hr.cut hcell 16 (by omega) hb
  have HR := Lib.hid hr
  have HR16 := Lib.hid hr16
  have HST := Lib.hid (sum_stands hr.bytes hl)
  clear hcell hr0 hr4 hr ht hr16
  go_enter Tryd.func37, Tryd.ntmps37
  go_wp2_with fail
  go_cut [21] from 10 (fun c wx => c = .bool (!bd) ∧ Below w.heap.size w wx)
  case first =>
    have hc4 : ¬ (c = 4) := by omega
    go_region_with
      (first
        | (go_at_call 60; refine (sumOf_sl _ _ _ _ _ _ hr4d (by decide) ht1).mono ?_; rintro e w1 ⟨A1, c1, rfl, hr1, hb1⟩; have hr01 := hr0d.below (hb1.mono hBd); have hB1 := Nat.le_trans hBd hb1.size)
        | (go_at_call 59; refine (SEqual_any _ _ hr01 hr1 (by decide) (by decide) hB1 (Nat.le_refl _)).mono ?_; rw [← HD.out]; rintro e w2 ⟨rfl, hb2⟩; have hb02 := Lib.hid (hBel.out.trans (hb1.trans (hb2.mono hb1.size))); clear hb1 hb2 hr01 hr1))
    all_goals (go_wp2; go_meet; (case rel => exact ⟨rfl, hb02.out⟩))
  case rest =>
    obtain ⟨rfl, hbw⟩ := hcut
    have hrc := HR.out.below (hbw.mono hB)
    have hr16c := HR16.out.below (hbw.mono hB)
    have hBc := Nat.le_trans hB hbw.size
    have HBW := Lib.hid hbw
    clear hr0d hr4d ht1 hBd hBel hbw HR16
    cases bd
    · have hne : unpackR l = (0, 0, [], 4) := by
        unfold unpackR
        rw [if_neg]
        rintro ⟨_, h, _⟩
        exact absurd (HST.out.2 h) (of_decide_eq_false HD.out.symm)
      have HN := Lib.hid hne
      clear hne hrc hr16c
      go_wp2
      exact bodyPost_ret (v := .tuple #[.int .i64 0, .int .i64 0, .slice none 0 0, .int .i64 4]) (by simp [results, Tryd.results37, go_sem]) rfl (by rw [HN.out]; exact ⟨none, 0, 0, rfl, Nat.le_refl _, RB.nil_, HBW.out⟩)
    · have hsum := HST.out.1 (of_decide_eq_true HD.out.symm)
      have G2 := Lib.hid (getR_at (l := l) 4 4 (by decide) (by omega))
      have G3 := Lib.hid (getR_at (l := l) 8 8 (by decide) (by omega))
      obtain ⟨sb, hsb⟩ : ∃ sb, sb = secR (numOf ((l.drop 4).take 4)) (numOf ((l.drop 8).take 8)) := ⟨_, rfl⟩
      have HS := Lib.hid hsb
      have hres : unpackR l = if sb = true then (numOf ((l.drop 4).take 4), numOf ((l.drop 8).take 8), l.drop 16, 0) else (0, 0, [], 4) := by
        unfold unpackR
        by_cases e : sb = true
        · rw [if_pos e, if_pos ⟨hl, hsum, by rw [← hsb]; exact e⟩]
        · rw [if_neg e, if_neg (fun h => e (by rw [hsb]; exact h.2.2))]
      clear hsb hsum HST HD HR
      cases sb
      · have HN := Lib.hid (hres.trans (if_neg (by decide)))
        clear hres
        go_wp2_with fail
        refine (Get_any _ _ _ _ _ 4 4 _ hrc hc (by decide)).mono ?_
        rw [show getR l 4 4 = (numOf ((l.drop 4).take 4), 0) from G2.out]
        rintro e w1 ⟨rfl, rfl⟩
        go_wp2_with fail
        refine (Get_any _ _ _ _ _ 8 8 _ hrc hc (by decide)).mono ?_
        rw [show getR l 8 8 = (numOf ((l.drop 8).take 8), 0) from G3.out]
        rintro e w1 ⟨rfl, rfl⟩
        go_wp2_with fail
        refine (secRight_said _ _ _).mono ?_
        rw [← HS.out]
        rintro e w1 ⟨rfl, rfl⟩
        go_wp2
        exact bodyPost_ret (v := .tuple #[.int .i64 0, .int .i64 0, .slice none 0 0, .int .i64 4]) (by simp [results, Tryd.results37, go_sem]) rfl (by rw [HN.out]; exact ⟨none, 0, 0, rfl, Nat.le_refl _, RB.nil_, HBW.out⟩)
      · have HN := Lib.hid (hres.trans (if_pos rfl))
        clear hres
        go_wp2_with fail
        refine (Get_any _ _ _ _ _ 4 4 _ hrc hc (by decide)).mono ?_
        rw [show getR l 4 4 = (numOf ((l.drop 4).take 4), 0) from G2.out]
        rintro e w1 ⟨rfl, rfl⟩
        go_wp2_with fail
        refine (Get_any _ _ _ _ _ 8 8 _ hrc hc (by decide)).mono ?_
        rw [show getR l 8 8 = (numOf ((l.drop 8).take 8), 0) from G3.out]
        rintro e w1 ⟨rfl, rfl⟩
        go_wp2_with fail
        refine (secRight_said _ _ _).mono ?_
        rw [← HS.out]
        rintro e w1 ⟨rfl, rfl⟩
        go_wp2_with fail
        refine (SClone_any _ hr16c hBc (by decide)).mono ?_
        rintro e w2 ⟨A2, c2, rfl, hc2, hr2, hb2⟩
        go_wp2
        exact bodyPost_ret (v := .tuple #[.int .i64 (numOf ((l.drop 4).take 4)), .int .i64 (numOf ((l.drop 8).take 8)), .slice A2 240 c2, .int .i64 0]) (by simp [results, Tryd.results37, go_sem]) rfl (by rw [HN.out]; exact ⟨A2, 240, c2, rfl, hc2, hr2, HBW.out.trans (hb2.mono HBW.out.size)⟩)

theorem unpack_said : UnpackSaid := by
  intro A n c B l w hr hB hc hn ht hg
  by_cases h : n = 256
  · subst h
    exact Unpack_256 A c B l w hr hB hc ht hg
  · refine (Unpack_len A n c w (by unfold maxLen; omega) h).mono ?_
    have hne : unpackR l = (0, 0, [], 4) := by
      unfold unpackR
      rw [if_neg]
      rintro ⟨h', _⟩
      exact h (by rw [← hr.len]; exact h')
    rw [hne]
    rintro e w' ⟨rfl, hb⟩
    exact ⟨none, 0, 0, rfl, Nat.le_refl _, RB.nil_, hb⟩

end Go.Proofs.YtkpmfobmlaldfaaDoor

/-
  Contract of the program's put: sectors written one behind the other, then made safe; over any disk that answers as it is to. Conditions: sectors of 256 bytes, at most 65,536 of them; fewer than 2^63 - 1 writes.
-/
namespace Go.Proofs.YtkpmfobmlaldfaaDoor
open Go.RowKit
set_option maxRecDepth 100000
set_option linter.unusedVariables false

/-- Sectors written one behind the other, then made safe. -/
def putS (S : DS) : List (Int × List Int) → Int × DS
  | [] => S.fl
  | y :: r => thenS (S.wr y.1 y.2) (fun S' => putS S' r)
theorem putS_cons (S : DS) (y : Int × List Int) (r : List (Int × List Int)) : putS S (y :: r) = thenS (S.wr y.1 y.2) (fun S' => putS S' r) := rfl

/-- What a call that writes to a disk leaves. -/
def WroteD (D : World → (Nat → Prop) → Addr → DS → Prop) (w : World) (F : Nat → Prop) (p : Addr) (S : DS) (w' : World) : Prop := ∃ F' : Nat → Prop, D w' F' p S ∧ Touch F w w' ∧ ∀ k, F' k → F k ∨ w.heap.size ≤ k

section
variable {D : World → (Nat → Prop) → Addr → DS → Prop} {w w1 w2 : World} {F F1 : Nat → Prop} {p : Addr} {S S1 S2 : DS}

theorem Touch.join (ht : Touch F w w1) (hF : ∀ k, F1 k → F k ∨ w.heap.size ≤ k) (h2 : Touch F1 w1 w2) : Touch F w w2 :=
  ⟨h2.os.trans ht.os, h2.tape.trans ht.tape, h2.output.trans ht.output, Nat.le_trans ht.size h2.size, fun k hk hn => (h2.block k (Nat.lt_of_lt_of_le hk ht.size) (fun hf => by
    rcases hF k hf with a | a
    · exact hn a
    · omega)).trans (ht.block k hk hn)⟩
theorem new_join {F2 : Nat → Prop} (hs : w.heap.size ≤ w1.heap.size) (hF : ∀ k, F1 k → F k ∨ w.heap.size ≤ k) (h3 : ∀ k, F2 k → F1 k ∨ w1.heap.size ≤ k) : ∀ k, F2 k → F k ∨ w.heap.size ≤ k := fun k hk => by
  rcases h3 k hk with a | a
  · exact hF k a
  · exact .inr (Nat.le_trans hs a)
theorem WroteD.join (ht : Touch F w w1) (hF : ∀ k, F1 k → F k ∨ w.heap.size ≤ k) (h : WroteD D w1 F1 p S2 w2) : WroteD D w F p S2 w2 := by
  obtain ⟨F2, h1, h2, h3⟩ := h
  exact ⟨F2, h1, ht.join hF h2, new_join ht.size hF h3⟩
theorem WroteD.below (api : DiskApi D) (h : WroteD D w F p S w1) (hb : Below w1.heap.size w1 w2) : WroteD D w F p S w2 := by
  obtain ⟨F1, h1, h2, h3⟩ := h
  exact ⟨F1, api.below h1 hb, ⟨hb.os.trans h2.os, hb.tape.trans h2.tape, hb.output.trans h2.output, Nat.le_trans h2.size hb.size, fun k hk hF => (hb.block k (Nat.lt_of_lt_of_le hk h2.size)).trans (h2.block k hk hF)⟩, h3⟩
theorem WroteD.same (h : D w F p S) : WroteD D w F p S w := ⟨F, h, Touch.refl _ _, fun k hk => .inl hk⟩
theorem WroteD.later (api : DiskApi D) (h : D w F p S) (hb : Below w.heap.size w w1) : WroteD D w F p S w1 := (WroteD.same h).below api hb

/-- Between two rounds of put. -/
def PutMid (D : World → (Nat → Prop) → Addr → DS → Prop) (w : World) (F : Nat → Prop) (p : Addr) (S : DS) (A : Option Addr) (n : Nat) (l : List (Int × List Int)) (k : Nat) (wr : World) : Prop :=
  ∃ F' S', D wr F' p S' ∧ Touch F w wr ∧ (∀ j, F' j → F j ∨ w.heap.size ≤ j) ∧ putS S l = putS S' (l.drop k) ∧ RImgs wr F' A n l ∧ S'.writes ≤ S.writes + k

set_option maxHeartbeats 1600000 in
theorem put_any (api : DiskApi D) {A : Option Addr} {n c : Nat} {l : List (Int × List Int)} (h : D w F p S) (hl : RImgs w F A n l) (h256 : ∀ y ∈ l, y.2.length = 256) (hn : n ≤ 65536) (hw : S.writes + n ≤ 9223372036854775806) :
    Calls Tryd.prog 34 #[.pointer (some p), .slice A n c] w fun e w' => e = .returned (.int .i64 (putS S l).1) ∧ WroteD D w F p (putS S l).2 w' := by
  have hlen := hl.1
  have HM0 := Lib.hid (show PutMid D w F p S A n l 0 w from ⟨F, S, h, Touch.refl _ _, fun j hj => .inl hj, rfl, hl, Nat.le_refl _⟩)
  clear h hl
  go_enter Tryd.func34, Tryd.ntmps34
  go_wp2
  go_loopw [10] (fun i wr => ∃ k : Nat, k ≤ n ∧ i = .int .i64 k ∧ Hid (PutMid D w F p S A n l k wr)) (fun i _ => n - (intOf i).toNat)
  case atStart => exact ⟨0, Nat.zero_le _, rfl, HM0⟩
  case round =>
    obtain ⟨k, hk, rfl, hM⟩ := hrel
    obtain ⟨F1, S1, h1, hT1, hF1, he1, hl1, hw1⟩ := hM.out
    by_cases hlt : k < n
    · have hlt' : (k : Int) < (n : Int) := by omega
      obtain ⟨y, hy⟩ : ∃ y, l[k]? = some y := ⟨_, List.getElem?_eq_getElem (by omega)⟩
      obtain ⟨b, rfl, hFb, hbl, hat⟩ := hl1.2 (by omega)
      obtain ⟨c1, G, m, cm, c2, hmc, hm63, hrb, hap⟩ := hat k y hy
      have hm : m = 256 := by rw [← hrb.len]; exact h256 y (List.mem_of_getElem? hy)
      subst hm
      rw [drop_at hy, putS_cons] at he1
      have hX : Below wr.heap.size wr (wr.alloc (.cells #[.int .i64 y.1, .slice G 256 cm] 81)) := (Below.refl _ _).alloc (Nat.le_refl _) _
      have h1X := api.below h1 hX
      have hrX := hrb.below hX
      have HW := Lib.hid (api.write y.1 G 256 cm _ y.2 _ _ _ _ h1X hrX hmc (by decide) (by omega) (fun a ha => hap a ha (by decide)))
      have HJ := Lib.hid (show ∀ w' S', WroteD D (wr.alloc (.cells #[.int .i64 y.1, .slice G 256 cm] 81)) F1 p S' w' → WroteD D w F p S' w' ∧ ∃ F2, D w' F2 p S' ∧ Touch F w w' ∧ (∀ k, F2 k → F k ∨ w.heap.size ≤ k) ∧ RImgs w' F2 (some ⟨b, 0, none⟩) n l from fun w' S' hW => by
        obtain ⟨F2, g1, g2, g3⟩ := WroteD.join (Touch.of_below hX) (fun k hk => .inl hk) hW
        refine ⟨WroteD.join hT1 hF1 ⟨F2, g1, g2, g3⟩, F2, g1, hT1.join hF1 g2, new_join hT1.size hF1 g3, hl1.keep g2.size (fun k hk hn hf => ?_) (fun k hk hn => g2.block k hk hn)⟩
        rcases g3 k hf with a | a
        · exact hn a
        · omega)
      obtain ⟨hmw, hmn⟩ := write_more S1 y.1 y.2
      have HE := Lib.hid he1
      have hn63 : n ≤ 9223372036854775807 := by omega
      clear hat hrb hap h1 hT1 hF1 hl1 h1X hrX HM0 hM he1 hX
      by_cases h0 : S1.writeE y.1 y.2 = 0
      · have H0 := Lib.hid h0
        have HE3 := Lib.hid (HE.out.trans (thenS_ok (r := S1.wr y.1 y.2) h0))
        clear h0
        go_wp2_with fail
        refine HW.out.mono ?_
        rw [H0.out]
        rintro e w2 ⟨rfl, hW2⟩
        obtain ⟨_, F2, j1, j2, j3, j4⟩ := HJ.out _ _ hW2
        have hM2 := Lib.hid (show PutMid D w F p S (some ⟨b, 0, none⟩) n l (k + 1) w2 from ⟨F2, _, j1, j2, j3, HE3.out, j4, by omega⟩)
        clear hW2 j1 j2 j3 j4
        go_wp2
        go_roundw
        case rel => exact ⟨k + 1, by omega, by go_num, hM2⟩
        case measure => simp [intOf]; omega
      · have kne : (S1.writeE y.1 y.2 != 0) = true := by simpa using h0
        have KN := Lib.hid kne
        have HE3 := Lib.hid (HE.out.trans (thenS_no (r := S1.wr y.1 y.2) h0))
        clear h0 kne
        go_wp2_with fail
        refine HW.out.mono ?_
        rintro e w2 ⟨rfl, hW2⟩
        have hF := Lib.hid (HJ.out _ _ hW2).1
        have kne := KN.out
        clear hW2
        go_wp2
        go_ret
        rw [HE3.out]
        exact ⟨rfl, hF.out⟩
    · obtain rfl : k = n := by omega
      rw [← hlen, List.drop_length] at he1
      have HE := Lib.hid he1
      have HF := Lib.hid (api.flush _ _ _ _ h1)
      have HT := Lib.hid (And.intro hT1 hF1)
      clear he1 h1 hT1 hF1 hl1 hM HM0
      go_wp2_with fail
      refine HF.out.mono ?_
      rintro e w2 ⟨rfl, hW2⟩
      have hF := Lib.hid (WroteD.join HT.out.1 HT.out.2 hW2)
      clear hW2
      go_wp2
      go_ret
      rw [HE.out]
      exact ⟨rfl, hF.out⟩
end

end Go.Proofs.YtkpmfobmlaldfaaDoor

/-
  Contracts of the program's mark and Format, over any disk that answers as it is to. Conditions: a count and a seq that may stand in a sector; fewer than 2^63 - 1 writes; the table that crc.Step reads holds what the program's text lays in it, apart from the disk.
-/
namespace Go.Proofs.YtkpmfobmlaldfaaDoor
open Go.RowKit
set_option maxRecDepth 100000
set_option linter.unusedVariables false

/-- The table is there, apart from the blocks F. -/
structure TabF (w : World) (F : Nat → Prop) : Prop where
  tab : Tab w
  lt : 0 < w.heap.size
  out : ¬ F 0
section
variable {D : World → (Nat → Prop) → Addr → DS → Prop} {w w1 w2 : World} {F F1 : Nat → Prop} {p : Addr} {S S1 S2 : DS}
theorem TabF.below (h : TabF w F) (hb : Below w.heap.size w w1) : TabF w1 F := ⟨h.tab.below hb h.lt, Nat.lt_of_lt_of_le h.lt hb.size, h.out⟩
theorem TabF.touch (h : TabF w F) (ht : Touch F w w1) (hF : ∀ k, F1 k → F k ∨ w.heap.size ≤ k) : TabF w1 F1 :=
  ⟨fun i hi => (World.cell?_of_block (a := ⟨0, i, none⟩) (ht.block _ h.lt h.out)).trans (h.tab i hi), Nat.lt_of_lt_of_le h.lt ht.size, fun hf => by
    rcases hF _ hf with a | a
    · exact h.out a
    · have := h.lt; omega⟩

theorem piece_cells {w : World} {b : Nat} {x0 y0 : Value} (x y : Value) (c0 : w.cell? ⟨b, 0, none⟩ = some x0) (c1 : w.cell? ⟨b, 1, none⟩ = some y0) : ((w.setCell ⟨b, 0, none⟩ x).setCell ⟨b, 1, none⟩ y).cell? ⟨b, 0, none⟩ = some x ∧ ((w.setCell ⟨b, 0, none⟩ x).setCell ⟨b, 1, none⟩ y).cell? ⟨b, 1, none⟩ = some y := by
  have e : (w.setCell ⟨b, 0, none⟩ x).cell? ⟨b, 1, none⟩ = some y0 := (World.cell?_setCell_other w ⟨b, 0, none⟩ ⟨b, 1, none⟩ x (by simp)).trans c1
  exact ⟨(World.cell?_setCell_other _ ⟨b, 1, none⟩ ⟨b, 0, none⟩ y (by simp)).trans (World.cell?_setCell_same w _ x c0), World.cell?_setCell_same _ _ y e⟩
/-- One sector to write. -/
theorem RImgs.one {w : World} {F : Nat → Prop} {b g c n : Nat} {T : TypeId} {x : Int} {l : List Int} (h : w.heap[b]? = some (.cells #[.int .i64 x, .slice (some ⟨g, 0, none⟩) n c] T (0, 0))) (hb : ¬ F b) (hg : ¬ F g) (hc : n ≤ c) (hn : n ≤ 9223372036854775807) (hr : RB w w.heap.size (some ⟨g, 0, none⟩) n l) : RImgs w F (some ⟨b, 0, none⟩) 1 [(x, l)] := by
  refine ⟨rfl, fun _ => ⟨b, rfl, hb, (Array.getElem?_eq_some_iff.1 h).1, fun i y hy => ?_⟩⟩
  obtain ⟨hi, e⟩ := List.getElem?_eq_some_iff.1 hy
  obtain rfl : i = 0 := by simpa using hi
  obtain rfl : (x, l) = y := e
  refine ⟨?_, some ⟨g, 0, none⟩, n, c, ?_, hc, hn, hr, fun a ha _ => by cases ha; exact hg⟩
  · rw [cell_of_row w b _ _ _ (0, 0) h]; rfl
  · rw [cell_of_row w b _ _ _ (0, 0) h]; rfl

set_option maxHeartbeats 800000 in
theorem markOf_any (count seq : Int) (hs : secR count seq = true) (ht : TabF w F) :
    Calls Tryd.prog 33 #[.int .i64 count, .int .i64 seq] w fun e w' => ∃ g c, e = .returned (.tuple #[.agg #[.int .i64 0, .slice (some ⟨g, 0, none⟩) 256 c], .int .i64 0]) ∧ 256 ≤ c ∧ w.heap.size ≤ g ∧ RB w' w'.heap.size (some ⟨g, 0, none⟩) 256 (secL count seq zpage) ∧ Below w.heap.size w w' := by
  obtain ⟨i0, hi, hz0, hz1, hz2⟩ := info_parts info_u8
  have hsb := secL_bytes count seq zpage_ok.2
  have hsl : (secL count seq zpage).length = 256 := by rw [secL_length, zpage_ok.1]
  have HT := Lib.hid ht
  have HS := Lib.hid hs
  have HPS := Lib.hid pack_said
  have HM := Lib.hid lay_said.mark
  clear ht hs
  go_enter Tryd.func33, Tryd.ntmps33
  go_wp2_with (refine wpList_make_full (w.alloc (.cells #[.int .i64 0, .slice none 0 0] 81)) rfl _ _ 69 rfl (w.heap.size + 1) 5 i0 (.int .u8 0) 1 Tryd.underlying69 hi hz0 hz1 .i64 .i64 _ _ 240 rfl rfl rfl rfl (by rw [hz2]; decide) (by decide) (by simp) ?_; intro w1 hown1 hg1; have hb1 : Below (w.heap.size + 1) (w.alloc (.cells #[.int .i64 0, .slice none 0 0] 81)) w1 := (Below.refl _ _).grown hg1 (by simp) (by simp); have hr1 : RB w1 w1.heap.size _ 240 zpage := RB.made hown1; clear hown1 hg1)
  have hb01 : Below w.heap.size w w1 := ((Below.refl w.heap.size w).alloc (Nat.le_refl _) _).trans (hb1.mono (Nat.le_succ _))
  have hcell1 : w1.heap[w.heap.size]? = some (.cells #[.int .i64 0, .slice none 0 0] 81 (0, 0)) := (hb1.block _ (Nat.lt_succ_self _)).trans (heap_alloc_new _ _)
  have ht1 := HT.out.below hb01
  have hs0 : (w.alloc (.cells #[.int .i64 0, .slice none 0 0] 81)).heap.size = w.heap.size + 1 := by simp
  rw [hs0] at hr1
  have hpk := HPS.out _ _ _ _ zpage count seq _ hr1 (Nat.le_refl _) (Nat.le_refl _) (by omega) ht1.tab ht1.lt
  rw [show packR count seq zpage = (secL count seq zpage, 0) from by unfold packR; rw [if_pos ⟨HS.out, zpage_ok.1⟩]] at hpk
  refine hpk.mono ?_
  clear hpk
  rintro e w2 ⟨v2, rfl, hown2, hb2⟩
  simp only [hsl] at hown2
  obtain ⟨g, c, rfl, hc, hg⟩ := own_some hown2 (by decide)
  have hr2 : RB w2 w2.heap.size (some ⟨g, 0, none⟩) 256 (secL count seq zpage) := RB.of_own hown2 hsb
  have hb02 := hb01.trans (hb2.mono hb01.size)
  have hg0 : w.heap.size < g := by have := hb1.size; omega
  have HF := Lib.hid (And.intro hc (And.intro hg0 (And.intro hr2 hb02)))
  have hcell2 := (hb2.block _ (show w.heap.size < w1.heap.size by have := hb1.size; omega)).trans hcell1
  have c0 : w2.cell? ⟨w.heap.size, 0, none⟩ = some (.int .i64 0) := by rw [cell_of_row w2 _ 0 _ _ (0, 0) hcell2]; rfl
  have c1 : w2.cell? ⟨w.heap.size, 1, none⟩ = some (.slice none 0 0) := by rw [cell_of_row w2 _ 1 _ _ (0, 0) hcell2]; rfl
  have f0 : w2.frozen? ⟨w.heap.size, 0, none⟩ = false := by simp [World.frozen?, hcell2]
  have f1 : w2.frozen? ⟨w.heap.size, 1, none⟩ = false := by simp [World.frozen?, hcell2]
  clear hown2 hr1 hb1 hb2 hb02 hr2 ht1 hc hg hg0
  go_wp2_with (go_at_call 36; refine (HM.out _).mono ?_; rintro e w3 ⟨rfl, rfl⟩)
  obtain ⟨d0, d1⟩ := piece_cells (.int .i64 0) (.slice (some ⟨g, 0, none⟩) 256 c) c0 c1
  refine bodyPost_ret (v := .tuple #[.agg #[.int .i64 0, .slice (some ⟨g, 0, none⟩) 256 c], .int .i64 0]) (by
    generalize ((w2.setCell ⟨w.heap.size, 0, none⟩ (Value.int IntKind.i64 0)).setCell ⟨w.heap.size, 1, none⟩ (Value.slice (some ⟨g, 0, none⟩) 256 c)) = X at *
    simp [results, Tryd.results33, go_sem, d0, d1]) rfl ?_
  obtain ⟨q1, q2, q3, q4⟩ := HF.out
  refine ⟨g, c, rfl, q1, Nat.le_of_lt q2, q3.there (by decide) ?_ (by simp), (q4.setCell (Nat.le_refl _) _).setCell (Nat.le_refl _) _⟩
  rw [Below.heap_setCell _ _ _ _ (by simp; omega), Below.heap_setCell _ _ _ _ (by simp; omega)]

set_option maxHeartbeats 800000 in
theorem format_any (api : DiskApi D) (h : D w F p S) (ht : TabF w F) (hw : S.writes ≤ 9223372036854775800) :
    Calls Tryd.prog 14 #[.pointer (some p)] w fun e w' => e = .returned (.int .i64 (markS S 0 1).1) ∧ WroteD D w F p (markS S 0 1).2 w' := by
  have HM := Lib.hid (markOf_any 0 1 (by decide) ht)
  go_enter Tryd.func14, Tryd.ntmps14
  go_wp2_with fail
  refine HM.out.mono ?_
  rintro e w1 ⟨g, c, rfl, hc, hg, hr1, hb1⟩
  have hlt := api.lt _ _ _ _ h
  have hgl : g < w1.heap.size := by obtain ⟨bb, _, e, hbb, _⟩ := hr1.at_ (by decide); cases e; exact hbb
  have hX : Below w1.heap.size w1 ((w1.alloc (.cells #[.int .i64 0, .slice (some ⟨g, 0, none⟩) 256 c] 81)).alloc (.cells #[.int .i64 0, .slice (some ⟨g, 0, none⟩) 256 c] 81)) := ((Below.refl _ _).alloc (Nat.le_refl _) _).alloc (by simp) _
  have hb2 := hb1.trans (hX.mono hb1.size)
  have h2 := api.below h hb2
  have hs1 := hb1.size
  have hbk : ((w1.alloc (.cells #[.int .i64 0, .slice (some ⟨g, 0, none⟩) 256 c] 81)).alloc (.cells #[.int .i64 0, .slice (some ⟨g, 0, none⟩) 256 c] 81)).heap[w1.heap.size + 1]? = some (.cells #[.int .i64 0, .slice (some ⟨g, 0, none⟩) 256 c] 81 (0, 0)) := by
    have := heap_alloc_new (w1.alloc (.cells #[.int .i64 0, .slice (some ⟨g, 0, none⟩) 256 c] 81)) (.cells #[.int .i64 0, .slice (some ⟨g, 0, none⟩) 256 c] 81)
    simpa using this
  have HP := Lib.hid (put_any api (c := 1) h2 (RImgs.one hbk (fun hf => by have := hlt _ hf; omega) (fun hf => by have := hlt _ hf; omega) hc (by decide) (hr1.there (by decide) (hX.block g hgl) hX.size)) (fun y hy => by obtain rfl := List.mem_singleton.1 hy; exact (secL_length ..).trans (by rw [zpage_ok.1])) (by decide) (by omega))
  have HT := Lib.hid (Touch.of_below (F := F) hb2)
  have HS := Lib.hid (markS_sec S (c := 0) (s := 1) (by decide))
  clear h h2 hX hb1 hb2 hr1 hlt
  go_wp2_with fail
  refine HP.out.mono ?_
  rintro e w2 ⟨rfl, hW⟩
  have hF := Lib.hid (WroteD.join HT.out (fun k hk => .inl hk) hW)
  clear hW
  go_wp2
  go_ret
  rw [HS.out]
  exact ⟨rfl, hF.out⟩
end

end Go.Proofs.YtkpmfobmlaldfaaDoor
