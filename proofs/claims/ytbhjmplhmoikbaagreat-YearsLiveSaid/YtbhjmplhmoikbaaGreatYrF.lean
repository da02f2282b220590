/-
  Years that are opened and closed, over plain lists, and the laws' own check of layer 22: it returns true. No condition.
-/
import Derived.Test.YtbhjmplhmoikbaaGreatYrB
import Derived.Test.YtbhjmplhmoikbaaGreatYrC
namespace Go.Proofs.YtbhjmplhmoikbaaGreat
open Go.RowKit Go.Maps
set_option maxRecDepth 100000
set_option linter.unusedVariables false

theorem yKey_len (n : Int) : (yKey n).length = 5 := by rw [tx_length, yKeyLen]
theorem stV_pack {s : Int} (h : s = 1 ∨ s = 2) : stV (some (packN 8 [s])) = s := by
  unfold stV
  rw [seqV_pack (by omega), if_pos h]
theorem years_mem {S : VS} (h : S.Ok) {n : Int} : n ∈ yearsK ((S.scan (tx [89])).map kvOf) ↔ (0 ≤ n ∧ n < 4294967296) ∧ stV (S.now (yKey n)) ≠ 0 := by
  unfold yearsK
  rw [List.mem_filterMap]
  constructor
  · rintro ⟨q, hq, hx⟩
    obtain ⟨p, hp, rfl⟩ := List.mem_map.1 hq
    obtain ⟨h1, h2⟩ := (scan_mem h).1 hp
    unfold yOf at hx
    split at hx
    · cases hx
    · rename_i hne
      obtain ⟨h3, h4⟩ := key_of (by_bytes p.1) ((tag_prefix (by omega) p.1).1 h2) hx
      refine ⟨h3, ?_⟩
      show stV (S.now (tx (keyL 89 [n]))) ≠ 0
      rw [← h4, tx_by, h1]
      exact hne
  · rintro ⟨hx, hs⟩
    cases hv : S.now (yKey n) with
    | none => rw [hv] at hs; exact absurd rfl hs
    | some v =>
      rw [hv] at hs
      refine ⟨kvOf (yKey n, v), List.mem_map.2 ⟨_, (scan_mem h).2 ⟨hv, (tag_prefix (by omega) _).2 ?_⟩, rfl⟩, ?_⟩
      · show (by_ (tx (keyL 89 [n])))[0]? = some 89
        rw [by_tx (key_bytes (by omega)), keyOne 89 n hx]
        rfl
      · unfold yOf
        rw [if_neg hs]
        show oneOf (by_ (tx (keyL 89 [n]))) = some n
        rw [by_tx (key_bytes (by omega)), oneOf_key 89 n hx]
/-- What stands behind j calls. -/
structure YearS (S : VS) (j : Nat) : Prop where
  ok : S.Ok
  w : S.W = []
  c : S.C.length ≤ j
  ck : ∀ p ∈ S.C, p.1.length ≤ 60
section
variable {S : VS} {j : Nat}
theorem YearS.start : YearS ⟨[], []⟩ 0 := ⟨⟨List.Pairwise.nil, List.Pairwise.nil⟩, rfl, Nat.le_refl _, (fun p (h : p ∈ ([] : List (Txt × Option (List Int)))) => absurd h List.not_mem_nil)⟩
theorem YearS.more (h : YearS S j) : YearS S (j + 1) := ⟨h.ok, h.w, Nat.le_succ_of_le h.c, h.ck⟩
theorem YearS.put (h : YearS S j) (n : Int) (v : List Int) : YearS (S.put (yKey n) v) (j + 1) :=
  ⟨h.ok.put _ _, h.w, Nat.le_trans (setT_len _ _ _) (Nat.succ_le_succ h.c), fun p hp => by
    rcases mem_setT hp with rfl | hp
    · show (yKey n).length ≤ 60
      rw [yKey_len]; omega
    · exact h.ck p hp⟩
theorem YearS.open_ (h : YearS S j) (n : Int) : YearS (S.open_ n) (j + 1) := by
  unfold VS.open_
  split
  · exact h.put _ _
  · exact h.more
theorem YearS.shut (h : YearS S j) (n : Int) : YearS (S.shut n) (j + 1) := by
  unfold VS.shut
  split
  · exact h.put _ _
  · exact h.more
theorem YearS.scanOk (h : YearS S j) (hj : j ≤ 32767) : ScanOk S :=
  ⟨by rw [h.w]; decide, (fun p hp => by rw [h.w] at hp; cases hp), Nat.le_trans h.c hj, fun p hp => Nat.le_trans (h.ck p hp) (by decide)⟩
theorem stay_open (h : S.Ok) {y : Int} (hy : stV (S.now (yKey y)) = 2) (n : Int) : stV ((S.open_ n).now (yKey y)) = 2 := by
  unfold VS.open_
  split
  · rename_i he
    rw [h.now_put]
    by_cases e : yKey n = yKey y
    · exfalso
      rw [e] at he
      unfold openE at he
      split at he
      · rw [hy] at he
        exact absurd he (by decide)
      · exact absurd he (by decide)
    · rw [if_neg e]; exact hy
  · exact hy
theorem stay_shut (h : S.Ok) {y : Int} (hy : stV (S.now (yKey y)) = 2) (n : Int) : stV ((S.shut n).now (yKey y)) = 2 := by
  unfold VS.shut
  split
  · rename_i he
    rw [h.now_put]
    by_cases e : yKey n = yKey y
    · exfalso
      rw [e, hy] at he
      exact absurd he (by decide)
    · rw [if_neg e]; exact hy
  · exact hy
/-- A year that was not there is opened, then closed. -/
theorem opened (h : S.Ok) {y : Int} (hy : yearB y = true) (h0 : stV (S.now (yKey y)) = 0) : openE (S.now (yKey y)) y = 0 ∧ S.open_ y = S.put (yKey y) (packN 8 [1]) ∧ stV ((S.open_ y).now (yKey y)) = 1 := by
  have e : openE (S.now (yKey y)) y = 0 := by unfold openE; rw [if_pos hy, if_pos h0]
  have e2 : S.open_ y = S.put (yKey y) (packN 8 [1]) := by unfold VS.open_; rw [if_pos e]
  refine ⟨e, e2, ?_⟩
  rw [e2, h.now_put, if_pos rfl, stV_pack (.inl rfl)]
theorem closed (h : S.Ok) {y : Int} (h1 : stV (S.now (yKey y)) = 1) : stV ((S.shut y).now (yKey y)) = 2 := by
  unfold VS.shut
  rw [if_pos h1, h.now_put, if_pos rfl, stV_pack (.inr rfl)]
end
set_option maxHeartbeats 6400000 in
theorem yrAwake_any (w : World) : Calls Tryz.prog 14 #[] w fun e w' => e = .returned (.bool true) ∧ Below w.heap.size w w' := by
  have HN := Lib.hid (vNew_any w (fun _ => False) (fun k h => h.elim))
  go_enter Tryz.func14, Tryz.ntmps14
  go_wp2_with fail
  refine HN.out.mono ?_
  rintro e w1 ⟨v, m, c, rfl, h1, hb1, hv, hm, hc⟩
  obtain ⟨X, hX⟩ : ∃ X : Nat → Prop, X = fun k => False ∨ k = v ∨ k = m ∨ k = c := ⟨_, rfl⟩
  rw [← hX] at h1
  have Y0 := YearS.start
  obtain ⟨a1, a2, a3⟩ := opened Y0.ok (y := 2020) (by decide) rfl
  have Y1 := Y0.open_ 2020
  have a4 := closed Y1.ok a3
  have Y2 := Y1.shut 2020
  have HA := Lib.hid (yOpen_any h1 2020 (by omega) (by decide))
  rw [a1] at HA
  obtain ⟨S1, hS1⟩ : ∃ S1, S1 = (⟨[], []⟩ : VS).open_ 2020 := ⟨_, rfl⟩
  rw [← hS1] at HA a3 Y1 a4 Y2
  have b1 : stV (S1.now (yKey 2021)) = 0 := by rw [hS1]; decide +kernel
  have HB := Lib.hid (And.intro hb1 hc)
  clear h1 hb1 hX hv hm hc HN a1 a2
  go_wp2_with fail
  refine HA.out.mono ?_
  rintro e w2 ⟨rfl, h2, t2⟩
  have HB2 := Lib.hid (HB.out.1.trans (t2.below (fun k e => by rw [e]; exact HB.out.2) HB.out.1.size))
  have HC := Lib.hid (yCheck_any h2 2020 (by omega))
  rw [a3] at HC
  have HV2 := Lib.hid h2
  clear h2 t2 HA
  go_wp2_with fail
  refine HC.out.mono ?_
  rintro e w3 ⟨rfl, hb3⟩
  rw [show chkE 1 = 0 from rfl]
  have HS := Lib.hid (yShut_any (HV2.out.below hb3) 2020 (by omega) (Nat.lt_of_le_of_lt Y1.c (by decide)))
  rw [a3, show chkE 1 = 0 from rfl] at HS
  obtain ⟨S2, hS2⟩ : ∃ S2, S2 = S1.shut 2020 := ⟨_, rfl⟩
  rw [← hS2] at HS a4 Y2
  have b2 : stV (S2.now (yKey 2021)) = 0 := by rw [hS2, hS1]; decide +kernel
  have HB3 := Lib.hid (HB2.out.trans (hb3.mono HB2.out.size))
  clear hb3 HC HB2 HV2
  go_wp2_with fail
  refine HS.out.mono ?_
  rintro e w4 ⟨rfl, h4, t4⟩
  have HB4 := Lib.hid (HB3.out.trans (t4.below (fun k e => by rw [e]; exact HB.out.2) HB3.out.size))
  have HC1 := Lib.hid (fun W (hb : Below w4.heap.size w4 W) => yCheck_any (h4.below hb) 2020 (by omega))
  have HC2 := Lib.hid (fun W (hb : Below w4.heap.size w4 W) => yCheck_any (h4.below hb) 2021 (by omega))
  have HO := Lib.hid (show ∀ W, Below w4.heap.size w4 W → Calls Tryz.prog 18 #[.pointer (some ⟨v, 0, none⟩), .int .i64 2020] W fun e w' => e = .returned (.int .i64 8) ∧ Touch (fun k => k = c) W w' from fun W hb => (yOpen_any (h4.below hb) 2020 (by omega) (Nat.lt_of_le_of_lt Y2.c (by decide))).mono fun e w' q => by
    refine ⟨?_, q.2.2⟩
    have e8 : openE (S2.now (yKey 2020)) 2020 = 8 := by unfold openE; rw [if_pos (by decide), if_neg (by rw [a4]; decide)]
    rw [← e8]; exact q.1)
  rw [a4] at HC1
  rw [b2] at HC2
  clear h4 t4 HS HB3
  go_wp2_with fail
  refine (HC1.out _ (Below.refl _ _)).mono ?_
  rintro e w5 ⟨rfl, hb5⟩
  rw [show chkE 2 = 13 from rfl]
  have H5 := Lib.hid hb5
  clear hb5 HC1
  go_wp2_with fail
  refine (HC2.out _ H5.out).mono ?_
  rintro e w6 ⟨rfl, hb6⟩
  rw [show chkE 0 = 7 from rfl]
  have H6 := Lib.hid (H5.out.trans (hb6.mono H5.out.size))
  clear hb6 HC2 H5
  go_wp2_with fail
  refine (HO.out _ H6.out).mono ?_
  rintro e w7 ⟨rfl, t7⟩
  have HE := Lib.hid ((HB4.out.trans (H6.out.mono HB4.out.size)).trans (t7.below (fun k e => by rw [e]; exact HB.out.2) (Nat.le_trans HB4.out.size H6.out.size)))
  clear t7 HO H6 HB4
  go_wp2_with fail
  go_ret
  exact ⟨rfl, HE.out⟩
end Go.Proofs.YtbhjmplhmoikbaaGreat
