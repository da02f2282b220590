/-
  Walk of PagerLives, over any disk that answers as it is to: it returns true. Condition: the table that crc.Step reads holds what the program's text lays in it.
-/
import Derived.Test.YtkpmfobmlaldfaaGreatDoorG7
import Derived.Test.YtkpmfobmlaldfaaGreatDoorG2
import Derived.Test.YtkpmfobmlaldfaaGreatDoorG8
import Derived.Deep.RegionHeld3
namespace Go.Proofs.YtkpmfobmlaldfaaGreatDoor
open Go.RowKit
set_option maxRecDepth 100000
set_option linter.unusedVariables false

section
variable {D : World → (Nat → Prop) → Addr → DS → Prop}

/-- Both pagers behind k calls. -/
def PLInv (D : World → (Nat → Prop) → Addr → DS → Prop) (w : World) (n k : Nat) (p xa : Addr) (q q' r b xr : Nat) (wr : World) : Prop :=
  ∃ (S : DS) (s : Int) (F O G : Nat → Prop) (v : Value) (L : List (Int × List Int)), LInv n k S ∧ (0 ≤ s ∧ s ≤ 1 + (k : Int)) ∧ TwoPg D w wr F O G p xa S S q q' s s r b xr v L L
theorem LInv.pages {n k : Nat} {S : DS} (h : LInv n k S) (hn : n ≤ 42) : S.P ≤ 64 := by
  have := h.n_
  unfold DS.P pagesOf
  split <;> omega
theorem TwoPg.facts {w w0 : World} {F O G : Nat → Prop} {p xa : Addr} {S T : DS} {q q' r b xr : Nat} {s t : Int} {v : Value} {L M : List (Int × List Int)} (h : TwoPg D w0 w F O G p xa S T q q' s t r b xr v L M) (hP : S.P ≤ 64) : L.length ≤ 64 ∧ (∀ y ∈ L, AllBytes y.2) ∧ (∀ y ∈ L, y.2.length = 240) ∧ ∀ y ∈ L, -9223372036854775808 ≤ y.1 ∧ y.1 ≤ 9223372036854775807 := by
  have hf := few_set h.pg.up h.pg.all
  exact ⟨by omega, fun y hy => (h.pg.all y hy).2.2.2, fun y hy => (h.pg.all y hy).2.2.1, fun y hy => by have := h.pg.all y hy; omega⟩
theorem TwoPg.set (api : DiskApi D) {w w0 : World} {F O G : Nat → Prop} {p xa : Addr} {S T : DS} {q q' r b xr : Nat} {s t : Int} {v : Value} {L M : List (Int × List Int)} (h : TwoPg D w0 w F O G p xa S T q q' s t r b xr v L M) (i : Int) {A : Option Addr} {n c B : Nat} {l : List Int} (hi : -9223372036854775808 ≤ i ∧ i ≤ 9223372036854775807) (hr : RB w B A n l) (hB : B ≤ w.heap.size) (hn : n ≤ maxLen) :
    Calls Tryz.prog 12 #[.pointer (some ⟨r, 0, none⟩), .int .i64 i, .slice A n c] w fun e w' => e = .returned (.int .i64 (setPgE S i l)) ∧ ∃ O', TwoPg D w0 w' F O' G p xa S T q q' s t r b xr v (setPg S L i l) M ∧ Touch O w w' ∧ ∀ k, O' k → O k ∨ w.heap.size ≤ k := by
  refine (pset_any (c := c) api h.pg i hi hr hB hn).mono ?_
  rintro e w' ⟨rfl, O', hp, ht, hO⟩
  exact ⟨rfl, O', h.nextP hp ht hO, ht, hO⟩
theorem TwoPg.rset (api : DiskApi D) {w w0 : World} {F O G : Nat → Prop} {p xa : Addr} {S T : DS} {q q' r b xr : Nat} {s t : Int} {v : Value} {L M : List (Int × List Int)} (h : TwoPg D w0 w F O G p xa S T q q' s t r b xr v L M) (hM : M.length ≤ 65536) (i : Int) {A : Option Addr} {n c B : Nat} {l : List Int} (hr : RB w B A n l) (hB : B ≤ w.heap.size) (hn : n ≤ maxLen) :
    Calls Tryz.prog 14 #[.pointer (some ⟨xr, 0, none⟩), .int .i64 i, .slice A n c] w fun e w' => e = .returned (.int .i64 (setPgE T i l)) ∧ ∃ G' v', TwoPg D w0 w' F O G' p xa S T q q' s t r b xr v' L (setPg T M i l) ∧ Touch (rpY G q' xr v) w w' := by
  refine (rpset_any (c := c) h.R h.pg.lt h.bel.size hM i hr hB hn).mono ?_
  rintro e w' ⟨rfl, G', v', hR, ht, hG⟩
  exact ⟨rfl, G', v', h.nextR api hR ht hG, ht⟩
theorem TwoPg.commit (api : DiskApi D) {w w0 : World} {F O G : Nat → Prop} {p xa : Addr} {S T : DS} {q q' r b xr : Nat} {s t : Int} {v : Value} {L M : List (Int × List Int)} (h : TwoPg D w0 w F O G p xa S T q q' s t r b xr v L M) (hs : 0 ≤ s ∧ s < 4611686018427387904) (hw : S.writes ≤ 9223372036854500000) :
    Calls Tryz.prog 18 #[.pointer (some ⟨r, 0, none⟩)] w fun e w' => e = .returned (.int .i64 (commitS S s L).1) ∧ ∃ F' O', TwoPg D w0 w' F' O' G p xa (commitS S s L).2.2 T q q' (commitS S s L).2.1 t r b xr v (leftPg S s L) M := by
  refine (pcommit_any api h.pg h.tabF hs hw).mono ?_
  rintro e w' ⟨rfl, F', O', hp, ht, hF, hO⟩
  exact ⟨rfl, F', O', h.nextP hp ht hO⟩
theorem TwoPg.rcommit (api : DiskApi D) {w w0 : World} {F O G : Nat → Prop} {p xa : Addr} {S T : DS} {q q' r b xr : Nat} {s t : Int} {v : Value} {L M : List (Int × List Int)} (h : TwoPg D w0 w F O G p xa S T q q' s t r b xr v L M) (hby : ∀ y ∈ M, AllBytes y.2) (hM : M.length ≤ 65536) (hs : 0 ≤ t ∧ t < 4611686018427387904) (hw : T.writes ≤ 9223372036854500000) :
    Calls Tryz.prog 19 #[.pointer (some ⟨xr, 0, none⟩)] w fun e w' => e = .returned (.int .i64 (commitS T t M).1) ∧ ∃ G' v', TwoPg D w0 w' F O G' p xa S (commitS T t M).2.2 q q' s (commitS T t M).2.1 r b xr v' L (leftPg T t M) := by
  refine (rpcommit_any h.R hby hM hs hw).mono ?_
  rintro e w' ⟨rfl, G', v', hR, ht, hG⟩
  exact ⟨rfl, G', v', h.nextR api hR ht hG⟩
theorem TwoPg.abort (api : DiskApi D) {w w0 : World} {F O G : Nat → Prop} {p xa : Addr} {S T : DS} {q q' r b xr : Nat} {s t : Int} {v : Value} {L M : List (Int × List Int)} (h : TwoPg D w0 w F O G p xa S T q q' s t r b xr v L M) :
    Calls Tryz.prog 20 #[.pointer (some ⟨r, 0, none⟩)] w fun e w' => e = .returned (.tuple #[]) ∧ TwoPg D w0 w' F O G p xa S T q q' s t r b xr v [] M := by
  refine (pabort_any api h.pg).mono ?_
  rintro e w' ⟨rfl, hp, hg⟩
  exact ⟨rfl, h.nextP hp (touch_grown (X := O) hg (h.pg.own b (.inr (.inr (.inr rfl))))) (fun k hk => .inl hk)⟩
theorem TwoPg.nilled (api : DiskApi D) {w w0 : World} {F O G : Nat → Prop} {p xa : Addr} {S T : DS} {q q' r b xr : Nat} {s t : Int} {v : Value} {L M : List (Int × List Int)} (h : TwoPg D w0 w F O G p xa S T q q' s t r b xr v L M) : TwoPg D w0 (w.setCell ⟨xr, 1, none⟩ (.slice none 0 0)) F O G p xa S T q q' s t r b xr (.slice none 0 0) L [] :=
  h.nextR api h.R.nilled ⟨rfl, rfl, rfl, by simp, fun k hk hn => Below.heap_setCell _ _ _ _ (fun e => hn (.inr (.inr (.inl e))))⟩ (fun k hk => .inl hk)

set_option maxHeartbeats 32000000 in
theorem pagerLives_walk (api : DiskApi D) {w : World} {A : Option Addr} {x len cap : Nat} {ds : List Do7} (hx : x < 256) (hr : RDos7 w w.heap.size A len ds) (hc : len ≤ cap) (hm : len ≤ maxLen) (ht : Tab w ∧ 1 < w.heap.size) :
    Calls Tryz.prog 3 #[.int .u8 (x : Int), .slice A len cap] w fun e w' => e = .returned (.bool true) ∧ Below w.heap.size w w' := by
  unfold maxLen at hm
  obtain ⟨n, hn⟩ : ∃ n : Nat, n = 3 + x % 40 := ⟨_, rfl⟩
  have hnn : 3 + (x : Int) % 40 = (n : Int) := by omega
  have hn42 : 3 ≤ n ∧ n ≤ 42 := by omega
  have HN := Lib.hid hn42
  obtain ⟨i1, _, _, _⟩ := LInv.start (n := n) (by omega)
  have HFR := Lib.hid (fresh_any api (n := n) (by omega) w ht)
  have HI1 := Lib.hid (show LInv n 0 (S0 n) from i1)
  clear i1 hn hn42
  generalize S0 n = S0n at *
  have HAWK := Lib.hid (fun w1 (hb : Below w.heap.size w w1) => pgAwake_any api w1 ⟨ht.1.below hb ht.2, Nat.lt_of_lt_of_le ht.2 hb.size⟩)
  have HRD := Lib.hid hr
  clear hr
  by_cases h60 : len ≤ 60
  case neg =>
    have k60 : decide ((len : Int) > 60) = true := by simp; omega
    go_enter Tryz.func3, Tryz.ntmps3
    go_wp2_with fail
    refine HFR.out.mono ?_
    rintro e w1 ⟨r, xr, b, q, q', F, O, G, p, xa, rfl, hT⟩
    have HB1 := Lib.hid hT.bel
    have HAW := Lib.hid (HAWK.out w1 hT.bel)
    clear hT HFR
    go_wp2_with fail
    refine HAW.out.mono ?_
    rintro e we ⟨rfl, hbe⟩
    have HF := Lib.hid (HB1.out.trans (hbe.mono HB1.out.size))
    clear hbe
    go_wp2
    go_ret
    exact ⟨rfl, HF.out⟩
  have k60 : decide ((len : Int) > 60) = false := by simp; omega
  go_enter Tryz.func3, Tryz.ntmps3
  go_wp2_with fail
  refine HFR.out.mono ?_
  rintro e w1 ⟨r, xr, b, q, q', F, O, G, p, xa, rfl, hT⟩
  have HM0 : Hid (PLInv D w n 0 p xa q q' r b xr w1) := Lib.hid ⟨S0n, 1, F, O, G, _, [], HI1.out, ⟨by decide, by decide⟩, hT⟩
  clear hT HFR HI1 F O G
  go_wp2_with fail
  go_loopw [44] (fun i wr => ∃ k : Nat, k ≤ len ∧ i = .int .i64 k ∧ Hid (PLInv D w n k p xa q q' r b xr wr)) (fun i _ => len - (intOf i).toNat)
  case atStart => exact ⟨0, Nat.zero_le _, rfl, HM0⟩
  case round =>
    clear HM0
    obtain ⟨k, hk, rfl, hM⟩ := hrel
    by_cases hlt : k < len
    · have hlt' : (k : Int) < (len : Int) := by omega
      obtain ⟨S, s, F, O, G, v, L, hI, hs, hT⟩ := hM.out
      obtain ⟨db, doff, rfl, hdb, hdat⟩ := HRD.out.2 (by omega)
      obtain ⟨⟨dop, di, dc⟩, hd, hdo⟩ := hdat k hlt
      obtain ⟨d0, d1, d2, d3, d4, d5⟩ := hdo.keep hdb (fun b o hbb => hT.bel.cell (p := ⟨b, o, none⟩) hbb)
      dsimp only at d0 d1 d2 d3 d4 d5
      have hX : Below wr.heap.size wr (wr.alloc (.cells #[.int .i64 dop, .int .i64 di, .int .u8 dc] 29)) := (Below.refl _ _).alloc (Nat.le_refl _) _
      have HKB : Hid (Do7Blk (wr.alloc (.cells #[.int .i64 dop, .int .i64 di, .int .u8 dc] 29)) wr.heap.size ⟨dop, di, dc⟩) := Lib.hid (heap_alloc_new wr _)
      obtain ⟨kc0, kc1, kc2, hkl⟩ := HKB.out.cells
      dsimp only at kc0 kc1 kc2
      have HP := Lib.hid (hI.pages HN.out.2)
      have HT0 := Lib.hid hT
      have HT := Lib.hid (hT.later api hX)
      have HII := Lib.hid (And.intro hI hs)
      have HX := Lib.hid hX
      have HD4 := Lib.hid (And.intro d4 d5)
      clear hdat hd hdo hI hs hT hX hM d3 d4 d5
      by_cases hset : dop = 0 ∨ dop = 1 ∨ dop = 2
      · rcases hset with rfl | rfl | rfl
        all_goals
          have hKd : Do7Blk (wr.alloc (.cells #[.int .i64 _, .int .i64 di, .int .u8 dc] 29)).drew wr.heap.size ⟨_, di, dc⟩ := HKB.out
          obtain ⟨_, e1, e2, hel⟩ := hKd.cells
          dsimp only at e1 e2
          have hTd := HT.out.later api (Below.refl _ _).drew
          have HTD := Lib.hid hTd
          have HF := Lib.hid (HT0.out.facts HP.out)
          have HLT := Lib.hid (show ∀ k, (O k ∨ rpY G q' xr v k) → k < wr.heap.size from fun k hk => by
            rcases hk with a | a | a | a | a
            · exact HT0.out.pg.lt k a
            · exact HT0.out.R.ref.lt k a
            · have := HT0.out.R.log.cells.2.2.2; omega
            · have := HT0.out.R.cells.2.2.2; omega
            · obtain ⟨vs0, hrow0, _⟩ := HT0.out.R.row.row
              exact (own_at hrow0 k a).2)
          have tok1 : True := trivial
          clear hTd hKd kc0 kc1 kc2
          go_wp2_with fail
          go_region_held3 (fun w' => w'.cell? ⟨wr.heap.size, 1, none⟩ = some (.int .i64 di) ∧ w'.cell? ⟨wr.heap.size, 2, none⟩ = some (.int .u8 dc))
            (first | with_reducible exact y7 | with_reducible exact y6 | with_reducible exact y5 | with_reducible exact y4 | exact ⟨e1, e2⟩)
            (first
              | (have _t := tok1; go_at_call 13; refine (page_any dc HD4.out.2 _).mono ?_; clear tok1; rintro e w4 ⟨g4, rfl, hg4, hr4, hb4⟩; have h4 := HTD.out.later api hb4; have hs4 := hb4.size; have y4 : w4.cell? ⟨wr.heap.size, 1, none⟩ = some (.int .i64 di) ∧ w4.cell? ⟨wr.heap.size, 2, none⟩ = some (.int .u8 dc) := ⟨(hb4.cell (p := ⟨wr.heap.size, 1, none⟩) hel).trans e1, (hb4.cell (p := ⟨wr.heap.size, 2, none⟩) hel).trans e2⟩)
              | (go_at_call 12; refine (TwoPg.set (c := 240) api h4 di HD4.out.1 hr4 (Nat.le_refl _) (by decide)).mono ?_; rintro e w5 ⟨rfl, O5, h5, t5, n5⟩; have hno5 : ¬ O wr.heap.size := fun ho => Nat.lt_irrefl _ (HLT.out _ (.inl ho)); have hl4 := Nat.lt_of_lt_of_le hel hs4; have y5 : w5.cell? ⟨wr.heap.size, 1, none⟩ = some (.int .i64 di) ∧ w5.cell? ⟨wr.heap.size, 2, none⟩ = some (.int .u8 dc) := ⟨(World.cell?_of_block (a := ⟨wr.heap.size, 1, none⟩) (t5.block _ hl4 hno5)).trans y4.1, (World.cell?_of_block (a := ⟨wr.heap.size, 2, none⟩) (t5.block _ hl4 hno5)).trans y4.2⟩; have tok2 : True := trivial)
              | (have _t := tok2; go_at_call 13; refine (page_any dc HD4.out.2 _).mono ?_; clear tok2; rintro e w6 ⟨g6, rfl, hg6, hr6, hb6⟩; have h6 := h5.later api hb6; have hl5 := Nat.lt_of_lt_of_le hl4 t5.size; have y6 : w6.cell? ⟨wr.heap.size, 1, none⟩ = some (.int .i64 di) ∧ w6.cell? ⟨wr.heap.size, 2, none⟩ = some (.int .u8 dc) := ⟨(hb6.cell (p := ⟨wr.heap.size, 1, none⟩) hl5).trans y5.1, (hb6.cell (p := ⟨wr.heap.size, 2, none⟩) hl5).trans y5.2⟩)
              | (go_at_call 14; refine (TwoPg.rset (c := 240) api h6 (by have := HF.out.1; omega) di hr6 (Nat.le_refl _) (by decide)).mono ?_; rintro e w7 ⟨rfl, G7, v7, h7, t7⟩; have hno7 : ¬ rpY G q' xr v wr.heap.size := fun ho => Nat.lt_irrefl _ (HLT.out _ (.inr ho)); have hl6 := Nat.lt_of_lt_of_le hl5 hb6.size; have y7 : w7.cell? ⟨wr.heap.size, 1, none⟩ = some (.int .i64 di) ∧ w7.cell? ⟨wr.heap.size, 2, none⟩ = some (.int .u8 dc) := ⟨(World.cell?_of_block (a := ⟨wr.heap.size, 1, none⟩) (t7.block _ hl6 hno7)).trans y6.1, (World.cell?_of_block (a := ⟨wr.heap.size, 2, none⟩) (t7.block _ hl6 hno7)).trans y6.2⟩))
          have HZ : Hid (LInv n (k + 1) S ∧ (0 ≤ s ∧ s ≤ 1 + ((k + 1 : Nat) : Int)) ∧ TwoPg D w w7 F O5 G7 p xa S S q q' s s r b xr v7 (setPg S L di (reps 240 dc)) (setPg S L di (reps 240 dc))) := Lib.hid ⟨HII.out.1.same, ⟨HII.out.2.1, by have := HII.out.2.2; omega⟩, h7⟩
          clear h4 h5 h6 h7 hr4 hr6 hb4 hb6 t5 t7 n5 y4 y5 y6 y7 e1 e2 hel hl4 hl5 hl6 hno5 hno7 hg4 hg6 hs4 HTD HLT HF
          first | clear kc0 kc1 kc2 | skip
          clear HT HT0 HII HX HKB hkl HD4
          obtain ⟨hIz, hsz, hTz⟩ := HZ.out
          have hfz := hTz.facts (hIz.pages HN.out.2)
          have hTd := hTz.later api (Below.refl _ _).drew
          have HC1 := Lib.hid (pchanged_any api hTd.pg)
          have HF := Lib.hid hfz
          have HTD := Lib.hid hTd
          have y0 : (w7.drew).cell? ⟨xr, 0, none⟩ = some (.pointer (some ⟨q', 0, none⟩)) := hTd.R.cells.1
          clear hIz hsz hTz hfz hTd
          go_wp2_with fail
          go_region_held3 (fun w' => w'.cell? ⟨xr, 0, none⟩ = some (.pointer (some ⟨q', 0, none⟩)))
            (first | with_reducible exact y3 | with_reducible exact y2 | with_reducible exact y1 | exact y0)
            (first
              | (go_at_call 22; refine HC1.out.mono ?_; rintro e w21 ⟨A21, c21, rfl, hc21, hr21, hb21⟩; have hT1 := HTD.out.later api hb21; have y1 : w21.cell? ⟨xr, 0, none⟩ = some (.pointer (some ⟨q', 0, none⟩)) := hT1.R.cells.1)
              | (go_at_call 23; refine (rpchanged_any hT1.R (by have := HF.out.1; omega) HF.out.2.2.2).mono ?_; rintro e w22 ⟨A22, c22, rfl, hc22, hr22, hb22⟩; have hT2 := hT1.later api hb22; have hr21b := hr21.below hb22; have y2 : w22.cell? ⟨xr, 0, none⟩ = some (.pointer (some ⟨q', 0, none⟩)) := hT2.R.cells.1)
              | (go_at_call 21; refine (EqualInts_any c21 c22 hr21b hr22 (by have := HF.out.1; unfold maxLen; omega) (by have := HF.out.1; unfold maxLen; omega) hb22.size (Nat.le_refl _)).mono ?_; rintro e w23 ⟨rfl, hb23⟩; have hT3 := hT2.later api hb23; have hdec := decide_eq_true (rfl : ((setPg S L di (reps 240 dc))).map (·.1) = ((setPg S L di (reps 240 dc))).map (·.1)); have y3 : w23.cell? ⟨xr, 0, none⟩ = some (.pointer (some ⟨q', 0, none⟩)) := hT3.R.cells.1)
              | (go_at_call 24; refine (ppages_any api hT3.pg).mono ?_; rintro e w24 ⟨rfl, hw24⟩; subst hw24)
              | (go_at_call 25; refine (refLogPages_any hT3.R.ref hT3.R.log).mono ?_; rintro e w25 ⟨rfl, hw25⟩; subst hw25))
          have HE := Lib.hid (show PLInv D w n (k + 1) p xa q q' r b xr _ from ⟨S, s, F, O5, G7, v7, (setPg S L di (reps 240 dc)), HZ.out.1, HZ.out.2.1, hT3⟩)
          clear hT1 hT2 hT3 hr21 hr21b hr22 hb21 hb22 hb23 y0 y1 y2 y3 HC1
          go_wp2
          go_roundw
          case rel => exact ⟨k + 1, by omega, by go_num, HE⟩
          case measure => simp [intOf]; omega
      · have n0 : (dop == 0) = false := by rw [beq_eq_false_iff_ne]; omega
        have n1 : (dop == 1) = false := by rw [beq_eq_false_iff_ne]; omega
        have n2 : (dop == 2) = false := by rw [beq_eq_false_iff_ne]; omega
        clear hset
        by_cases h3 : dop = 3
        · have k3 : (dop == 3) = true := by simpa using h3
          clear h3
          have HF := Lib.hid (HT0.out.facts HP.out)
          have HG := Lib.hid (pget_any api HT.out.pg HT.out.tabF di HD4.out.1)
          go_wp2_with fail
          refine HG.out.mono ?_
          rintro e w4 ⟨A4, n4, c4, rfl, hc4, hr4, hb4⟩
          have HR4 := Lib.hid hr4
          have h4 := HT.out.later api hb4
          have y1 := (hb4.cell (p := ⟨wr.heap.size, 1, none⟩) hkl).trans kc1
          have HG2 := Lib.hid (rpget_any h4.R (by have := HF.out.1; omega) HF.out.2.2.1 di)
          have H4 := Lib.hid h4
          clear h4 hr4 hb4 HG
          go_wp2_with fail
          refine HG2.out.mono ?_
          rintro e w5 ⟨A5, n5, c5, rfl, hc5, hr5, hb5⟩
          have HEQ := Lib.hid (Equal_any c4 c5 (HR4.out.below hb5) hr5)
          rw [decide_eq_true (rfl : (getPg S L di).1 = (getPg S L di).1)] at HEQ
          have HZ : Hid (LInv n (k + 1) S ∧ (0 ≤ s ∧ s ≤ 1 + ((k + 1 : Nat) : Int)) ∧ TwoPg D w w5 F O G p xa S S q q' s s r b xr v L L) := Lib.hid ⟨HII.out.1.same, ⟨HII.out.2.1, by have := HII.out.2.2; omega⟩, H4.out.later api hb5⟩
          clear hr5 hb5 y1 HG2 H4 HR4 HF
          go_wp2_with fail
          refine HEQ.out.mono ?_
          rintro e w6 ⟨rfl, rfl⟩
          clear HEQ
          first | clear kc0 kc1 kc2 | skip
          clear HT HT0 HII HX HKB hkl HD4
          obtain ⟨hIz, hsz, hTz⟩ := HZ.out
          have hfz := hTz.facts (hIz.pages HN.out.2)
          have hTd := hTz.later api (Below.refl _ _).drew
          have HC1 := Lib.hid (pchanged_any api hTd.pg)
          have HF := Lib.hid hfz
          have HTD := Lib.hid hTd
          have y0 : (w5.drew).cell? ⟨xr, 0, none⟩ = some (.pointer (some ⟨q', 0, none⟩)) := hTd.R.cells.1
          clear hIz hsz hTz hfz hTd
          go_wp2_with fail
          go_region_held3 (fun w' => w'.cell? ⟨xr, 0, none⟩ = some (.pointer (some ⟨q', 0, none⟩)))
            (first | with_reducible exact y3 | with_reducible exact y2 | with_reducible exact y1 | exact y0)
            (first
              | (go_at_call 22; refine HC1.out.mono ?_; rintro e w21 ⟨A21, c21, rfl, hc21, hr21, hb21⟩; have hT1 := HTD.out.later api hb21; have y1 : w21.cell? ⟨xr, 0, none⟩ = some (.pointer (some ⟨q', 0, none⟩)) := hT1.R.cells.1)
              | (go_at_call 23; refine (rpchanged_any hT1.R (by have := HF.out.1; omega) HF.out.2.2.2).mono ?_; rintro e w22 ⟨A22, c22, rfl, hc22, hr22, hb22⟩; have hT2 := hT1.later api hb22; have hr21b := hr21.below hb22; have y2 : w22.cell? ⟨xr, 0, none⟩ = some (.pointer (some ⟨q', 0, none⟩)) := hT2.R.cells.1)
              | (go_at_call 21; refine (EqualInts_any c21 c22 hr21b hr22 (by have := HF.out.1; unfold maxLen; omega) (by have := HF.out.1; unfold maxLen; omega) hb22.size (Nat.le_refl _)).mono ?_; rintro e w23 ⟨rfl, hb23⟩; have hT3 := hT2.later api hb23; have hdec := decide_eq_true (rfl : (L).map (·.1) = (L).map (·.1)); have y3 : w23.cell? ⟨xr, 0, none⟩ = some (.pointer (some ⟨q', 0, none⟩)) := hT3.R.cells.1)
              | (go_at_call 24; refine (ppages_any api hT3.pg).mono ?_; rintro e w24 ⟨rfl, hw24⟩; subst hw24)
              | (go_at_call 25; refine (refLogPages_any hT3.R.ref hT3.R.log).mono ?_; rintro e w25 ⟨rfl, hw25⟩; subst hw25))
          have HE := Lib.hid (show PLInv D w n (k + 1) p xa q q' r b xr _ from ⟨S, s, F, O, G, v, L, HZ.out.1, HZ.out.2.1, hT3⟩)
          clear hT1 hT2 hT3 hr21 hr21b hr22 hb21 hb22 hb23 y0 y1 y2 y3 HC1
          go_wp2
          go_roundw
          case rel => exact ⟨k + 1, by omega, by go_num, HE⟩
          case measure => simp [intOf]; omega
        · have n3 : (dop == 3) = false := by simpa using h3
          clear h3
          by_cases h4 : dop = 4
          · have k4 : (dop == 4) = true := by simpa using h4
            clear h4
            have HF := Lib.hid (HT0.out.facts HP.out)
            have hsb : 0 ≤ s ∧ s < 4611686018427387904 := by have := HII.out.2; omega
            have hwb : S.writes ≤ 9223372036854500000 := by have := HII.out.1.writes; omega
            have HLC := Lib.hid (HII.out.1.commit (seq := s) (l := L) HII.out.2 (by omega) HF.out.2.1 (by have := HF.out.1; omega))
            have HG := Lib.hid (HT.out.commit api hsb hwb)
            go_wp2_with fail
            refine HG.out.mono ?_
            rintro e w4 ⟨rfl, F4, O4, h4⟩
            have HG2 := Lib.hid (h4.rcommit api HF.out.2.1 (by have := HF.out.1; omega) hsb hwb)
            clear h4 HG
            go_wp2_with fail
            refine HG2.out.mono ?_
            rintro e w5 ⟨rfl, G5, v5, h5⟩
            have HZ : Hid (LInv n (k + 1) (commitS S s L).2.2 ∧ (0 ≤ (commitS S s L).2.1 ∧ (commitS S s L).2.1 ≤ 1 + ((k + 1 : Nat) : Int)) ∧ TwoPg D w w5 F4 O4 G5 p xa (commitS S s L).2.2 (commitS S s L).2.2 q q' (commitS S s L).2.1 (commitS S s L).2.1 r b xr v5 (leftPg S s L) (leftPg S s L)) := Lib.hid ⟨HLC.out.1, HLC.out.2, h5⟩
            clear h5 HG2 HLC HF hsb hwb
            generalize leftPg S s L = L5 at HZ
            generalize (commitS S s L).2.2 = S5 at HZ
            generalize (commitS S s L).2.1 = s5 at HZ
            first | clear kc0 kc1 kc2 | skip
            clear HT HT0 HII HX HKB hkl HD4
            obtain ⟨hIz, hsz, hTz⟩ := HZ.out
            have hfz := hTz.facts (hIz.pages HN.out.2)
            have hTd := hTz.later api (Below.refl _ _).drew
            have HC1 := Lib.hid (pchanged_any api hTd.pg)
            have HF := Lib.hid hfz
            have HTD := Lib.hid hTd
            have y0 : (w5.drew).cell? ⟨xr, 0, none⟩ = some (.pointer (some ⟨q', 0, none⟩)) := hTd.R.cells.1
            clear hIz hsz hTz hfz hTd
            go_wp2_with fail
            go_region_held3 (fun w' => w'.cell? ⟨xr, 0, none⟩ = some (.pointer (some ⟨q', 0, none⟩)))
              (first | with_reducible exact y3 | with_reducible exact y2 | with_reducible exact y1 | exact y0)
              (first
                | (go_at_call 22; refine HC1.out.mono ?_; rintro e w21 ⟨A21, c21, rfl, hc21, hr21, hb21⟩; have hT1 := HTD.out.later api hb21; have y1 : w21.cell? ⟨xr, 0, none⟩ = some (.pointer (some ⟨q', 0, none⟩)) := hT1.R.cells.1)
                | (go_at_call 23; refine (rpchanged_any hT1.R (by have := HF.out.1; omega) HF.out.2.2.2).mono ?_; rintro e w22 ⟨A22, c22, rfl, hc22, hr22, hb22⟩; have hT2 := hT1.later api hb22; have hr21b := hr21.below hb22; have y2 : w22.cell? ⟨xr, 0, none⟩ = some (.pointer (some ⟨q', 0, none⟩)) := hT2.R.cells.1)
                | (go_at_call 21; refine (EqualInts_any c21 c22 hr21b hr22 (by have := HF.out.1; unfold maxLen; omega) (by have := HF.out.1; unfold maxLen; omega) hb22.size (Nat.le_refl _)).mono ?_; rintro e w23 ⟨rfl, hb23⟩; have hT3 := hT2.later api hb23; have hdec := decide_eq_true (rfl : (L5).map (·.1) = (L5).map (·.1)); have y3 : w23.cell? ⟨xr, 0, none⟩ = some (.pointer (some ⟨q', 0, none⟩)) := hT3.R.cells.1)
                | (go_at_call 24; refine (ppages_any api hT3.pg).mono ?_; rintro e w24 ⟨rfl, hw24⟩; subst hw24)
                | (go_at_call 25; refine (refLogPages_any hT3.R.ref hT3.R.log).mono ?_; rintro e w25 ⟨rfl, hw25⟩; subst hw25))
            have HE := Lib.hid (show PLInv D w n (k + 1) p xa q q' r b xr _ from ⟨S5, s5, F4, O4, G5, v5, L5, HZ.out.1, HZ.out.2.1, hT3⟩)
            clear hT1 hT2 hT3 hr21 hr21b hr22 hb21 hb22 hb23 y0 y1 y2 y3 HC1
            go_wp2
            go_roundw
            case rel => exact ⟨k + 1, by omega, by go_num, HE⟩
            case measure => simp [intOf]; omega
          · have n4 : (dop == 4) = false := by simpa using h4
            clear h4
            by_cases h5 : dop = 5
            · have k5 : (dop == 5) = true := by simpa using h5
              clear h5
              have HG := Lib.hid (HT.out.abort api)
              go_wp2_with fail
              refine HG.out.mono ?_
              rintro e w4 ⟨rfl, h4⟩
              obtain ⟨_, x1, x2, x3⟩ := h4.R.cells
              have HZ : Hid (LInv n (k + 1) S ∧ (0 ≤ s ∧ s ≤ 1 + ((k + 1 : Nat) : Int)) ∧ TwoPg D w (w4.setCell ⟨xr, 1, none⟩ (.slice none 0 0)) F O G p xa S S q q' s s r b xr (.slice none 0 0) [] []) := Lib.hid ⟨HII.out.1.same, ⟨HII.out.2.1, by have := HII.out.2.2; omega⟩, h4.nilled api⟩
              generalize hL5 : ([] : List (Int × List Int)) = L5 at HZ
              clear h4 HG hL5
              first | clear kc0 kc1 kc2 | skip
              clear HT HT0 HII HX HKB hkl HD4
              obtain ⟨hIz, hsz, hTz⟩ := HZ.out
              have hfz := hTz.facts (hIz.pages HN.out.2)
              have hTd := hTz.later api (Below.refl _ _).drew
              have HC1 := Lib.hid (pchanged_any api hTd.pg)
              have HF := Lib.hid hfz
              have HTD := Lib.hid hTd
              have y0 : ((w4.setCell ⟨xr, 1, none⟩ (.slice none 0 0)).drew).cell? ⟨xr, 0, none⟩ = some (.pointer (some ⟨q', 0, none⟩)) := hTd.R.cells.1
              clear hIz hsz hTz hfz hTd
              go_wp2_with fail
              go_region_held3 (fun w' => w'.cell? ⟨xr, 0, none⟩ = some (.pointer (some ⟨q', 0, none⟩)))
                (first | with_reducible exact y3 | with_reducible exact y2 | with_reducible exact y1 | exact y0)
                (first
                  | (go_at_call 22; refine HC1.out.mono ?_; rintro e w21 ⟨A21, c21, rfl, hc21, hr21, hb21⟩; have hT1 := HTD.out.later api hb21; have y1 : w21.cell? ⟨xr, 0, none⟩ = some (.pointer (some ⟨q', 0, none⟩)) := hT1.R.cells.1)
                  | (go_at_call 23; refine (rpchanged_any hT1.R (by have := HF.out.1; omega) HF.out.2.2.2).mono ?_; rintro e w22 ⟨A22, c22, rfl, hc22, hr22, hb22⟩; have hT2 := hT1.later api hb22; have hr21b := hr21.below hb22; have y2 : w22.cell? ⟨xr, 0, none⟩ = some (.pointer (some ⟨q', 0, none⟩)) := hT2.R.cells.1)
                  | (go_at_call 21; refine (EqualInts_any c21 c22 hr21b hr22 (by have := HF.out.1; unfold maxLen; omega) (by have := HF.out.1; unfold maxLen; omega) hb22.size (Nat.le_refl _)).mono ?_; rintro e w23 ⟨rfl, hb23⟩; have hT3 := hT2.later api hb23; have hdec := decide_eq_true (rfl : (L5).map (·.1) = (L5).map (·.1)); have y3 : w23.cell? ⟨xr, 0, none⟩ = some (.pointer (some ⟨q', 0, none⟩)) := hT3.R.cells.1)
                  | (go_at_call 24; refine (ppages_any api hT3.pg).mono ?_; rintro e w24 ⟨rfl, hw24⟩; subst hw24)
                  | (go_at_call 25; refine (refLogPages_any hT3.R.ref hT3.R.log).mono ?_; rintro e w25 ⟨rfl, hw25⟩; subst hw25))
              have HE := Lib.hid (show PLInv D w n (k + 1) p xa q q' r b xr _ from ⟨S, s, F, O, G, (.slice none 0 0), L5, HZ.out.1, HZ.out.2.1, hT3⟩)
              clear hT1 hT2 hT3 hr21 hr21b hr22 hb21 hb22 hb23 y0 y1 y2 y3 HC1
              go_wp2
              go_roundw
              case rel => exact ⟨k + 1, by omega, by go_num, HE⟩
              case measure => simp [intOf]; omega
            · have n5 : (dop == 5) = false := by simpa using h5
              clear h5
              have hE : setPgE S di [] = 1 := by unfold setPgE; rw [if_pos (.inr (.inr (by decide)))]
              have hL : setPg S L di [] = L := by unfold setPg; rw [if_pos (.inr (.inr (by decide)))]
              have hKd : Do7Blk ((wr.alloc (.cells #[.int .i64 dop, .int .i64 di, .int .u8 dc] 29))).drew wr.heap.size ⟨dop, di, dc⟩ := HKB.out
              obtain ⟨_, e1, _, hel⟩ := hKd.cells
              dsimp only at e1
              have hTd := HT.out.later api (Below.refl _ _).drew
              have HS5 := Lib.hid (hTd.set (A := none) (c := 0) api di HD4.out.1 (RB.nil_ (B := 0)) (Nat.zero_le _) (by decide))
              rw [hE, hL] at HS5
              have HEL := Lib.hid (And.intro hE hL)
              have HF := Lib.hid (HT0.out.facts HP.out)
              have HLT := Lib.hid (show ∀ k, (O k ∨ rpY G q' xr v k) → k < wr.heap.size from fun k hk => by
                rcases hk with a | a | a | a | a
                · exact HT0.out.pg.lt k a
                · exact HT0.out.R.ref.lt k a
                · have := HT0.out.R.log.cells.2.2.2; omega
                · have := HT0.out.R.cells.2.2.2; omega
                · obtain ⟨vs0, hrow0, _⟩ := HT0.out.R.row.row
                  exact (own_at hrow0 k a).2)
              clear hTd hKd kc0 kc1 kc2 hE hL
              go_wp2_with fail
              go_region_held3 (fun w' => w'.cell? ⟨wr.heap.size, 1, none⟩ = some (.int .i64 di))
                (first | with_reducible exact y7 | with_reducible exact y5 | exact e1)
                (first
                  | (go_at_call 12; refine HS5.out.mono ?_; rintro e w5 ⟨rfl, O5, h5, t5, n5⟩; have hno5 : ¬ O wr.heap.size := fun ho => Nat.lt_irrefl _ (HLT.out _ (.inl ho)); have y5 : w5.cell? ⟨wr.heap.size, 1, none⟩ = some (.int .i64 di) := (World.cell?_of_block (a := ⟨wr.heap.size, 1, none⟩) (t5.block _ hel hno5)).trans e1; have HS7 := (h5.rset (A := none) (c := 0) api (by have := HF.out.1; omega) di (RB.nil_ (B := 0)) (Nat.zero_le _) (by decide)); rw [HEL.out.1, HEL.out.2] at HS7)
                  | (go_at_call 14; refine HS7.mono ?_; rintro e w7 ⟨rfl, G7, v7, h7, t7⟩; have hno7 : ¬ rpY G q' xr v wr.heap.size := fun ho => Nat.lt_irrefl _ (HLT.out _ (.inr ho)); have hl5 := Nat.lt_of_lt_of_le hel t5.size; have y7 : w7.cell? ⟨wr.heap.size, 1, none⟩ = some (.int .i64 di) := (World.cell?_of_block (a := ⟨wr.heap.size, 1, none⟩) (t7.block _ hl5 hno7)).trans y5))
              have HZ : Hid (LInv n (k + 1) S ∧ (0 ≤ s ∧ s ≤ 1 + ((k + 1 : Nat) : Int)) ∧ TwoPg D w w7 F O5 G7 p xa S S q q' s s r b xr v7 L L) := Lib.hid ⟨HII.out.1.same, ⟨HII.out.2.1, by have := HII.out.2.2; omega⟩, h7⟩
              clear h5 h7 t5 t7 n5 y5 y7 e1 hel hl5 hno5 hno7 HS5 HS7 HLT HF HEL
              first | clear kc0 kc1 kc2 | skip
              clear HT HT0 HII HX HKB hkl HD4
              obtain ⟨hIz, hsz, hTz⟩ := HZ.out
              have hfz := hTz.facts (hIz.pages HN.out.2)
              have hTd := hTz.later api (Below.refl _ _).drew
              have HC1 := Lib.hid (pchanged_any api hTd.pg)
              have HF := Lib.hid hfz
              have HTD := Lib.hid hTd
              have y0 : (w7.drew).cell? ⟨xr, 0, none⟩ = some (.pointer (some ⟨q', 0, none⟩)) := hTd.R.cells.1
              clear hIz hsz hTz hfz hTd
              go_wp2_with fail
              go_region_held3 (fun w' => w'.cell? ⟨xr, 0, none⟩ = some (.pointer (some ⟨q', 0, none⟩)))
                (first | with_reducible exact y3 | with_reducible exact y2 | with_reducible exact y1 | exact y0)
                (first
                  | (go_at_call 22; refine HC1.out.mono ?_; rintro e w21 ⟨A21, c21, rfl, hc21, hr21, hb21⟩; have hT1 := HTD.out.later api hb21; have y1 : w21.cell? ⟨xr, 0, none⟩ = some (.pointer (some ⟨q', 0, none⟩)) := hT1.R.cells.1)
                  | (go_at_call 23; refine (rpchanged_any hT1.R (by have := HF.out.1; omega) HF.out.2.2.2).mono ?_; rintro e w22 ⟨A22, c22, rfl, hc22, hr22, hb22⟩; have hT2 := hT1.later api hb22; have hr21b := hr21.below hb22; have y2 : w22.cell? ⟨xr, 0, none⟩ = some (.pointer (some ⟨q', 0, none⟩)) := hT2.R.cells.1)
                  | (go_at_call 21; refine (EqualInts_any c21 c22 hr21b hr22 (by have := HF.out.1; unfold maxLen; omega) (by have := HF.out.1; unfold maxLen; omega) hb22.size (Nat.le_refl _)).mono ?_; rintro e w23 ⟨rfl, hb23⟩; have hT3 := hT2.later api hb23; have hdec := decide_eq_true (rfl : (L).map (·.1) = (L).map (·.1)); have y3 : w23.cell? ⟨xr, 0, none⟩ = some (.pointer (some ⟨q', 0, none⟩)) := hT3.R.cells.1)
                  | (go_at_call 24; refine (ppages_any api hT3.pg).mono ?_; rintro e w24 ⟨rfl, hw24⟩; subst hw24)
                  | (go_at_call 25; refine (refLogPages_any hT3.R.ref hT3.R.log).mono ?_; rintro e w25 ⟨rfl, hw25⟩; subst hw25))
              have HE := Lib.hid (show PLInv D w n (k + 1) p xa q q' r b xr _ from ⟨S, s, F, O5, G7, v7, L, HZ.out.1, HZ.out.2.1, hT3⟩)
              clear hT1 hT2 hT3 hr21 hr21b hr22 hb21 hb22 hb23 y0 y1 y2 y3 HC1
              go_wp2
              go_roundw
              case rel => exact ⟨k + 1, by omega, by go_num, HE⟩
              case measure => simp [intOf]; omega
    · obtain rfl : k = len := by omega
      obtain ⟨_, _, _, _, _, _, _, _, _, hT⟩ := hM.out
      have HB := Lib.hid hT.bel
      have HAW := Lib.hid (HAWK.out wr hT.bel)
      clear hT hM
      go_wp2_with fail
      refine HAW.out.mono ?_
      rintro e wD ⟨rfl, hbD⟩
      have HF := Lib.hid (HB.out.trans (hbD.mono HB.out.size))
      clear hbD
      go_wp2
      go_ret
      exact ⟨rfl, HF.out⟩
end

end Go.Proofs.YtkpmfobmlaldfaaGreatDoor
