/-
  Walk of PagerAborts, over any disk that answers as it is to: it returns true. Condition: the table that crc.Step reads holds what the program's text lays in it.
-/
import Derived.Test.YtenpmaagnljabaaGreatDoorG6
import Derived.Test.YtenpmaagnljabaaGreatDoorG7
import Derived.Test.YtenpmaagnljabaaGreatDoorG2
import Derived.Deep.RegionHeld3
namespace Go.Proofs.YtenpmaagnljabaaGreatDoor
open Go.RowKit
set_option maxRecDepth 100000
set_option linter.unusedVariables false

theorem and15 (x : Int) : bits .and .i64 x 15 = x % 16 := by
  simp only [bits]
  rw [IntKind.wrap_i64, BitVec.toNat_and, BitVec.toNat_ofInt, BitVec.toNat_ofInt]
  rw [show (2 : Nat) ^ IntKind.i64.bits = 18446744073709551616 from rfl]
  rw [show ((15 : Int) % ((18446744073709551616 : Nat) : Int)).toNat = 2 ^ 4 - 1 from rfl, Nat.and_two_pow_sub_one_eq_mod]
  omega

/-! ### what the pages are -/
theorem nought_not : ¬ isSec nought := by decide +kernel
theorem page_fresh {n p : Int} (hp : 0 ≤ p) : pageIn n fresh1 p = zpage := by
  have hn := (pagesOf_nn n).1
  have e : fresh1 (p + 1 + pagesOf n).toNat = nought := by
    unfold fresh1 putF
    rw [if_neg (by omega)]
  unfold pageIn
  rw [e]
  have : (unpackR nought).2.2.2 = 4 := by unfold unpackR; rw [if_neg nought_not]
  rw [if_pos (.inl (by rw [this]; decide))]
/-- What a law's first Commit leaves. -/
theorem commit_first {S : DS} {n : Nat} {L : List (Int × List Int)} (hn : S.n = n) (hn3 : 3 ≤ n) (hF : Free S) (hR : Rests S fresh1) (hup : Rising L) (hall : AllSet S L) :
    (commitS S 1 L).1 = 0 ∧ ∀ j : Int, 0 ≤ j → j < pagesOf n → loadS (commitS S 1 L).2.2 j = ((atL L j).getD zpage, 0) := by
  by_cases hne : L = []
  · subst hne
    rw [commit_nil]
    refine ⟨rfl, fun j h0 h1 => ?_⟩
    show loadS S j = _
    rw [load_rests (n := S.n) rfl hR ⟨h0, by rw [hn]; exact h1⟩, page_fresh h0]
    rfl
  · have hI := imgs_of (seq := 1) hup hall (by decide)
    obtain ⟨h1, h2, h3, h4, h5, h6⟩ := free_commit (n := S.n) rfl (by rw [hn]; omega) hI hne hF hR
    refine ⟨h1, fun j j0 j1 => ?_⟩
    rw [load_rests (n := S.n) (by rw [h4]) h6 ⟨j0, by rw [hn]; exact j1⟩]
    obtain ⟨m1, m2⟩ := pages_marked (f := fresh1) hI
    cases ha : atL L j with
    | some l => rw [m1 (j, l) (atL_mem ha)]; rfl
    | none =>
      rw [m2 j j0 (by rw [hn]; exact j1) (fun x hx e => by
        have := hup.at_ (i := x.1) (l := x.2) hx
        rw [e, ha] at this
        cases this), page_fresh j0]
      rfl

/-! ### the law's array of bytes -/
def ABlk (w : World) (g : Nat) (l : List Int) : Prop := w.heap[g]? = some (.cells (l.map (Value.int .u8)).toArray 47 (0, 0))
theorem ABlk.lt {w : World} {g : Nat} {l : List Int} (h : ABlk w g l) : g < w.heap.size := (Array.getElem?_eq_some_iff.1 h).1
theorem ABlk.keep {w w' : World} {g : Nat} {l : List Int} (h : ABlk w g l) (e : w'.heap[g]? = w.heap[g]?) : ABlk w' g l := e.trans h
theorem ABlk.cell {w : World} {g : Nat} {l : List Int} (h : ABlk w g l) {j : Nat} {x : Int} (hj : l[j]? = some x) : w.cell? ⟨g, j, none⟩ = some (.int .u8 x) := by
  rw [cell_of_row w g j _ _ (0, 0) h, List.getElem?_toArray, List.getElem?_map, hj]
  rfl
theorem ABlk.frozen {w : World} {g : Nat} {l : List Int} (h : ABlk w g l) (j : Nat) : w.frozen? ⟨g, j, none⟩ = false := by
  have h' : w.heap[g]? = _ := h
  simp [World.frozen?, h']
theorem ABlk.set {w : World} {g : Nat} {l : List Int} (h : ABlk w g l) (j : Nat) (x : Int) : ABlk (w.setCell ⟨g, j, none⟩ (.int .u8 x)) g (l.set j x) := by
  unfold ABlk
  rw [heap_setCell_same w g j _ _ _ h]
  congr 2
  rw [← Array.toList_inj]
  simp [List.map_set]

/-- What was set is what is wanted. -/
def Wanted (L : List (Int × List Int)) (W : List Int) : Prop := W.length = 16 ∧ AllBytes W ∧ ∀ j : Nat, j < 16 → (atL L (j : Int)).getD zpage = reps 240 (W[j]?.getD 0)
theorem Wanted.start : Wanted [] (reps 16 0) := ⟨reps_length _ _, reps_bytes _ (by decide), fun j hj => by
  rw [reps_getD hj]; rfl⟩
theorem Wanted.next {S : DS} {L : List (Int × List Int)} {W : List Int} (h : Wanted L W) (hP : S.P = 16) {q : Nat} (hq : q < 16) {c : Int} (hc : 0 ≤ c ∧ c < 256) : setPgE S (q : Int) (reps 240 c) = 0 ∧ Wanted (setPg S L (q : Int) (reps 240 c)) (W.set q c) := by
  have hl : (reps 240 c).length = 240 := reps_length _ _
  have hno : ¬ ((q : Int) < 0 ∨ (q : Int) ≥ S.P ∨ (reps 240 c).length ≠ 240) := by rw [hP, hl]; omega
  refine ⟨if_neg hno, by rw [List.length_set]; exact h.1, fun x hx => ?_, fun j hj => ?_⟩
  · rcases List.mem_or_eq_of_mem_set hx with a | a
    · exact h.2.1 x a
    · rw [a]; exact hc
  · unfold setPg
    rw [if_neg hno, atL_setL]
    by_cases e : j = q
    · subst e
      rw [if_pos rfl, List.getElem?_set_self (by rw [h.1]; exact hj)]
      rfl
    · rw [if_neg (by omega), List.getElem?_set_ne (fun e' => e e'.symm)]
      exact h.2.2 j hj

section
variable {D : World → (Nat → Prop) → Addr → DS → Prop}

/-- A block apart from the pager's was written. -/
theorem LawP.poke (api : DiskApi D) {w0 w : World} {F O : Nat → Prop} {p : Addr} {S : DS} {q r b : Nat} {s : Int} {L : List (Int × List Int)} (h : LawP D w0 w F O p S q s r b L) {g i : Nat} {v : Value} (hn : ¬ O g) (hg : w0.heap.size ≤ g) : LawP D w0 (w.setCell ⟨g, i, none⟩ v) F O p S q s r b L :=
  ⟨h.pg.keep api (by simp) (fun k hk => Below.heap_setCell _ _ _ _ (fun e => hn (by have : k = g := e; rw [← this]; exact hk))), h.out, h.bel.setCell hg _, h.tab⟩

/-- One step of the law's first or second loop, ahead of the store. -/
def KCells (w : World) (kb : Nat) (d : Do7) : Prop := w.cell? ⟨kb, 1, none⟩ = some (.int .i64 d.i) ∧ w.cell? ⟨kb, 2, none⟩ = some (.int .u8 d.b)

set_option maxHeartbeats 16000000 in
theorem pagerAborts_walk (api : DiskApi D) {w : World} {A1 A2 : Option Addr} {len1 cap1 len2 cap2 : Nat} {ds1 ds2 : List Do7} (hr1 : RDos7 w w.heap.size A1 len1 ds1) (hc1 : len1 ≤ cap1) (hm1 : len1 ≤ maxLen) (hr2 : RDos7 w w.heap.size A2 len2 ds2) (hc2 : len2 ≤ cap2) (hm2 : len2 ≤ maxLen) (ht : Tab w ∧ 1 < w.heap.size) :
    Calls Tryz.prog 4 #[.slice A1 len1 cap1, .slice A2 len2 cap2] w fun e w' => e = .returned (.bool true) ∧ Below w.heap.size w w' := by
  unfold maxLen at hm1 hm2
  obtain ⟨r4, r5, r6, r7⟩ := S0_facts (n := 33) (by decide)
  have HFR := Lib.hid (fresh_any api (n := 33) (by decide) w ht)
  rw [show ((33 : Nat) : Int) = 33 from rfl] at HFR
  have HR1 := Lib.hid hr1
  have HR2 := Lib.hid hr2
  clear hr1 hr2
  generalize S0 33 = S at *
  have HAWK := Lib.hid (fun w1 (hb : Below w.heap.size w w1) => pgAwake_any api w1 ⟨ht.1.below hb ht.2, Nat.lt_of_lt_of_le ht.2 hb.size⟩)
  have HS := Lib.hid (And.intro r4 (And.intro r5 (And.intro r6 r7)))
  have hP : S.P = 16 := by unfold DS.P; rw [r5]; decide
  have HP := Lib.hid hP
  clear r4 r5 r6 r7 hP
  by_cases h1 : len1 ≤ 40
  · have k1 : decide ((len1 : Int) > 40) = false := by simp; omega
    by_cases h2 : len2 ≤ 40
    · have k2 : decide ((len2 : Int) > 40) = false := by simp; omega
      go_enter Tryz.func4, Tryz.ntmps4
      go_wp2_with fail
      refine HFR.out.mono ?_
      rintro e w1 ⟨r, xr, b, q, q', F, O, G, p, xa, rfl, hT⟩
      have H1 := Lib.hid hT.toLawP
      have hOl := hT.pg.lt
      clear hT HFR
      have hX1 : Below w1.heap.size w1 (w1.alloc (.cells #[.int .u8 0, .int .u8 0, .int .u8 0, .int .u8 0, .int .u8 0, .int .u8 0, .int .u8 0, .int .u8 0, .int .u8 0, .int .u8 0, .int .u8 0, .int .u8 0, .int .u8 0, .int .u8 0, .int .u8 0, .int .u8 0] 47)) := (Below.refl _ _).alloc (Nat.le_refl _) _
      have HM0 : Hid (LawP D w (w1.alloc (.cells #[.int .u8 0, .int .u8 0, .int .u8 0, .int .u8 0, .int .u8 0, .int .u8 0, .int .u8 0, .int .u8 0, .int .u8 0, .int .u8 0, .int .u8 0, .int .u8 0, .int .u8 0, .int .u8 0, .int .u8 0, .int .u8 0] 47)) F O p S q 1 r b [] ∧ Wanted [] (reps 16 0) ∧ ABlk (w1.alloc (.cells #[.int .u8 0, .int .u8 0, .int .u8 0, .int .u8 0, .int .u8 0, .int .u8 0, .int .u8 0, .int .u8 0, .int .u8 0, .int .u8 0, .int .u8 0, .int .u8 0, .int .u8 0, .int .u8 0, .int .u8 0, .int .u8 0] 47)) w1.heap.size (reps 16 0) ∧ ¬ O w1.heap.size) :=
        Lib.hid ⟨H1.out.later api hX1, Wanted.start, heap_alloc_new _ _, fun ho => by have := hOl _ ho; omega⟩
      have hw1 := H1.out.bel.size
      clear hX1 hOl H1
      go_wp2_with fail
      go_loopw [38] (fun i wr => ∃ (k : Nat) (L : List (Int × List Int)) (W : List Int) (O : Nat → Prop), k ≤ len1 ∧ i = .int .i64 k ∧ Hid (LawP D w wr F O p S q 1 r b L ∧ Wanted L W ∧ ABlk wr w1.heap.size W ∧ ¬ O w1.heap.size)) (fun i _ => len1 - (intOf i).toNat)
      case atStart => exact ⟨0, [], _, O, Nat.zero_le _, rfl, HM0⟩
      case round =>
        clear HM0
        obtain ⟨k, L, W, O, hk, rfl, hM⟩ := hrel
        by_cases hlt : k < len1
        · have HA := Lib.hid hM.out.2.2
          have hlt' : (k : Int) < (len1 : Int) := by omega
          obtain ⟨db, doff, rfl, hdb, hdat⟩ := HR1.out.2 (by omega)
          obtain ⟨d, hd, hdo⟩ := hdat k hlt
          have hbel := hM.out.1.bel
          obtain ⟨d0, d1, d2, _, d4, d5⟩ := hdo.keep hdb (fun b o hbb => hbel.cell (p := ⟨b, o, none⟩) hbb)
          obtain ⟨qq, hqq⟩ : ∃ qq : Nat, d.i % 16 = qq := Int.eq_ofNat_of_zero_le (by omega)
          have hq16 : (qq : Int) < 16 := by omega
          have hq0 : (0 : Int) ≤ (qq : Int) := by omega
          have hand : bits .and .i64 d.i 15 = (qq : Int) := by rw [and15, hqq]
          have hYd : Below wr.heap.size wr (wr.alloc (.cells #[.int .i64 d.op, .int .i64 d.i, .int .u8 d.b] 29)).drew := ((Below.refl _ _).alloc (Nat.le_refl _) _).drew
          have hkb : Do7Blk (wr.alloc (.cells #[.int .i64 d.op, .int .i64 d.i, .int .u8 d.b] 29)).drew wr.heap.size d := heap_alloc_new wr _
          obtain ⟨_, kc1, kc2, hkl⟩ := hkb.cells
          have HD4 := Lib.hid (And.intro d4 (And.intro d5 hqq))
          have HYd := Lib.hid hYd
          have hOk : Hid (∀ k, O k → k < wr.heap.size) := Lib.hid hM.out.1.pg.lt
          have hsY : (wr.alloc (.cells #[.int .i64 d.op, .int .i64 d.i, .int .u8 d.b] 29)).drew.heap.size = wr.heap.size + 1 := by show (wr.alloc _).heap.size = _; simp
          clear hdat hd hdo hbel d4 d5 hqq hYd hkb
          go_wp2_with fail
          go_region_held3 (fun w' => w'.cell? ⟨wr.heap.size, 1, none⟩ = some (.int .i64 d.i) ∧ w'.cell? ⟨wr.heap.size, 2, none⟩ = some (.int .u8 d.b))
            (first | with_reducible exact c5 | with_reducible exact c4 | exact ⟨kc1, kc2⟩)
            (first
              | (go_at_call 9; refine (page_any d.b HD4.out.2.1 _).mono ?_; rintro e w4 ⟨g4, rfl, hg4, hr4, hb4⟩; have hb4' : Below wr.heap.size wr w4 := HYd.out.trans (hb4.mono HYd.out.size); have hs4 : wr.heap.size + 1 ≤ w4.heap.size := hsY ▸ hb4.size; have c4 : w4.cell? ⟨wr.heap.size, 1, none⟩ = some (.int .i64 d.i) ∧ w4.cell? ⟨wr.heap.size, 2, none⟩ = some (.int .u8 d.b) := ⟨(hb4.cell (p := ⟨wr.heap.size, 1, none⟩) hkl).trans kc1, (hb4.cell (p := ⟨wr.heap.size, 2, none⟩) hkl).trans kc2⟩; have h4 := hM.out.1.later api hb4')
              | (go_at_call 8; refine (lset (c := 240) api h4 (qq : Int) (by omega) hr4 (Nat.le_refl _) (by decide)).mono ?_; rintro e w5 ⟨rfl, O5, h5, t5, n5⟩; have hkO : ¬ O wr.heap.size := fun ho => (by have := hOk.out _ ho; omega); have c5 : w5.cell? ⟨wr.heap.size, 1, none⟩ = some (.int .i64 d.i) ∧ w5.cell? ⟨wr.heap.size, 2, none⟩ = some (.int .u8 d.b) := ⟨(World.cell?_of_block (a := ⟨wr.heap.size, 1, none⟩) (t5.block _ hs4 hkO)).trans c4.1, (World.cell?_of_block (a := ⟨wr.heap.size, 2, none⟩) (t5.block _ hs4 hkO)).trans c4.2⟩))
          have hwn := hM.out.2.1.next HP.out (q := qq) (by omega) HD4.out.2.1
          have hwl := HA.out.1.lt
          have hA4 := HA.out.1.keep (hb4'.block _ hwl)
          have hA5 := hA4.keep (t5.block _ hA4.lt HA.out.2)
          have hO5 : ¬ O5 w1.heap.size := fun ho => by
            rcases n5 _ ho with a | a
            · exact HA.out.2 a
            · have := hA4.lt; omega
          obtain ⟨old, hold⟩ : ∃ u, w5.cell? ⟨w1.heap.size, qq, none⟩ = some (.int .u8 u) := by
            have hWl := hM.out.2.1.1
            exact ⟨_, hA5.cell (List.getElem?_eq_getElem (show qq < W.length by omega))⟩
          have hfz := hA5.frozen qq
          obtain ⟨e1, e2⟩ := c5
          have HE := Lib.hid (show LawP D w (w5.setCell ⟨w1.heap.size, qq, none⟩ (.int .u8 d.b)) F O5 p S q 1 r b (setPg S L (qq : Int) (reps 240 d.b)) ∧ Wanted (setPg S L (qq : Int) (reps 240 d.b)) (W.set qq d.b) ∧ ABlk (w5.setCell ⟨w1.heap.size, qq, none⟩ (.int .u8 d.b)) w1.heap.size (W.set qq d.b) ∧ ¬ O5 w1.heap.size from ⟨h5.poke api hO5 hw1, hwn.2, hA5.set qq d.b, hO5⟩)
          clear c4 h4 hr4 hb4 hb4' h5 t5 n5 hwn hwl hA4 hA5 hO5 hM HA kc1 kc2
          go_wp2
          go_roundw
          case rel => exact ⟨k + 1, _, _, O5, by omega, by go_num, HE⟩
          case measure => simp [intOf]; omega
        · obtain rfl : k = len1 := by omega
          obtain ⟨z0, z1⟩ := commit_first (n := 33) (L := L) HS.out.2.1 (by decide) HS.out.1 HS.out.2.2.2 hM.out.1.pg.up hM.out.1.pg.all
          have HC := Lib.hid (lcommit api hM.out.1 (by decide) (by have := HS.out.2.2.1; omega))
          rw [z0, show leftPg S 1 L = [] from if_pos z0] at HC
          have HZ := Lib.hid z1
          have HA := Lib.hid (And.intro hM.out.2.1 hM.out.2.2)
          clear z0 z1 hM
          go_wp2_with fail
          refine HC.out.mono ?_
          rintro e w6 ⟨rfl, F6, O6, h6, t6, n6⟩
          have HM6 : Hid (LawP D w w6 F6 O6 p (commitS S 1 L).2.2 q (commitS S 1 L).2.1 r b [] ∧ ABlk w6 w1.heap.size W ∧ ¬ O6 w1.heap.size) := Lib.hid ⟨h6, HA.out.2.1.keep (t6.block _ HA.out.2.1.lt HA.out.2.2), fun ho => by
            rcases n6 _ ho with a | a
            · exact HA.out.2.2 a
            · have := HA.out.2.1.lt; omega⟩
          have HW6 := Lib.hid HA.out.1
          clear h6 t6 n6 HC HA
          generalize (commitS S 1 L).2.2 = S' at *
          generalize (commitS S 1 L).2.1 = s' at *
          go_wp2_with fail
          go_loopw [62] (fun i wr => ∃ (k : Nat) (L : List (Int × List Int)) (O : Nat → Prop), k ≤ len2 ∧ i = .int .i64 k ∧ Hid (LawP D w wr F6 O p S' q s' r b L ∧ ABlk wr w1.heap.size W ∧ ¬ O w1.heap.size)) (fun i _ => len2 - (intOf i).toNat)
          case atStart => exact ⟨0, [], O6, Nat.zero_le _, rfl, HM6⟩
          case round =>
            clear HM6
            obtain ⟨k, L, O, hk, rfl, hM⟩ := hrel
            by_cases hlt : k < len2
            · skip
              have hlt' : (k : Int) < (len2 : Int) := by omega
              obtain ⟨db, doff, rfl, hdb, hdat⟩ := HR2.out.2 (by omega)
              obtain ⟨d, hd, hdo⟩ := hdat k hlt
              have hbel := hM.out.1.bel
              obtain ⟨d0, d1, d2, _, d4, d5⟩ := hdo.keep hdb (fun b o hbb => hbel.cell (p := ⟨b, o, none⟩) hbb)
              obtain ⟨qq, hqq⟩ : ∃ qq : Nat, d.i % 16 = qq := Int.eq_ofNat_of_zero_le (by omega)
              have hand : bits .and .i64 d.i 15 = (qq : Int) := by rw [and15, hqq]
              have hYd : Below wr.heap.size wr (wr.alloc (.cells #[.int .i64 d.op, .int .i64 d.i, .int .u8 d.b] 29)).drew := ((Below.refl _ _).alloc (Nat.le_refl _) _).drew
              have hkb : Do7Blk (wr.alloc (.cells #[.int .i64 d.op, .int .i64 d.i, .int .u8 d.b] 29)).drew wr.heap.size d := heap_alloc_new wr _
              obtain ⟨_, kc1, kc2, hkl⟩ := hkb.cells
              have HD4 := Lib.hid (And.intro d4 (And.intro d5 hqq))
              have HYd := Lib.hid hYd
              have hOk : Hid (∀ k, O k → k < wr.heap.size) := Lib.hid hM.out.1.pg.lt
              have hsY : (wr.alloc (.cells #[.int .i64 d.op, .int .i64 d.i, .int .u8 d.b] 29)).drew.heap.size = wr.heap.size + 1 := by show (wr.alloc _).heap.size = _; simp
              have HA := Lib.hid hM.out.2
              clear hdat hd hdo hbel d4 d5 hqq hYd hkb
              go_wp2_with fail
              go_region_held3 (fun w' => w'.cell? ⟨wr.heap.size, 1, none⟩ = some (.int .i64 d.i) ∧ w'.cell? ⟨wr.heap.size, 2, none⟩ = some (.int .u8 d.b))
                (first | with_reducible exact c5 | with_reducible exact c4 | exact ⟨kc1, kc2⟩)
                (first
                  | (go_at_call 9; refine (page_any d.b HD4.out.2.1 _).mono ?_; rintro e w4 ⟨g4, rfl, hg4, hr4, hb4⟩; have hb4' : Below wr.heap.size wr w4 := HYd.out.trans (hb4.mono HYd.out.size); have hs4 : wr.heap.size + 1 ≤ w4.heap.size := hsY ▸ hb4.size; have c4 : w4.cell? ⟨wr.heap.size, 1, none⟩ = some (.int .i64 d.i) ∧ w4.cell? ⟨wr.heap.size, 2, none⟩ = some (.int .u8 d.b) := ⟨(hb4.cell (p := ⟨wr.heap.size, 1, none⟩) hkl).trans kc1, (hb4.cell (p := ⟨wr.heap.size, 2, none⟩) hkl).trans kc2⟩; have h4 := hM.out.1.later api hb4')
                  | (go_at_call 8; refine (lset (c := 240) api h4 (qq : Int) (by have := HD4.out.2.2; omega) hr4 (Nat.le_refl _) (by decide)).mono ?_; rintro e w5 ⟨rfl, O5, h5, t5, n5⟩; have hkO : ¬ O wr.heap.size := fun ho => (by have := hOk.out _ ho; omega); have c5 : w5.cell? ⟨wr.heap.size, 1, none⟩ = some (.int .i64 d.i) ∧ w5.cell? ⟨wr.heap.size, 2, none⟩ = some (.int .u8 d.b) := ⟨(World.cell?_of_block (a := ⟨wr.heap.size, 1, none⟩) (t5.block _ hs4 hkO)).trans c4.1, (World.cell?_of_block (a := ⟨wr.heap.size, 2, none⟩) (t5.block _ hs4 hkO)).trans c4.2⟩))
              have hA4 := HA.out.1.keep (hb4'.block _ HA.out.1.lt)
              have hO5 : ¬ O5 w1.heap.size := fun ho => by
                rcases n5 _ ho with a | a
                · exact HA.out.2 a
                · have := hA4.lt; omega
              have HE := Lib.hid (show LawP D w w5 F6 O5 p S' q s' r b (setPg S' L (qq : Int) (reps 240 d.b)) ∧ ABlk w5 w1.heap.size W ∧ ¬ O5 w1.heap.size from ⟨h5, hA4.keep (t5.block _ hA4.lt HA.out.2), hO5⟩)
              clear c4 c5 h4 hr4 hb4 hb4' h5 t5 n5 hA4 hO5 hM HA kc1 kc2
              go_wp2
              go_roundw
              case rel => exact ⟨k + 1, _, O5, by omega, by go_num, HE⟩
              case measure => simp [intOf]; omega
            · obtain rfl : k = len2 := by omega
              have HB := Lib.hid (labort api hM.out.1)
              have HA := Lib.hid hM.out.2
              clear hM
              go_wp2_with fail
              refine HB.out.mono ?_
              rintro e w8 ⟨rfl, h8, t8, _⟩
              have HM8 : Hid (LawP D w w8 F6 O p S' q s' r b [] ∧ ABlk w8 w1.heap.size W) := Lib.hid ⟨h8, HA.out.1.keep (t8.block _ HA.out.1.lt HA.out.2)⟩
              clear h8 t8 HB HA
              go_wp2_with fail
              go_loopw [77] (fun i wr => ∃ k : Nat, k ≤ 16 ∧ i = .int .i64 k ∧ Hid (LawP D w wr F6 O p S' q s' r b [] ∧ ABlk wr w1.heap.size W)) (fun i _ => 16 - (intOf i).toNat)
              case atStart => exact ⟨0, Nat.zero_le _, rfl, HM8⟩
              case round =>
                clear HM8
                obtain ⟨k, hk, rfl, hM⟩ := hrel
                by_cases hlt : k < 16
                · have hlt' : (k : Int) < 16 := by omega
                  have hk0 : (0 : Int) ≤ (k : Int) := by omega
                  have hld := HZ.out (k : Int) (by omega) (by
                    have := HP.out
                    unfold DS.P at this
                    rw [HS.out.2.1] at this
                    rw [show (((33 : Nat) : Int)) = ((33 : Nat) : Int) from rfl] at this
                    rw [this]
                    exact hlt')
                  rw [HW6.out.2.2 k hlt] at hld
                  have HG := Lib.hid (lget api hM.out.1 (k : Int) (by omega))
                  rw [show getPg S' [] (k : Int) = (reps 240 (W[k]?.getD 0), 0) from hld] at HG
                  have hby := HW6.out.2.1.getD k
                  have hWk : W[k]? = some (W[k]?.getD 0) := by
                    have := HW6.out.1
                    rw [List.getElem?_eq_getElem (show k < W.length by omega)]; rfl
                  have HA := Lib.hid hM.out.2
                  have HBY := Lib.hid hby
                  have HWK := Lib.hid hWk
                  clear hld hM hby hWk
                  generalize W[k]?.getD 0 = cb at *
                  go_wp2_with fail
                  refine HG.out.mono ?_
                  rintro e wa ⟨A9, n9, c9, rfl, hc9, hr9, h9, hb9⟩
                  obtain rfl : n9 = 240 := by rw [← hr9.len]; exact reps_length _ _
                  have ha9 := HA.out.keep (hb9.block _ HA.out.lt)
                  have hcl := ha9.cell HWK.out
                  have H9 := Lib.hid (And.intro h9 (And.intro hr9 ha9))
                  clear h9 hr9 ha9 hb9 HG
                  go_wp2_with fail
                  refine (page_any cb HBY.out wa).mono ?_
                  rintro e wb ⟨gb, rfl, hgb, hrb, hbb⟩
                  have HEQ := Lib.hid (Equal_any c9 240 (H9.out.2.1.below hbb) hrb)
                  rw [decide_eq_true (rfl : reps 240 cb = reps 240 cb)] at HEQ
                  have HMb : Hid (LawP D w wb F6 O p S' q s' r b [] ∧ ABlk wb w1.heap.size W) := Lib.hid ⟨H9.out.1.later api hbb, H9.out.2.2.keep (hbb.block _ H9.out.2.2.lt)⟩
                  clear hrb hbb H9
                  go_wp2_with fail
                  refine HEQ.out.mono ?_
                  rintro e wc ⟨rfl, rfl⟩
                  go_wp2
                  go_roundw
                  case rel => exact ⟨k + 1, by omega, by go_num, HMb⟩
                  case measure => simp [intOf]; omega
                · obtain rfl : k = 16 := by omega
                  have HCH := Lib.hid (lchanged api hM.out.1)
                  clear hM
                  go_wp2_with fail
                  refine HCH.out.mono ?_
                  rintro e wd ⟨Ad, cd, rfl, _, _, hd, _⟩
                  have HBD := Lib.hid hd.bel
                  have HAW := Lib.hid (HAWK.out wd hd.bel)
                  clear hd HCH
                  simp only [List.length_nil]
                  go_wp2_with fail
                  refine HAW.out.mono ?_
                  rintro e we ⟨rfl, hbe⟩
                  have HF := Lib.hid (HBD.out.trans (hbe.mono HBD.out.size))
                  clear hbe
                  go_wp2
                  go_ret
                  exact ⟨rfl, HF.out⟩
    · have k2 : decide ((len2 : Int) > 40) = true := by simp; omega
      go_enter Tryz.func4, Tryz.ntmps4
      go_wp2_with fail
      refine HFR.out.mono ?_
      rintro e w1 ⟨r, xr, b, q, q', F, O, G, p, xa, rfl, hT⟩
      have HB1 := Lib.hid hT.bel
      have HAW := Lib.hid (HAWK.out w1 hT.bel)
      clear hT HFR
      go_wp2_with fail
      refine HAW.out.mono ?_
      rintro e we ⟨rfl, hbe⟩
      have HF := Lib.hid (HB1.out.trans (hbe.mono HB1.out.size))
      clear hbe
      go_wp2
      go_ret
      exact ⟨rfl, HF.out⟩
  · have k1 : decide ((len1 : Int) > 40) = true := by simp; omega
    go_enter Tryz.func4, Tryz.ntmps4
    go_wp2_with fail
    refine HFR.out.mono ?_
    rintro e w1 ⟨r, xr, b, q, q', F, O, G, p, xa, rfl, hT⟩
    have HB1 := Lib.hid hT.bel
    have HAW := Lib.hid (HAWK.out w1 hT.bel)
    clear hT HFR
    go_wp2_with fail
    refine HAW.out.mono ?_
    rintro e we ⟨rfl, hbe⟩
    have HF := Lib.hid (HB1.out.trans (hbe.mono HB1.out.size))
    clear hbe
    go_wp2
    go_ret
    exact ⟨rfl, HF.out⟩
end

end Go.Proofs.YtenpmaagnljabaaGreatDoor
