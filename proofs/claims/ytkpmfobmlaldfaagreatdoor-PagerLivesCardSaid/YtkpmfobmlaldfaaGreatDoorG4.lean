/-
  The texts RedoPE, RedoRF, IMap, DevP, DevA, DevB, DevC, DevD, DevE, DevF, DevG, DevH, DevI, RedoPF, RedoPG, RedoPH joined. Conditions: those that each part says at its head.
-/
import Derived.Test.YtkpmfobmlaldfaaGreatDoorG3
import Derived.Test.YtkpmfobmlaldfaaGreatDoorG1
import Derived.Test.YtkpmfobmlaldfaaGreatDoorG2
import Derived.StillTailTactics
import Derived.Maps.OwnSet
import Derived.Maps.OwnOps
import Derived.Deep.OwnRows
import Derived.BigQuiet
import Derived.Carry
import Derived.Maps.AppendAt
import Derived.Deep.RegionWith

/-
  Contracts of the program's redo and Open, over any disk that answers as it is to. Conditions: fewer than 2^63 - 1 writes; the table that crc.Step reads holds what the program's text lays in it, apart from the disk.
-/
namespace Go.Proofs.YtkpmfobmlaldfaaGreatDoor
open Go.RowKit
set_option maxRecDepth 100000
set_option linter.unusedVariables false

/-- Sectors at their homes. -/
def atHomes (P : Int) (l : List (Int × List Int)) : List (Int × List Int) := l.map fun y => (y.1 + 1 + P, y.2)
theorem putS_homes (l : List (Int × List Int)) : ∀ S : DS, putS S (atHomes S.P l) = homesS S l := by
  induction l with
  | nil => intro S; rfl
  | cons y r ih =>
    intro S
    rw [homesS_cons]
    show thenS (S.wr (y.1 + 1 + S.P) y.2) (fun S' => putS S' (atHomes S.P r)) = thenS (S.wr (y.1 + 1 + S.P) y.2) (fun S' => homesS S' r)
    by_cases h : (S.wr (y.1 + 1 + S.P) y.2).1 = 0
    · rw [thenS_ok h, thenS_ok h]
      have hn : (S.wr (y.1 + 1 + S.P) y.2).2.P = S.P := by
        show pagesOf _ = pagesOf _
        rw [show (S.wr (y.1 + 1 + S.P) y.2).2.n = S.n from P_write _ _ _]
      have := ih (S.wr (y.1 + 1 + S.P) y.2).2
      rw [hn] at this
      exact this
    · rw [thenS_no h, thenS_no h]
/-- What redo answers. -/
def redoS (S : DS) (r : Option (List (Int × List Int))) : Int × DS := match r with | none => (0, S) | some l => homesS S l

section
variable {D : World → (Nat → Prop) → Addr → DS → Prop} {w : World} {F : Nat → Prop} {p : Addr} {S : DS} {q : Nat} {seq : Int}

set_option maxHeartbeats 4000000 in
theorem redo_any (api : DiskApi D) (h : D w F p S) (hq : PLog w q p seq) (ht : TabF w F) (hd : S.down = false) (count : Nat) (hc : count ≤ 4294967296) (hw : S.writes ≤ 9223372036854700000) :
    Calls Tryz.prog 92 #[.pointer (some ⟨q, 0, none⟩), .int .i64 (count : Int)] w fun e w' => e = .returned (.int .i64 (redoS S (slotsOf S.n S.last count seq)).1) ∧ WroteD D w F p (redoS S (slotsOf S.n S.last count seq)).2 w' := by
  have hok := api.ok _ _ _ _ h
  have hlt := api.lt _ _ _ _ h
  have hsz := hok.size
  have hpb := pagesOf_bounds (S.n : Int)
  have hpn := (pagesOf_nn (S.n : Int)).2.1 (by omega)
  have HP := Lib.hid (pages_any api h hq)
  have HH := Lib.hid (fun w1 (hb : Below w.heap.size w w1) i hi => homeOf_any api (api.below h hb) (hq.below hb) (ht.below hb) hd i hi)
  have HD := Lib.hid (fun w1 (hb : Below w.heap.size w w1) => api.below h hb)
  have LC := Lib.hid (fun w1 (hb : Below w.heap.size w w1) => (hq.below hb).cells)
  have HL := Lib.hid (fun w1 (hb : Below w.heap.size w w1) => WroteD.later api h hb)
  clear hq ht h
  by_cases hcp : pagesOf (S.n : Int) < (count : Int)
  · have k1 : decide (pagesOf (S.n : Int) < (count : Int)) = true := by simpa using hcp
    have HN := Lib.hid (show slotsOf S.n S.last count seq = none by unfold slotsOf; rw [if_pos hcp])
    clear hcp
    go_enter Tryz.func92, Tryz.ntmps92
    go_wp2_with fail
    refine HP.out.mono ?_
    rintro e w1 ⟨rfl, hb⟩
    have hF := Lib.hid (HL.out _ hb)
    clear hb
    go_wp2
    go_ret
    rw [HN.out]
    exact ⟨rfl, hF.out⟩
  · have k1 : decide (pagesOf (S.n : Int) < (count : Int)) = false := by simpa using hcp
    have HSO := Lib.hid (show ∀ r, slotsUp S.n S.last seq count = r → slotsOf S.n S.last count seq = r from fun r hr => by unfold slotsOf; rw [if_neg (by omega), Int.toNat_natCast]; exact hr)
    go_enter Tryz.func92, Tryz.ntmps92
    go_wp2_with fail
    refine HP.out.mono ?_
    rintro e w1 ⟨rfl, hb1⟩
    have HB1 := Lib.hid hb1
    clear hb1
    go_wp2
    go_loopw [5, 15] (fun ov i wr => ∃ (k : Nat) (l : List (Int × List Int)), k ≤ count ∧ i = .int .i64 k ∧ Hid (slotsUp S.n S.last seq k = some l ∧ PRow 158 256 wr F w.heap.size ov (atHomes (pagesOf S.n) l) ∧ Below w.heap.size w wr)) (fun _ i _ => count - (intOf i).toNat)
    case atStart => exact ⟨0, [], Nat.zero_le _, rfl, Lib.hid ⟨rfl, PRow.start _ _ _ _ _, HB1.out⟩⟩
    case round =>
      obtain ⟨k, l, hk, rfl, hM⟩ := hrel
      by_cases hlt2 : k < count
      · obtain ⟨hup, hrow, hb⟩ := hM.out
        have hlt' : (k : Int) < (count : Int) := by omega
        have hho := HH.out wr hb k (by omega)
        obtain ⟨A0, c0, rfl, hAc, _⟩ := hrow.imgs (by decide)
        go_wp2_with fail
        refine hho.mono ?_
        rintro e w2 ⟨hb2, hr⟩
        have hb02 := hb.trans (hb2.mono hb.size)
        rcases hsi : slotIn S.n S.last seq k with _ | y
        · rw [hsi] at hr
          have hr : e = .returned (.tuple #[.agg #[.int .i64 0, .slice none 0 0], .bool false, .int .i64 0]) := hr
          subst hr
          have HN := Lib.hid (HSO.out none (slotsUp_none (slotsUp_stop hsi) (by omega)))
          have hF := Lib.hid (HL.out _ ((hb02.alloc hb02.size (.cells #[.int .i64 0, .slice none 0 0] 158))))
          clear hrow hup hM hsi hb2 hb hho hb02
          go_wp2
          go_ret
          rw [HN.out]
          exact ⟨rfl, hF.out⟩
        · rw [hsi] at hr
          obtain ⟨g, c, rfl, h256, hg, hrb⟩ : ∃ g c, e = .returned (.tuple #[.agg #[.int .i64 (y.1 + 1 + pagesOf S.n), .slice (some ⟨g, 0, none⟩) 256 c], .bool true, .int .i64 0]) ∧ 256 ≤ c ∧ wr.heap.size ≤ g ∧ RB w2 w2.heap.size (some ⟨g, 0, none⟩) 256 y.2 := hr
          have hgl : g < w2.heap.size := by obtain ⟨bb, _, e, hbb, _⟩ := hrb.at_ (by decide); cases e; exact hbb
          have hbs := hb.size
          have hX1 : Below w2.heap.size w2 (w2.alloc (.cells #[.int .i64 (y.1 + 1 + pagesOf S.n), .slice (some ⟨g, 0, none⟩) 256 c] 158)) := (Below.refl _ _).alloc (Nat.le_refl _) _
          have hrow2 := hrow.below (by decide) hb2
          obtain ⟨vs, hvs, hvl⟩ := hrow2.row
          have hX2 : Below w2.heap.size w2 ((w2.alloc (.cells #[.int .i64 (y.1 + 1 + pagesOf S.n), .slice (some ⟨g, 0, none⟩) 256 c] 158)).alloc (.cells #[.int .i64 (y.1 + 1 + pagesOf S.n), .slice (some ⟨g, 0, none⟩) 256 c] 158)) := hX1.alloc hX1.size _
          have hvsX := own_stays hvs (fun r hr => hX2.block r (own_at hvs r hr).2)
          have hbk : ((w2.alloc (.cells #[.int .i64 (y.1 + 1 + pagesOf S.n), .slice (some ⟨g, 0, none⟩) 256 c] 158)).alloc (.cells #[.int .i64 (y.1 + 1 + pagesOf S.n), .slice (some ⟨g, 0, none⟩) 256 c] 158)).heap[w2.heap.size + 1]? = some (.cells #[.int .i64 (y.1 + 1 + pagesOf S.n), .slice (some ⟨g, 0, none⟩) 256 c] 158 (0, 0)) := by
            have := heap_alloc_new (w2.alloc (.cells #[.int .i64 (y.1 + 1 + pagesOf S.n), .slice (some ⟨g, 0, none⟩) 256 c] 158)) (.cells #[.int .i64 (y.1 + 1 + pagesOf S.n), .slice (some ⟨g, 0, none⟩) 256 c] 158)
            simpa using this
          have hno : (Value.slice A0 (atHomes (pagesOf S.n) l).length c0).ownBlock ≠ some g := fun e => by
            obtain ⟨vs0, hv0, _⟩ := hrow.row
            have := (own_at hv0 g e).2
            omega
          have hfar : Far w2 F (.slice A0 (atHomes (pagesOf S.n) l).length c0) (.slice (some ⟨g, 0, none⟩) 256 c) 256 y.2 := ⟨g, c, rfl, h256, fun hf => by have := hlt g hf; omega, hno, hgl, hrb⟩
          have hllen : (atHomes (pagesOf S.n) l).length = k := by rw [← (slotsUp_mem k hup).1]; simp [atHomes]
          have HPU := Lib.hid (fun (w3 : World) (A' : Option Addr) (c' : Nat) h1 h2 h3 => hrow2.push (v' := .slice A' ((atHomes (pagesOf S.n) l).length + 1) c') (w1 := w3) (x := y.1 + 1 + pagesOf S.n) (by decide) (fun k hk => by have := hlt k hk; have := hb02.size; omega) hfar hvs hvl hX2 h1 h2 h3)
          have HUP := Lib.hid (slotsUp_next hup hsi)
          have HB02 := Lib.hid hb02
          have HAT : atHomes (pagesOf S.n) (l ++ [y]) = atHomes (pagesOf S.n) l ++ [(y.1 + 1 + pagesOf S.n, y.2)] := by simp [atHomes]
          have hs2 := hb02.size
          have HOV := Lib.hid (fun r hr => (own_at hvs r hr).1)
          have hk64 : (atHomes (pagesOf S.n) l).length ≤ 4294967296 := by omega
          clear hrow hup hM hsi hb2 hb hho hrow2 hfar hvl hrb hX1 hb02 hvs hno hllen
          generalize atHomes (pagesOf S.n) l = LL at *
          go_wp2_with (at_builtin; refine wpList_append_two rfl _ _ 177 158 rfl Tryz.underlying177 info_piece w.heap.size (.slice A0 LL.length c0) LL.length vs rfl (w2.heap.size + 1) (.int .i64 (y.1 + 1 + pagesOf S.n)) (.slice (some ⟨g, 0, none⟩) 256 c) 158 rfl hvsX hbk rfl rfl (by omega) (by simp; omega) ?_; intro A4 c4 w4 hown4 hg4 hl4; have HO4 := Lib.hid (And.intro hown4 (And.intro hg4 hl4)); clear hown4 hg4 hl4)
          obtain ⟨q1, q2, q3⟩ := HPU.out w4 A4 c4 HO4.out.1 HO4.out.2.1 (by
            rcases HO4.out.2.2 with a | a
            · exact .inl a
            · exact .inr ⟨_, a, by simp; omega⟩)
          have hb4 : Below w.heap.size w w4 := (HB02.out.trans (hX2.mono hs2)).grown HO4.out.2.1 (by have := hX2.size; omega) HOV.out
          have HRE := Lib.hid (And.intro HUP.out (And.intro q1 hb4))
          clear q1 q2 q3 hb4 hX2 hvsX hbk
          go_roundw
          case rel => exact ⟨k + 1, l ++ [y], by omega, by go_num, Lib.hid ⟨HRE.out.1, HAT ▸ HRE.out.2.1, HRE.out.2.2⟩⟩
          case measure => simp [intOf]; omega
      · obtain rfl : k = count := by omega
        obtain ⟨hup, hrow, hb⟩ := hM.out
        have HSO2 := Lib.hid (HSO.out _ hup)
        obtain ⟨A0, c0, rfl, hAc, him⟩ := hrow.imgs (by decide)
        obtain ⟨l0, l1, _, _⟩ := LC.out wr hb
        have hll := (slotsUp_mem k hup).1
        have hlh : (atHomes (pagesOf S.n) l).length = k := by rw [← hll]; simp [atHomes]
        have h256 : ∀ y ∈ atHomes (pagesOf S.n) l, y.2.length = 256 := fun y hy => by
          obtain ⟨z, hz, rfl⟩ := List.mem_map.1 hy
          obtain ⟨i, hi, e⟩ := List.getElem_of_mem hz
          obtain ⟨_, _, _, e4⟩ := slotIn_some ((slotsUp_mem k hup).2 i z (by rw [List.getElem?_eq_getElem hi, e]))
          rw [e4]
          exact (hok.lastBytes _).1
        have HPT := Lib.hid (put_any api (c := c0) (HD.out wr hb) him h256 (by omega) (by omega))
        have HTB := Lib.hid (Touch.of_below (F := F) hb)
        have HPH := Lib.hid (show putS S (atHomes (pagesOf S.n) l) = homesS S l from putS_homes l S)
        clear hup hrow hb hM him h256 hll hlh
        go_wp2_with fail
        refine HPT.out.mono ?_
        rw [HPH.out]
        rintro e w2 ⟨rfl, hW⟩
        have hF := Lib.hid (WroteD.join HTB.out (fun k hk => .inl hk) hW)
        clear hW
        go_wp2
        go_ret
        rw [HSO2.out]
        exact ⟨rfl, hF.out⟩

/-- What Open leaves: the disk, and a log apart from it, if there is one. -/
def OpenedD (D : World → (Nat → Prop) → Addr → DS → Prop) (w : World) (F : Nat → Prop) (p : Addr) (r : Int × Int × DS) (e : Ending) (w' : World) : Prop :=
  (r.1 ≠ 0 ∧ e = .returned (.tuple #[.pointer none, .int .i64 r.1]) ∧ WroteD D w F p r.2.2 w') ∨
  (r.1 = 0 ∧ ∃ q F', e = .returned (.tuple #[.pointer (some ⟨q, 0, none⟩), .int .i64 0]) ∧ w.heap.size ≤ q ∧ PLog w' q p r.2.1 ∧ ¬ F' q ∧ D w' F' p r.2.2 ∧ Touch F w w' ∧ ∀ k, F' k → F k ∨ w.heap.size ≤ k)

theorem openTail_redo (S : DS) (seq : Int) (r : Option (List (Int × List Int))) : openTail S seq r = if (redoS S r).1 ≠ 0 then ((redoS S r).1, 0, (redoS S r).2) else (0, seq, (redoS S r).2) := by
  cases r with
  | none => rfl
  | some l => rfl

/-- What is left behind redo, of a log that was laid ahead of it. -/
theorem opened_end (api : DiskApi D) {w1 w2 : World} {R : Int × DS} (h : D w F p S) (hX : Below w.heap.size w w1) (hq : PLog w1 q p seq) (hqw : w.heap.size ≤ q) (hW : WroteD D w1 F p R.2 w2) :
    WroteD D w F p R.2 w2 ∧ ∃ F', PLog w2 q p seq ∧ ¬ F' q ∧ D w2 F' p R.2 ∧ Touch F w w2 ∧ ∀ k, F' k → F k ∨ w.heap.size ≤ k := by
  have hlt := api.lt _ _ _ _ h
  have hqF : ¬ F q := fun hf => by have := hlt q hf; omega
  refine ⟨WroteD.join (Touch.of_below hX) (fun k hk => .inl hk) hW, ?_⟩
  obtain ⟨F', j1, j2, j3⟩ := hW
  have hql := hq.cells.2.2.2
  refine ⟨F', hq.keep (j2.block q hql hqF), fun hf => ?_, j1, (Touch.of_below hX).join (fun k hk => .inl hk) j2, new_join hX.size (fun k hk => .inl hk) j3⟩
  rcases j3 q hf with a | a
  · exact hqF a
  · omega

set_option maxHeartbeats 3200000 in
theorem open_any (api : DiskApi D) (h : D w F p S) (ht : TabF w F) (hw : S.writes ≤ 9223372036854700000) :
    Calls Tryz.prog 43 #[.pointer (some p)] w fun e w' => OpenedD D w F p (openS S) e w' := by
  have hok := api.ok _ _ _ _ h
  have hlt := api.lt _ _ _ _ h
  have hsz := hok.size
  have HM := Lib.hid lay_said.mark
  have HL := Lib.hid (fun w1 (hb : Below w.heap.size w w1) => WroteD.later api h hb)
  by_cases hd : S.down = true
  · have hO : openS S = (5, 0, S) := by unfold openS; rw [if_pos hd]
    have hre : S.readE 0 = 5 := by simp [DS.readE, hd]
    have HRD := Lib.hid (api.read 0 w F p S h)
    rw [hre] at HRD
    rw [hO]
    clear hO hre h hok hd ht
    go_enter Tryz.func43, Tryz.ntmps43
    go_wp2_with (go_at_call 90; refine (HM.out _).mono ?_; rintro e w3 ⟨rfl, rfl⟩)
    refine HRD.out.mono ?_
    rintro e w1 ⟨A, n, c, rfl, _, _, hb⟩
    have HW := Lib.hid (HL.out w1 hb)
    clear hb
    go_wp2
    go_ret2
    exact .inl ⟨by show ¬ (5 : Int) = 0; decide, rfl, HW.out⟩
  have hd' : S.down = false := by simpa using hd
  have hre : S.readE 0 = 0 := by
    unfold DS.readE
    rw [if_neg (by simp [hd']), if_pos (show S.has _ from ⟨by omega, by omega⟩)]
  have HRD := Lib.hid (api.readAt 0 w F p S h hre)
  rw [show (0 : Int).toNat = 0 from rfl] at HRD
  have HT := Lib.hid (fun w1 (hb : Below w.heap.size w w1) => ht.below hb)
  have HUP := Lib.hid unpack_said
  by_cases he : (unpackR (S.last 0)).2.2.2 = 0
  · have hcnt := unpack_count he
    have hpg := unpack_page he
    obtain ⟨count, hcount⟩ := Int.eq_ofNat_of_zero_le hpg.1
    have HE := Lib.hid he
    have HC := Lib.hid hcount
    have HR := Lib.hid (fun (w1 : World) (hb : Below w.heap.size w w1) (q : Nat) (hq : PLog w1 q p (unpackR (S.last 0)).2.1) => redo_any api (api.below h hb) hq (ht.below hb) hd' count (by omega) hw)
    have HO := Lib.hid (show openS S = openTail S (unpackR (S.last 0)).2.1 (slotsOf S.n S.last count (unpackR (S.last 0)).2.1) by rw [openS_up hd' he, hcount])
    have HD0 := Lib.hid h
    clear hd hd' hcnt hpg hcount he hre h hok ht
    generalize hseq : (unpackR (S.last 0)).2.1 = seq at HR HO ⊢
    have HSQ := Lib.hid hseq
    clear hseq
    go_enter Tryz.func43, Tryz.ntmps43
    go_wp2_with (go_at_call 90; refine (HM.out _).mono ?_; rintro e w3 ⟨rfl, rfl⟩)
    refine HRD.out.mono ?_
    rintro e w1 ⟨g, c, rfl, hc, hg, hr1, hb1⟩
    have ht1 := HT.out w1 hb1
    go_wp2_with fail
    refine (HUP.out (some ⟨g, 0, none⟩) 256 c _ _ w1 hr1 (Nat.le_refl _) hc (by omega) ht1.tab ht1.lt).mono ?_
    rw [HE.out, HC.out, HSQ.out]
    rintro e w2 ⟨A2, n2, c2, rfl, _, _, hb2⟩
    have hb02 := hb1.trans (hb2.mono hb1.size)
    have hs02 := hb02.size
    have hX : Below w.heap.size w (w2.alloc (.cells #[.pointer (some p), .int .i64 seq] 165)) := hb02.alloc hs02 _
    have hq : PLog (w2.alloc (.cells #[.pointer (some p), .int .i64 seq] 165)) w2.heap.size p seq := heap_alloc_new _ _
    have HRX := Lib.hid (HR.out _ hX _ hq)
    have HX := Lib.hid (And.intro hX hq)
    clear hr1 hb1 hb2 hb02 hX hq ht1
    go_wp2_with fail
    refine HRX.out.mono ?_
    rintro e w4 ⟨rfl, hW⟩
    have HEND := Lib.hid (opened_end (R := redoS S (slotsOf S.n S.last count seq)) api HD0.out HX.out.1 HX.out.2 hs02 hW)
    have HO2 := Lib.hid (HO.out.trans (openTail_redo S seq (slotsOf S.n S.last count seq)))
    clear hW HRX HR HO
    generalize redoS S (slotsOf S.n S.last count seq) = R at HEND HO2 ⊢
    by_cases h0 : R.1 = 0
    · have H0 := Lib.hid h0
      have HO3 := Lib.hid (HO2.out.trans (if_neg (fun h => h h0)))
      rw [h0]
      clear h0 HO2
      go_wp2
      go_ret2
      rw [HO3.out]
      obtain ⟨_, F', q1⟩ := HEND.out
      exact .inr ⟨rfl, _, F', rfl, hs02, q1⟩
    · have H0 := Lib.hid h0
      have kne : (R.1 != 0) = true := by simpa using h0
      have HO3 := Lib.hid (HO2.out.trans (if_pos h0))
      clear h0 HO2
      go_wp2
      go_ret2
      rw [HO3.out]
      exact .inl ⟨H0.out, rfl, HEND.out.1⟩
  · have he4 : (unpackR (S.last 0)).2.2.2 = 4 := by
      rcases unpack_err (S.last 0) with e | e
      · exact absurd e he
      · exact e
    have HO := Lib.hid (show openS S = (4, 0, S) by unfold openS; rw [if_neg hd, if_pos he])
    have HE := Lib.hid he4
    clear he he4 hd hd' h hre ht hok
    go_enter Tryz.func43, Tryz.ntmps43
    go_wp2_with (go_at_call 90; refine (HM.out _).mono ?_; rintro e w3 ⟨rfl, rfl⟩)
    refine HRD.out.mono ?_
    rintro e w1 ⟨g, c, rfl, hc, hg, hr1, hb1⟩
    have ht1 := HT.out w1 hb1
    go_wp2_with fail
    refine (HUP.out (some ⟨g, 0, none⟩) 256 c _ _ w1 hr1 (Nat.le_refl _) hc (by omega) ht1.tab ht1.lt).mono ?_
    rw [HE.out]
    rintro e w2 ⟨A2, n2, c2, rfl, _, _, hb2⟩
    have HW := Lib.hid (HL.out w2 (hb1.trans (hb2.mono hb1.size)))
    clear hr1 hb1 hb2 ht1
    go_wp2
    go_ret2
    rw [HO.out]
    exact .inl ⟨by show ¬ (4 : Int) = 0; decide, rfl, HW.out⟩
end

end Go.Proofs.YtkpmfobmlaldfaaGreatDoor

/-
  Contract of the plain log's test of images, over the plain disk. Condition: at most 65,536 images.
-/
namespace Go.Proofs.YtkpmfobmlaldfaaGreatDoor
open Go.RowKit
set_option maxRecDepth 100000
set_option linter.unusedVariables false

theorem belowN {B : Nat} {w w' : World} (h : Below B w w') : ∀ n, Below B w (w'.drewN n) := fun n => ⟨h.os, h.tape, h.output, h.size, h.block⟩

section
variable {w : World} {G : Nat → Prop} {x : Addr} {S : DS} {q : Nat} {seq : Int}

set_option maxHeartbeats 4000000 in
theorem refRight_imgs {A : Option Addr} {n c : Nat} {l : List (Int × List Int)} (h : RefAt w G x S) (hq : RLog w q x seq) (hl : RImgs w G A n l) (hn : n ≤ 65536) :
    Calls Tryz.prog 106 #[.pointer (some ⟨q, 0, none⟩), .slice A n c] w fun e w' => e = .returned (.bool (decide (rightS S l))) ∧ Below w.heap.size w w' := by
  have hlen := hl.1
  have hlt := h.lt
  have hqc := hq.cells.2.2.2
  have hpb := pagesOf_bounds (S.n : Int)
  have hP : S.P = pagesOf S.n := rfl
  have HLP := Lib.hid (show ∀ w1, Below w.heap.size w w1 → Calls Tryz.prog 25 #[.pointer (some ⟨q, 0, none⟩)] w1 fun e w' => e = .returned (.int .i64 (pagesOf S.n)) ∧ w' = w1 from fun w1 hb =>
    (refLogPages_any (h.keep (fun k hk => hb.block k (hlt k hk))) (hq.keep (hb.block q hqc))).mono fun e w' h' => ⟨h'.1, h'.2.symm⟩)
  have HL := Lib.hid (fun (w1 : World) (hb : Below w.heap.size w w1) => hl.keep hb.size (fun _ _ h => h) (fun k hk _ => hb.block k hk))
  clear h hq hl hqc
  go_enter Tryz.func106, Tryz.ntmps106
  go_wp2
  go_loopw [5] (fun i wr => ∃ k : Nat, k ≤ n ∧ i = .int .i64 k ∧ Hid (GoodUp S l k ∧ Below w.heap.size w wr)) (fun i _ => n - (intOf i).toNat)
  case atStart => exact ⟨0, Nat.zero_le _, rfl, Lib.hid ⟨⟨fun j y hj => absurd hj (by omega), fun j k y z hjk hk => absurd hk (by omega)⟩, Below.refl _ _⟩⟩
  case round =>
    obtain ⟨i, hi, rfl, hM⟩ := hrel
    have hb := hM.out.2
    by_cases hlt1 : i < n
    · have hlt' : (i : Int) < (n : Int) := by omega
      obtain ⟨y, hy⟩ : ∃ y, l[i]? = some y := ⟨_, List.getElem?_eq_getElem (by omega)⟩
      obtain ⟨b, rfl, hGb, hbl, hat⟩ := (HL.out wr hb).2 (by omega)
      obtain ⟨c1, D, m, cm, c2, hmc, hm63, hrb, _⟩ := hat i y hy
      have hml : y.2.length = m := hrb.len
      have HY := Lib.hid hy
      have HB := Lib.hid hb
      have HPG := Lib.hid (HLP.out wr hb)
      obtain ⟨p, d⟩ := y
      have hn63 : n ≤ 9223372036854775807 := by omega
      clear hat hrb hb hy
      simp only at hml c1
      by_cases h1 : p < 0
      · have k1 : decide (p < 0) = true := by simpa using h1
        have HN := Lib.hid (show decide (rightS S l) = false by
          have := not_right_at (S := S) HY.out (fun h => by have h2 : 0 ≤ p := h.1; omega)
          simpa using this)
        clear h1
        go_wp2_with fail
        go_quiet (fail)
        go_wp2
        go_ret
        rw [HN.out]
        exact ⟨rfl, belowN HB.out _⟩
      have k1 : decide (p < 0) = false := by simpa using h1
      by_cases h2 : pagesOf S.n ≤ p
      · have k2 : decide (pagesOf S.n ≤ p) = true := by simpa using h2
        have HN := Lib.hid (show decide (rightS S l) = false by
          have := not_right_at (S := S) HY.out (fun h => by have h3 : p < S.P := h.2.1; rw [hP] at h3; omega)
          simpa using this)
        clear h1 h2
        go_wp2_with fail
        go_quiet ((go_at_call 25; exact Calls.quiet_of_same (HLP.out _ (belowN HB.out _))))
        go_wp2
        go_ret
        rw [HN.out]
        exact ⟨rfl, belowN HB.out _⟩
      have k2 : decide (pagesOf S.n ≤ p) = false := by simpa using h2
      by_cases h3 : m = 240
      · subst h3
        have hgood : 0 ≤ p ∧ p < S.P ∧ d.length = 240 := ⟨by omega, by rw [hP]; omega, hml⟩
        have HG := Lib.hid hgood
        clear h1 h2 hgood hml
        go_wp2_with fail
        go_quiet ((go_at_call 25; exact Calls.quiet_of_same (HLP.out _ (belowN HB.out _))))
        have hbq := belowN HB.out nq
        have HBQ := Lib.hid hbq
        clear hbq
        go_wp2
        go_loopw [6] (fun j wr2 => ∃ k : Nat, k ≤ i ∧ j = .int .i64 k ∧ Hid ((∀ t z, t < k → l[t]? = some z → z.1 ≠ p) ∧ Below w.heap.size w wr2)) (fun j _ => i - (intOf j).toNat)
        case atStart => exact ⟨0, Nat.zero_le _, rfl, Lib.hid ⟨fun t z ht => absurd ht (by omega), HBQ.out⟩⟩
        case round =>
          obtain ⟨k, hk, rfl, hM2⟩ := hrel
          by_cases hlt2 : k < i
          · have hlt2' : (k : Int) < (i : Int) := by omega
            obtain ⟨⟨pz, dz⟩, hz⟩ : ∃ z, l[k]? = some z := ⟨_, List.getElem?_eq_getElem (by omega)⟩
            obtain ⟨b2, e2, _, _, hat2⟩ := (HL.out _ hM2.out.2).2 (by omega)
            cases e2
            have e1 := (hat2 k _ hz).1
            have e3 := (hat2 i _ HY.out).1
            simp only at e1 e3
            have HZ := Lib.hid hz
            have hik : (k : Int) < (n : Int) := by omega
            clear hat2 hz c1 c2
            by_cases he : pz = p
            · have k4 : (pz == p) = true := by simpa using he
              have HN := Lib.hid (show decide (rightS S l) = false by
                have := not_right_two (S := S) hlt2 HY.out HZ.out he
                simpa using this)
              clear he
              go_wp2_with fail
              go_quiet (fail)
              go_wp2
              go_ret
              rw [HN.out]
              exact ⟨rfl, belowN hM2.out.2 _⟩
            · have k4 : (pz == p) = false := by simpa using he
              have HNE := Lib.hid (show ∀ t z, t < k + 1 → l[t]? = some z → z.1 ≠ p from fun t z ht htz => by
                rcases Nat.lt_or_ge t k with h' | h'
                · exact hM2.out.1 t z h' htz
                · obtain rfl : t = k := by omega
                  rw [HZ.out] at htz
                  cases htz
                  exact he)
              clear he
              go_wp2_with fail
              go_quiet (fail)
              go_wp2
              go_roundw
              case rel => exact ⟨k + 1, by omega, by go_num, Lib.hid ⟨HNE.out, belowN hM2.out.2 _⟩⟩
              case measure => simp [intOf]; omega
          · obtain rfl : k = i := by omega
            have HGN := Lib.hid (GoodUp.next hM.out.1 HY.out HG.out (fun t z ht hz => hM2.out.1 t z ht hz))
            go_wp2
            go_roundw
            case rel => exact ⟨k + 1, by omega, by go_num, Lib.hid ⟨HGN.out, hM2.out.2⟩⟩
            case measure => simp [intOf]; omega
      · have k3 : ((m : Int) != 240) = true := by simp; omega
        have HN := Lib.hid (show decide (rightS S l) = false by
          have := not_right_at (S := S) HY.out (fun h => h3 (hml ▸ h.2.2))
          simpa using this)
        clear h1 h2 h3
        go_wp2_with fail
        go_quiet ((go_at_call 25; exact Calls.quiet_of_same (HLP.out _ (belowN HB.out _))))
        go_wp2
        go_ret
        rw [HN.out]
        exact ⟨rfl, belowN HB.out _⟩
    · obtain rfl : i = n := by omega
      have HN := Lib.hid (show decide (rightS S l) = true by
        have := (hlen ▸ hM.out.1 : GoodUp S l l.length).all
        simpa using this)
      have HB := Lib.hid hb
      clear hb
      go_wp2
      go_ret
      rw [HN.out]
      exact ⟨rfl, HB.out⟩
end

end Go.Proofs.YtkpmfobmlaldfaaGreatDoor

/-
  Maps by whole numbers, as a function from numbers to what stands there, for any values: made, looked up, stored into, cleared; what keeps one. Condition of a store: fewer entries than 2^63 - 1.
-/
namespace Go.Proofs.YtkpmfobmlaldfaaGreatDoor
open Go.RowKit Go.Maps Go.ChangeMaps Go.MapKept
set_option maxRecDepth 100000
set_option linter.unusedVariables false

/-- An element as itself. -/
def asItself (v : Value) : Option (DataW Value × List MemPlace) := some (.held v, [])
theorem int_key : Keyed Tryz.prog 3 := int_keyed Tryz.underlying3
theorem key_of {i : Int} (h : -9223372036854775808 ≤ i ∧ i ≤ 9223372036854775807) : keyOf Tryz.prog 3 (.int .i64 i) = some (.int .i64 i) :=
  keyOf_int_mk Tryz.underlying3 (WalkArith.wf_i64 (by omega))

/-- Block b of w is a map of at most n entries: at i stands f i. -/
def IMap (w : World) (b n : Nat) (f : Int → Option Value) : Prop :=
  ∃ D : DataW Value, w.ownsMap Tryz.prog 3 asItself b n D ∧ ∀ i : Int, Maps.has D (.int .i64 i) = (f i).isSome ∧ ∀ v z, f i = some v → D.atKey (.int .i64 i) z = .held v

section
variable {w w' : World} {b n : Nat} {f : Int → Option Value}
theorem IMap.made (w : World) : IMap (w.alloc (.map #[] 0)) w.heap.size 0 (fun _ => none) :=
  ⟨_, World.ownsMap_made w _ _ _, fun i => ⟨rfl, fun v z h => by cases h⟩⟩
theorem IMap.lt (h : IMap w b n f) : b < w.heap.size := by
  obtain ⟨D, h1, _⟩ := h
  exact h1.lt
theorem IMap.block (h : IMap w b n f) : ∃ es c, w.heap[b]? = some (.map es c) := by
  obtain ⟨D, ⟨es, c, hb, _⟩, _⟩ := h
  exact ⟨es, c, hb⟩
theorem IMap.of_block (h : IMap w b n f) (e : w'.heap[b]? = w.heap[b]?) : IMap w' b n f := by
  obtain ⟨D, ⟨es, c, hb, rest⟩, hf⟩ := h
  exact ⟨D, ⟨es, c, e.trans hb, rest⟩, hf⟩
theorem IMap.mono (h : IMap w b n f) {m : Nat} (hm : n ≤ m) : IMap w b m f := by
  obtain ⟨D, h1, hf⟩ := h
  exact ⟨D, h1.mono hm, hf⟩
theorem IMap.congr (h : IMap w b n f) {g : Int → Option Value} (e : ∀ i, f i = g i) : IMap w b n g := by
  obtain ⟨D, h1, hf⟩ := h
  exact ⟨D, h1, fun i => by rw [← e i]; exact hf i⟩
theorem atKey_not {D : DataW Value} {k : Lit} (h : Maps.has D k = false) (z : DataW Value) : D.atKey k z = z := Maps.atKey_of_not_has h z

theorem IMap.look (h : IMap w b n f) {t e : TypeId} (ht : Tryz.prog.underlying t = some (.map 3 e)) {z : Value} (hz : (zeroValue e).run Tryz.prog w = .ok z w) {i : Int} (hi : -9223372036854775808 ≤ i ∧ i ≤ 9223372036854775807) :
    (Instr.lookup t (.map (some b)) (.int .i64 i) true).run Tryz.prog w = .ok (.tuple #[(f i).getD z, .bool (f i).isSome]) w := by
  obtain ⟨D, h1, hf⟩ := h
  obtain ⟨v, ps, hrun, hv⟩ := h1.look_ok int_key ht hz (show asItself z = some (.held z, []) from rfl) (key_of hi)
  obtain ⟨hh, ha⟩ := hf i
  rw [hrun, hh]
  have hv' : DataW.held v = D.atKey (.int .i64 i) (.held z) := by
    have := Option.some.inj hv
    exact congrArg Prod.fst this
  rcases hfi : f i with _ | u
  · rw [hfi] at hh
    rw [atKey_not hh] at hv'
    cases hv'; rfl
  · rw [ha u _ hfi] at hv'
    cases hv'; rfl
theorem IMap.get (h : IMap w b n f) {t e : TypeId} (ht : Tryz.prog.underlying t = some (.map 3 e)) {z : Value} (hz : (zeroValue e).run Tryz.prog w = .ok z w) {i : Int} (hi : -9223372036854775808 ≤ i ∧ i ≤ 9223372036854775807) {u : Value} (hu : f i = some u) :
    (Instr.lookup t (.map (some b)) (.int .i64 i) false).run Tryz.prog w = .ok u w := by
  obtain ⟨D, h1, hf⟩ := h
  obtain ⟨v, ps, hrun, hv⟩ := h1.lookup int_key ht hz (show asItself z = some (.held z, []) from rfl) (key_of hi)
  obtain ⟨hh, ha⟩ := hf i
  rw [hrun]
  have hv' : DataW.held v = D.atKey (.int .i64 i) (.held z) := by
    have := Option.some.inj hv
    exact congrArg Prod.fst this
  rw [ha u _ hu] at hv'
  cases hv'; rfl
theorem IMap.store (h : IMap w b n f) {t e : TypeId} (ht : Tryz.prog.underlying t = some (.map 3 e)) (hn : n < maxLen) {i : Int} (hi : -9223372036854775808 ≤ i ∧ i ≤ 9223372036854775807) (u : Value) :
    ∃ w', (Instr.mapUpdate t (.map (some b)) (.int .i64 i) u).run Tryz.prog w = .ok () w' ∧ IMap w' b (n + 1) (fun j => if j = i then some u else f j) ∧ w.grownBy w' (some b) := by
  obtain ⟨D, h1, hf⟩ := h
  obtain ⟨w', hrun, h2, h3⟩ := h1.update int_key ht hn (key_of hi) (show asItself u = some (.held u, []) from rfl)
  refine ⟨w', hrun, ⟨_, h2, fun j => ?_⟩, h3⟩
  by_cases e : j = i
  · subst e
    show Maps.has _ _ = (if j = j then some u else f j).isSome ∧ ∀ v z, (if j = j then some u else f j) = some v → _
    rw [if_pos rfl]
    refine ⟨has_put_same h1.isMap (by trivial) _, fun v z hv => ?_⟩
    cases hv
    exact atKey_put_same h1.isMap (by trivial) _ _
  · show Maps.has _ _ = (if j = i then some u else f j).isSome ∧ ∀ v z, (if j = i then some u else f j) = some v → _
    rw [if_neg e]
    have hne : (Lit.int IntKind.i64 j) ≠ Lit.int IntKind.i64 i := fun h => e (by injection h)
    rw [has_put_other hne]
    refine ⟨(hf j).1, fun v z hv => ?_⟩
    rw [atKey_put_other hne]
    exact (hf j).2 v z hv
theorem IMap.clear_ (h : IMap w b n f) {t e : TypeId} (ht : Tryz.prog.underlying t = some (.map 3 e)) (ty : TypeId) :
    ∃ w', (Builtin.clear_ #[t] ty #[.map (some b)]).run Tryz.prog w = .ok (.tuple #[]) w' ∧ IMap w' b 0 (fun _ => none) ∧ w.grownBy w' (some b) := by
  obtain ⟨D, ⟨es, c, hb, _⟩, _⟩ := h
  refine ⟨ChangeMaps.setBlock w b (.map #[] c), ?_, ⟨.map [], ⟨#[], c, heap_setBlock_same hb _, ⟨by simp, stamped_empty c, by simp⟩, Nat.le_refl _, rfl⟩, fun i => ⟨rfl, fun v z h => by cases h⟩⟩, ⟨rfl, rfl, rfl, by simp [ChangeMaps.setBlock], fun i _ hi => heap_setBlock_other hb _ (fun e => hi (by rw [e]))⟩⟩
  simp [Builtin.clear_, run_underlying ht, MapKept.run_getObj_map hb, MapKept.run_setObj_map _ hb, Result.andThen]
  rfl
end

end Go.Proofs.YtkpmfobmlaldfaaGreatDoor

/-
  How the program's disk lies in memory, and what its parts keep. Plain facts; no condition beyond what each says.
-/
namespace Go.Proofs.YtkpmfobmlaldfaaGreatDoor
open Go.RowKit
set_option maxRecDepth 100000
set_option linter.unusedVariables false

/-- A sector's bytes behind a value: 256 of a block of F's own. -/
def Cont (w : World) (F : Nat → Prop) (v : Value) (l : List Int) : Prop :=
  ∃ g c cur, v = .slice (some ⟨g, 0, none⟩) 256 c ∧ 256 ≤ c ∧ F g ∧ w.heap[g]? = some (.cells cur 5 (0, 0)) ∧ ∀ j, j < 256 → cur[j]? = some (.int .u8 (l[j]?.getD 0))
theorem Cont.keep {w w' : World} {F F' : Nat → Prop} {v : Value} {l : List Int} (h : Cont w F v l) (hF : ∀ k, F k → k < w.heap.size → F' k) (hk : ∀ g cur, F g → w.heap[g]? = some (.cells cur 5 (0, 0)) → w'.heap[g]? = w.heap[g]?) : Cont w' F' v l := by
  obtain ⟨g, c, cur, e, hc, hg, hb, hcell⟩ := h
  exact ⟨g, c, cur, e, hc, hF g hg (Array.getElem?_eq_some_iff.1 hb).1, (hk g cur hg hb).trans hb, hcell⟩
theorem Cont.rb {w : World} {F : Nat → Prop} {v : Value} {l : List Int} (h : Cont w F v l) (hl : l.length = 256 ∧ AllBytes l) : ∃ g c, v = .slice (some ⟨g, 0, none⟩) 256 c ∧ 256 ≤ c ∧ RB w w.heap.size (some ⟨g, 0, none⟩) 256 l := by
  obtain ⟨g, c, cur, e, hc, hg, hb, hcell⟩ := h
  refine ⟨g, c, e, hc, hl.1, hl.2, fun _ => ⟨g, 0, rfl, (Array.getElem?_eq_some_iff.1 hb).1, fun j hj => ?_⟩⟩
  rw [Nat.zero_add, cell_of_row w g j cur 5 (0, 0) hb]
  exact hcell j hj
theorem Cont.of_own {w : World} {F : Nat → Prop} {v : Value} {l : List Int} {base : Nat} (h : w.ownsRow base 5 1 v 256 (l.map (Value.int .u8))) (hF : ∀ k, base ≤ k → F k) : Cont w F v l := by
  have hlen : l.length = 256 := by simpa using h.1
  rcases h.2 with ⟨_, h0⟩ | ⟨g, cap, cur, hv, hbg, hg, hc, _, _, htake⟩
  · cases h0
  · refine ⟨g, cap, cur, hv, hc, hF g hbg, hg, fun j hj => ?_⟩
    have e1 : (l.map (Value.int .u8))[j]? = some (.int .u8 (l[j]?.getD 0)) := by simp [List.getElem?_eq_getElem (show j < l.length by omega)]
    rw [← e1, ← htake, List.getElem?_take, if_pos (by omega)]
    simp

/-- What a sector that may not be there has. -/
def CO (w : World) (F : Nat → Prop) (o : Option Value) (l : List Int) : Prop := match o with | none => l = nought | some v => Cont w F v l

def diskRow (left : Int) (down : Bool) (n sb fb : Nat) (pv : Value) (wr : Nat) : Nat → Value
  | 0 => .int .i64 left
  | 1 => .bool down
  | 2 => .int .i64 n
  | 3 => .map (some sb)
  | 4 => .map (some fb)
  | 5 => pv
  | _ => .int .i64 wr

/-- The disk's maps and list. -/
structure Rest (w : World) (F : Nat → Prop) (sb fb : Nat) (pv : Value) (n : Nat) (safe last : Nat → List Int) (pl : List Nat) (sN fN : Nat) (sf ff : Int → Option Value) : Prop where
  safeM : IMap w sb sN sf
  freshM : IMap w fb fN ff
  ne : sb ≠ fb
  pend : w.ownsRow 0 3 1 pv pl.length ((pl.map Int.ofNat).map (Value.int .i64))
  safeC : ∀ i : Nat, i < n → CO w F (sf i) (safe i)
  freshC : ∀ i : Nat, i < n → ∀ v, ff i = some v → Cont w F v (last i)
  Fs : F sb
  Ff : F fb
  Fp : ∀ g, pv.ownBlock = some g → F g

section
variable {w w' : World} {F F' : Nat → Prop} {b sb fb : Nat} {pv : Value} {n : Nat} {safe last : Nat → List Int} {pl : List Nat} {sN fN : Nat} {sf ff : Int → Option Value}

theorem own_row {base e size m : Nat} {v : Value} {xs : List Value} (h : w.ownsRow base e size v m xs) : ∀ g, v.ownBlock = some g → ∃ cur, w.heap[g]? = some (.cells cur e (0, 0)) := by
  intro g hg
  rcases h.2 with ⟨rfl, _⟩ | ⟨g', cap, cur, rfl, _, hb, _⟩
  · simp [Value.ownBlock] at hg
  · simp [Value.ownBlock] at hg
    subst hg
    exact ⟨cur, hb⟩
theorem own_keep {base e size m : Nat} {v : Value} {xs : List Value} (h : w.ownsRow base e size v m xs) (hk : ∀ g, v.ownBlock = some g → w'.heap[g]? = w.heap[g]?) : w'.ownsRow base e size v m xs := by
  rcases h.2 with h' | ⟨g, cap, cur, rfl, hg, hb, h3⟩
  · exact ⟨h.1, .inl h'⟩
  · exact ⟨h.1, .inr ⟨g, cap, cur, rfl, hg, (hk g (by simp [Value.ownBlock])).trans hb, h3⟩⟩
theorem CO.keep {o : Option Value} {l : List Int} (h : CO w F o l) (hF : ∀ k, F k → k < w.heap.size → F' k) (hk : ∀ g cur, F g → w.heap[g]? = some (.cells cur 5 (0, 0)) → w'.heap[g]? = w.heap[g]?) : CO w' F' o l := by
  rcases o with _ | v
  · exact h
  · exact Cont.keep h hF hk

/-- Nothing of it was written. -/
theorem Rest.keep (h : Rest w F sb fb pv n safe last pl sN fN sf ff) (hF : ∀ k, F k → k < w.heap.size → F' k) (hk : ∀ k, F k → k < w.heap.size → (∀ c, w.heap[k]? ≠ some (.cells c 156 (0, 0))) → w'.heap[k]? = w.heap[k]?) : Rest w' F' sb fb pv n safe last pl sN fN sf ff := by
  obtain ⟨es1, c1, hb1⟩ := h.safeM.block
  obtain ⟨es2, c2, hb2⟩ := h.freshM.block
  have hc : ∀ g cur, F g → w.heap[g]? = some (.cells cur 5 (0, 0)) → w'.heap[g]? = w.heap[g]? := fun g cur hg hb => hk g hg (Array.getElem?_eq_some_iff.1 hb).1 (fun c e => by rw [hb] at e; simp at e)
  refine ⟨h.safeM.of_block (hk _ h.Fs h.safeM.lt (fun c e => by rw [hb1] at e; cases e)), h.freshM.of_block (hk _ h.Ff h.freshM.lt (fun c e => by rw [hb2] at e; cases e)), h.ne, own_keep h.pend (fun g hg => ?_), fun i hi => (h.safeC i hi).keep hF hc, fun i hi v hv => (h.freshC i hi v hv).keep hF hc, hF _ h.Fs h.safeM.lt, hF _ h.Ff h.freshM.lt, fun g hg => ?_⟩
  · obtain ⟨cur, hb⟩ := own_row h.pend g hg
    exact hk g (h.Fp g hg) (Array.getElem?_eq_some_iff.1 hb).1 (fun c e => by rw [hb] at e; simp at e)
  · obtain ⟨cur, hb⟩ := own_row h.pend g hg
    exact hF _ (h.Fp g hg) (Array.getElem?_eq_some_iff.1 hb).1

/-- One number more is pending. -/
theorem Rest.pended (h : Rest w F sb fb pv n safe last pl sN fN sf ff) {v' : Value} {i : Nat} (hg : w.grownBy w' pv.ownBlock) (hp : w'.ownsRow 0 3 1 v' (pl ++ [i]).length (((pl ++ [i]).map Int.ofNat).map (Value.int .i64))) (hv : ∀ g, v'.ownBlock = some g → F g) : Rest w' F sb fb v' n safe last (pl ++ [i]) sN fN sf ff := by
  obtain ⟨es1, c1, hb1⟩ := h.safeM.block
  obtain ⟨es2, c2, hb2⟩ := h.freshM.block
  have hother : ∀ k, k < w.heap.size → (∀ cur, w.heap[k]? ≠ some (.cells cur 3 (0, 0))) → w'.heap[k]? = w.heap[k]? := fun k hk hne => hg.block k hk (fun e => by
    obtain ⟨cur, hb⟩ := own_row h.pend k e.symm
    exact hne cur hb)
  have hc : ∀ g cur, F g → w.heap[g]? = some (.cells cur 5 (0, 0)) → w'.heap[g]? = w.heap[g]? := fun g cur _ hb => hother g (Array.getElem?_eq_some_iff.1 hb).1 (fun c e => by rw [hb] at e; simp at e)
  exact ⟨h.safeM.of_block (hother _ h.safeM.lt (fun c e => by rw [hb1] at e; cases e)), h.freshM.of_block (hother _ h.freshM.lt (fun c e => by rw [hb2] at e; cases e)), h.ne, hp, fun i hi => (h.safeC i hi).keep (fun _ h _ => h) hc, fun i hi v hv => (h.freshC i hi v hv).keep (fun _ h _ => h) hc, h.Fs, h.Ff, hv⟩

theorem map_kept {x : Nat} (hx : ∃ es c, w.heap[x]? = some (.map es c)) (hg : w.grownBy w' (some x)) : (∀ k, k < w.heap.size → k ≠ x → w'.heap[k]? = w.heap[k]?) ∧ (∀ g cur, F g → w.heap[g]? = some (.cells cur 5 (0, 0)) → w'.heap[g]? = w.heap[g]?) ∧ (∀ (g : Nat) (cur : Array Value) (e : TypeId), w.heap[g]? = some (.cells cur e (0, 0)) → w'.heap[g]? = w.heap[g]?) := by
  obtain ⟨es, c, hb⟩ := hx
  have h1 : ∀ k, k < w.heap.size → k ≠ x → w'.heap[k]? = w.heap[k]? := fun k hk hne => hg.block k hk (fun e => hne (by injection e))
  have h3 : ∀ (g : Nat) (cur : Array Value) (e : TypeId), w.heap[g]? = some (.cells cur e (0, 0)) → w'.heap[g]? = w.heap[g]? := fun g cur e hg' => h1 g (Array.getElem?_eq_some_iff.1 hg').1 (fun e' => by rw [e', hb] at hg'; cases hg')
  exact ⟨h1, fun g cur _ hg' => h3 g cur _ hg', h3⟩

/-- The map of what was written last has turned. -/
theorem Rest.freshed (h : Rest w F sb fb pv n safe last pl sN fN sf ff) (hg : w.grownBy w' (some fb)) {fN' : Nat} {ff' : Int → Option Value} (hm : IMap w' fb fN' ff') {last' : Nat → List Int} (hc' : ∀ i : Nat, i < n → ∀ v, ff' i = some v → (ff i = some v ∧ last' i = last i) ∨ Cont w F v (last' i)) : Rest w' F sb fb pv n safe last' pl sN fN' sf ff' := by
  obtain ⟨h1, hc, h3⟩ := map_kept (F := F) h.freshM.block hg
  refine ⟨h.safeM.of_block (h1 _ h.safeM.lt h.ne), hm, h.ne, own_keep h.pend (fun g hg => ?_), fun i hi => (h.safeC i hi).keep (fun _ h _ => h) hc, fun i hi v hv => ?_, h.Fs, h.Ff, h.Fp⟩
  · obtain ⟨cur, hb⟩ := own_row h.pend g hg
    exact h3 g cur _ hb
  · rcases hc' i hi v hv with ⟨e1, e2⟩ | e
    · rw [e2]
      exact (h.freshC i hi v e1).keep (fun _ h _ => h) hc
    · exact e.keep (fun _ h _ => h) hc

/-- The map of what is safe has turned. -/
theorem Rest.safed (h : Rest w F sb fb pv n safe last pl sN fN sf ff) (hg : w.grownBy w' (some sb)) {sN' : Nat} {sf' : Int → Option Value} (hm : IMap w' sb sN' sf') {safe' : Nat → List Int} (hc' : ∀ i : Nat, i < n → (sf' i = sf i ∧ safe' i = safe i) ∨ CO w F (sf' i) (safe' i)) : Rest w' F sb fb pv n safe' last pl sN' fN sf' ff := by
  obtain ⟨h1, hc, h3⟩ := map_kept (F := F) h.safeM.block hg
  refine ⟨hm, h.freshM.of_block (h1 _ h.freshM.lt (Ne.symm h.ne)), h.ne, own_keep h.pend (fun g hg => ?_), fun i hi => ?_, fun i hi v hv => (h.freshC i hi v hv).keep (fun _ h _ => h) hc, h.Fs, h.Ff, h.Fp⟩
  · obtain ⟨cur, hb⟩ := own_row h.pend g hg
    exact h3 g cur _ hb
  · rcases hc' i hi with ⟨e1, e2⟩ | e
    · rw [e1, e2]
      exact (h.safeC i hi).keep (fun _ h _ => h) hc
    · exact e.keep (fun _ h _ => h) hc

/-- The list is empty again. -/
theorem Rest.emptied (h : Rest w F sb fb pv n safe last pl sN fN sf ff) {v' : Value} (hv : v' = .slice none 0 0 ∧ pv = .slice none 0 0 ∨ ∃ A m c, pv = .slice (some A) m c ∧ v' = .slice (some A) 0 c) : Rest w F sb fb v' n safe last [] sN fN sf ff := by
  rcases hv with ⟨rfl, rfl⟩ | ⟨A, m, c, rfl, rfl⟩
  · exact { h with pend := ⟨rfl, .inl ⟨rfl, rfl⟩⟩ }
  · have hp := h.pend
    rcases hp.2 with ⟨e, _⟩ | ⟨g, cap, cur, e, hb, hg, hc, hm, hs, _⟩
    · cases e
    · cases e
      exact { h with pend := ⟨rfl, .inr ⟨g, c, cur, rfl, hb, hg, Nat.zero_le _, hm, hs, rfl⟩⟩, Fp := fun g' hg' => h.Fp g' (by simpa [Value.ownBlock] using hg') }
end

/-- How many writes the fuse lets through. -/
def ArmIs (left : Int) (arm : Option Nat) : Prop := (-9223372036854775808 ≤ left ∧ left ≤ 9223372036854775807) ∧ (left < 0 ∧ arm = none ∨ ∃ k : Nat, left = k ∧ arm = some k)

/-- In w the program's disk S lies at p, in the blocks of F. -/
def DAt (w : World) (F : Nat → Prop) (p : Addr) (S : DS) : Prop :=
  ∃ b sb fb left pv sN fN sf ff, p = ⟨b, 0, none⟩ ∧ w.rowIs b 156 7 (diskRow left S.down S.n sb fb pv S.writes) ∧ Rest w F sb fb pv S.n S.safe S.last S.pend sN fN sf ff ∧ ArmIs left S.arm ∧ S.Ok ∧ (∀ i : Nat, i < S.n → ((ff i).isSome = true ↔ i ∈ S.pend)) ∧ (sN + fN ≤ S.writes ∧ S.pend.length ≤ fN ∧ S.writes ≤ 9223372036854775807) ∧ F b ∧ ∀ k, F k → k < w.heap.size

theorem lt_of_same {w w' : World} {k : Nat} (hlt : k < w.heap.size) (e : w'.heap[k]? = w.heap[k]?) : k < w'.heap.size := by
  rcases Nat.lt_or_ge k w'.heap.size with h | h
  · exact h
  · rw [Array.getElem?_eq_none h, Array.getElem?_eq_getElem hlt] at e
    cases e
theorem DAt.keep {w w' : World} {F : Nat → Prop} {p : Addr} {S : DS} (h : DAt w F p S) (hk : ∀ k, F k → w'.heap[k]? = w.heap[k]?) : DAt w' F p S := by
  obtain ⟨b, sb, fb, left, pv, sN, fN, sf, ff, rfl, hrow, hrest, harm, hok, hdom, hcnt, hFb, hlt⟩ := h
  exact ⟨b, sb, fb, left, pv, sN, fN, sf, ff, rfl, hrow.of_block (hk _ hFb), hrest.keep (fun _ h _ => h) (fun k hk' _ _ => hk k hk'), harm, hok, hdom, hcnt, hFb, fun k hk' => lt_of_same (hlt k hk') (hk k hk')⟩

/-- What a disk of F has become, its new blocks with it. -/
def After (F : Nat → Prop) (w w' : World) (p : Addr) (S' : DS) : Prop := ∃ F' : Nat → Prop, DAt w' F' p S' ∧ Touch F w w' ∧ ∀ k, F' k → F k ∨ w.heap.size ≤ k

/-- The blocks of F, and all new ones. -/
def FN (F : Nat → Prop) (w : World) : Nat → Prop := fun k => F k ∨ w.heap.size ≤ k

theorem Touch.grow {F : Nat → Prop} {w0 w w' : World} {row : Option Nat} (h : Touch F w0 w) (hg : w.grownBy w' row) (hr : ∀ x, row = some x → FN F w0 x) : Touch F w0 w' :=
  ⟨hg.os.trans h.os, hg.tape.trans h.tape, hg.output.trans h.output, Nat.le_trans h.size hg.size, fun k hk hF => (hg.block k (Nat.lt_of_lt_of_le hk h.size) (fun e => by
    rcases hr k e.symm with h1 | h1
    · exact hF h1
    · omega)).trans (h.block k hk hF)⟩
theorem grown_setCell (w : World) (b o : Nat) (v : Value) : w.grownBy (w.setCell ⟨b, o, none⟩ v) (some b) :=
  ⟨rfl, rfl, rfl, by simp, fun k _ hk => Below.heap_setCell w ⟨b, o, none⟩ v k (fun e => hk (by rw [e]))⟩
theorem grown_below {w w' : World} (h : Below w.heap.size w w') : w.grownBy w' none := ⟨h.os, h.tape, h.output, h.size, fun k hk _ => h.block k hk⟩

/-- The parts joined again. -/
theorem After.mk' {w0 w : World} {F : Nat → Prop} {b sb fb : Nat} {left : Int} {pv : Value} {sN fN : Nat} {sf ff : Int → Option Value} {S : DS} (hrow : w.rowIs b 156 7 (diskRow left S.down S.n sb fb pv S.writes)) (hrest : Rest w (FN F w0) sb fb pv S.n S.safe S.last S.pend sN fN sf ff) (harm : ArmIs left S.arm) (hok : S.Ok)
    (hdom : ∀ i : Nat, i < S.n → ((ff i).isSome = true ↔ i ∈ S.pend)) (hcnt : sN + fN ≤ S.writes ∧ S.pend.length ≤ fN ∧ S.writes ≤ 9223372036854775807) (hb : FN F w0 b) (ht : Touch F w0 w) : After F w0 w ⟨b, 0, none⟩ S :=
  ⟨fun k => FN F w0 k ∧ k < w.heap.size, ⟨b, sb, fb, left, pv, sN, fN, sf, ff, rfl, hrow, hrest.keep (fun k h1 h2 => ⟨h1, h2⟩) (fun _ _ _ _ => rfl), harm, hok, hdom, hcnt, ⟨hb, hrow.lt⟩, fun k hk => hk.2⟩, ht, fun k hk => hk.1⟩

end Go.Proofs.YtkpmfobmlaldfaaGreatDoor

/-
  The small functions of the program's disk by contract: made, ready, has, the fuse; Size, Writes, Down, Arm; New. No condition beyond what each says of the cells.
-/
namespace Go.Proofs.YtkpmfobmlaldfaaGreatDoor
open Go.RowKit
set_option maxRecDepth 100000
set_option linter.unusedVariables false

section
variable {w : World} {b : Nat}

theorem made_nil (w : World) : Calls Tryz.prog 169 #[.pointer none] w fun e w' => e = .returned (.bool false) ∧ w = w' := by
  go_enter Tryz.func169, Tryz.ntmps169
  go_wp2
  go_ret
  exact ⟨rfl, rfl⟩
theorem made_yes {n : Int} (h2 : w.cell? ⟨b, 2, none⟩ = some (.int .i64 n)) (hn : 0 < n) : Calls Tryz.prog 169 #[.pointer (some ⟨b, 0, none⟩)] w fun e w' => e = .returned (.bool true) ∧ w = w' := by
  have k : decide (0 < n) = true := by simpa using hn
  go_enter Tryz.func169, Tryz.ntmps169
  go_wp2
  go_ret
  exact ⟨rfl, rfl⟩
theorem made_no (h2 : w.cell? ⟨b, 2, none⟩ = some (.int .i64 0)) : Calls Tryz.prog 169 #[.pointer (some ⟨b, 0, none⟩)] w fun e w' => e = .returned (.bool false) ∧ w = w' := by
  go_enter Tryz.func169, Tryz.ntmps169
  go_wp2
  go_ret
  exact ⟨rfl, rfl⟩

theorem ready_nil (w : World) : Calls Tryz.prog 156 #[.pointer none] w fun e w' => e = .returned (.int .i64 2) ∧ w = w' := by
  go_enter Tryz.func156, Tryz.ntmps156
  go_wp2_with fail
  refine (made_nil w).mono ?_
  rintro e w1 ⟨rfl, rfl⟩
  go_wp2
  go_ret
  exact ⟨rfl, rfl⟩
theorem ready_no (h2 : w.cell? ⟨b, 2, none⟩ = some (.int .i64 0)) : Calls Tryz.prog 156 #[.pointer (some ⟨b, 0, none⟩)] w fun e w' => e = .returned (.int .i64 2) ∧ w = w' := by
  go_enter Tryz.func156, Tryz.ntmps156
  go_wp2_with fail
  refine (made_no h2).mono ?_
  rintro e w1 ⟨rfl, rfl⟩
  go_wp2
  go_ret
  exact ⟨rfl, rfl⟩
theorem ready_down {n : Int} (h1 : w.cell? ⟨b, 1, none⟩ = some (.bool true)) (h2 : w.cell? ⟨b, 2, none⟩ = some (.int .i64 n)) (hn : 0 < n) : Calls Tryz.prog 156 #[.pointer (some ⟨b, 0, none⟩)] w fun e w' => e = .returned (.int .i64 5) ∧ w = w' := by
  go_enter Tryz.func156, Tryz.ntmps156
  go_wp2_with fail
  refine (made_yes h2 hn).mono ?_
  rintro e w1 ⟨rfl, rfl⟩
  go_wp2
  go_ret
  exact ⟨rfl, rfl⟩
theorem ready_ok {n : Int} (h1 : w.cell? ⟨b, 1, none⟩ = some (.bool false)) (h2 : w.cell? ⟨b, 2, none⟩ = some (.int .i64 n)) (hn : 0 < n) : Calls Tryz.prog 156 #[.pointer (some ⟨b, 0, none⟩)] w fun e w' => e = .returned (.int .i64 0) ∧ w = w' := by
  go_enter Tryz.func156, Tryz.ntmps156
  go_wp2_with fail
  refine (made_yes h2 hn).mono ?_
  rintro e w1 ⟨rfl, rfl⟩
  go_wp2
  go_ret
  exact ⟨rfl, rfl⟩

theorem hasDev_any {n : Int} (i : Int) (h2 : w.cell? ⟨b, 2, none⟩ = some (.int .i64 n)) : Calls Tryz.prog 157 #[.pointer (some ⟨b, 0, none⟩), .int .i64 i] w fun e w' => e = .returned (.bool (decide (0 ≤ i ∧ i < n))) ∧ w = w' := by
  by_cases h0 : 0 ≤ i
  · have k0 : decide (0 ≤ i) = true := by simpa using h0
    have e : decide (0 ≤ i ∧ i < n) = decide (i < n) := by simp [h0]
    rw [e]
    generalize hq : decide (i < n) = q
    clear h0 e
    cases q
    · go_enter Tryz.func157, Tryz.ntmps157
      go_wp2
      go_ret
      exact ⟨rfl, rfl⟩
    · go_enter Tryz.func157, Tryz.ntmps157
      go_wp2
      go_ret
      exact ⟨rfl, rfl⟩
  · have k0 : decide (0 ≤ i) = false := by simpa using h0
    have e : decide (0 ≤ i ∧ i < n) = false := by simp [h0]
    rw [e]
    clear h0 e
    go_enter Tryz.func157, Tryz.ntmps157
    go_wp2
    go_ret
    exact ⟨rfl, rfl⟩

theorem blows_yes (h0 : w.cell? ⟨b, 0, none⟩ = some (.int .i64 0)) (h1 : w.cell? ⟨b, 1, none⟩ = some (.bool false)) (f1 : w.frozen? ⟨b, 1, none⟩ = false) :
    Calls Tryz.prog 216 #[.pointer (some ⟨b, 0, none⟩)] w fun e w' => e = .returned (.bool true) ∧ w' = w.setCell ⟨b, 1, none⟩ (.bool true) := by
  go_enter Tryz.func216, Tryz.ntmps216
  go_wp2
  go_ret
  exact ⟨rfl, rfl⟩
theorem blows_less {k : Nat} (hk : (k : Int) + 1 ≤ 9223372036854775807) (h0 : w.cell? ⟨b, 0, none⟩ = some (.int .i64 ((k : Int) + 1))) (h1 : w.cell? ⟨b, 1, none⟩ = some (.bool false)) (f0 : w.frozen? ⟨b, 0, none⟩ = false) :
    Calls Tryz.prog 216 #[.pointer (some ⟨b, 0, none⟩)] w fun e w' => e = .returned (.bool false) ∧ w' = w.setCell ⟨b, 0, none⟩ (.int .i64 (k : Int)) := by
  have e0 : ((k : Int) + 1 == 0) = false := by simp; omega
  have e1 : decide ((0 : Int) < (k : Int) + 1) = true := by simp
  have e2 : wrap64 ((k : Int) + 1 - 1) = k := by unfold wrap64; omega
  go_enter Tryz.func216, Tryz.ntmps216
  go_wp2
  go_ret
  exact ⟨rfl, rfl⟩
theorem blows_none {left : Int} (hl : left < 0) (h0 : w.cell? ⟨b, 0, none⟩ = some (.int .i64 left)) (h1 : w.cell? ⟨b, 1, none⟩ = some (.bool false)) :
    Calls Tryz.prog 216 #[.pointer (some ⟨b, 0, none⟩)] w fun e w' => e = .returned (.bool false) ∧ w' = w := by
  have e0 : (left == 0) = false := by simp; omega
  have e1 : decide ((0 : Int) < left) = false := by simp; omega
  go_enter Tryz.func216, Tryz.ntmps216
  go_wp2
  go_ret
  exact ⟨rfl, rfl⟩
end

/-- A call that only reads, at a disk. -/
theorem DAt.parts {w : World} {F : Nat → Prop} {p : Addr} {S : DS} (h : DAt w F p S) : ∃ b sb fb left pv sN fN sf ff, p = ⟨b, 0, none⟩ ∧ w.rowIs b 156 7 (diskRow left S.down S.n sb fb pv S.writes) ∧ Rest w F sb fb pv S.n S.safe S.last S.pend sN fN sf ff ∧ ArmIs left S.arm ∧ S.Ok ∧ (∀ i : Nat, i < S.n → ((ff i).isSome = true ↔ i ∈ S.pend)) ∧ (sN + fN ≤ S.writes ∧ S.pend.length ≤ fN ∧ S.writes ≤ 9223372036854775807) ∧ F b ∧ (∀ k, F k → k < w.heap.size) ∧
    w.cell? ⟨b, 0, none⟩ = some (.int .i64 left) ∧ w.cell? ⟨b, 1, none⟩ = some (.bool S.down) ∧ w.cell? ⟨b, 2, none⟩ = some (.int .i64 S.n) ∧ w.cell? ⟨b, 3, none⟩ = some (.map (some sb)) ∧ w.cell? ⟨b, 4, none⟩ = some (.map (some fb)) ∧ w.cell? ⟨b, 5, none⟩ = some pv ∧ w.cell? ⟨b, 6, none⟩ = some (.int .i64 S.writes) := by
  obtain ⟨b, sb, fb, left, pv, sN, fN, sf, ff, e, hrow, rest⟩ := h
  obtain ⟨h1, h2, h3, h4, h5, h6, h7⟩ := rest
  exact ⟨b, sb, fb, left, pv, sN, fN, sf, ff, e, hrow, h1, h2, h3, h4, h5, h6, h7, hrow.cell (i := 0) (by decide), hrow.cell (i := 1) (by decide), hrow.cell (i := 2) (by decide), hrow.cell (i := 3) (by decide), hrow.cell (i := 4) (by decide), hrow.cell (i := 5) (by decide), hrow.cell (i := 6) (by decide)⟩

theorem size_same (w : World) (F : Nat → Prop) (p : Addr) (S : DS) (h : DAt w F p S) : Calls Tryz.prog 102 #[.pointer (some p)] w fun e w' => e = .returned (.int .i64 (S.n : Int)) ∧ w' = w := by
  obtain ⟨b, sb, fb, left, pv, sN, fN, sf, ff, rfl, hrow, hrest, harm, hok, hdom, hcnt, hFb, hlt, c0, c1, c2, c3, c4, c5, c6⟩ := h.parts
  have hn : (0 : Int) < (S.n : Int) := by have := hok.size; omega
  go_enter Tryz.func102, Tryz.ntmps102
  go_wp2_with fail
  refine (made_yes c2 hn).mono ?_
  rintro e w1 ⟨rfl, rfl⟩
  go_wp2
  go_ret
  exact ⟨rfl, rfl⟩
theorem size_dev (w : World) (F : Nat → Prop) (p : Addr) (S : DS) (h : DAt w F p S) : Calls Tryz.prog 102 #[.pointer (some p)] w fun e w' => e = .returned (.int .i64 (S.n : Int)) ∧ Below w.heap.size w w' :=
  (size_same w F p S h).mono fun e w' ⟨h1, h2⟩ => ⟨h1, h2 ▸ Below.refl _ _⟩
theorem diskRow_set0 (left left' : Int) (down : Bool) (n sb fb : Nat) (pv : Value) (wr : Nat) : ∀ i, i < 7 → (fun j => if j = 0 then Value.int .i64 left' else diskRow left down n sb fb pv wr j) i = diskRow left' down n sb fb pv wr i := by
  intro i hi
  rcases (show i = 0 ∨ i = 1 ∨ i = 2 ∨ i = 3 ∨ i = 4 ∨ i = 5 ∨ i = 6 by omega) with rfl | rfl | rfl | rfl | rfl | rfl | rfl <;> rfl
theorem diskRow_set1 (left : Int) (down down' : Bool) (n sb fb : Nat) (pv : Value) (wr : Nat) : ∀ i, i < 7 → (fun j => if j = 1 then Value.bool down' else diskRow left down n sb fb pv wr j) i = diskRow left down' n sb fb pv wr i := by
  intro i hi
  rcases (show i = 0 ∨ i = 1 ∨ i = 2 ∨ i = 3 ∨ i = 4 ∨ i = 5 ∨ i = 6 by omega) with rfl | rfl | rfl | rfl | rfl | rfl | rfl <;> rfl
theorem diskRow_set5 (left : Int) (down : Bool) (n sb fb : Nat) (pv pv' : Value) (wr : Nat) : ∀ i, i < 7 → (fun j => if j = 5 then pv' else diskRow left down n sb fb pv wr j) i = diskRow left down n sb fb pv' wr i := by
  intro i hi
  rcases (show i = 0 ∨ i = 1 ∨ i = 2 ∨ i = 3 ∨ i = 4 ∨ i = 5 ∨ i = 6 by omega) with rfl | rfl | rfl | rfl | rfl | rfl | rfl <;> rfl
theorem diskRow_set6 (left : Int) (down : Bool) (n sb fb : Nat) (pv : Value) (wr wr' : Nat) : ∀ i, i < 7 → (fun j => if j = 6 then Value.int .i64 wr' else diskRow left down n sb fb pv wr j) i = diskRow left down n sb fb pv wr' i := by
  intro i hi
  rcases (show i = 0 ∨ i = 1 ∨ i = 2 ∨ i = 3 ∨ i = 4 ∨ i = 5 ∨ i = 6 by omega) with rfl | rfl | rfl | rfl | rfl | rfl | rfl <;> rfl

/-- A store into the disk's own block leaves the rest. -/
theorem Rest.setCell {w : World} {F : Nat → Prop} {b sb fb : Nat} {pv : Value} {n : Nat} {safe last : Nat → List Int} {pl : List Nat} {sN fN : Nat} {sf ff : Int → Option Value} {f : Nat → Value} (h : Rest w F sb fb pv n safe last pl sN fN sf ff) (hrow : w.rowIs b 156 7 f) (o : Nat) (v : Value) : Rest (w.setCell ⟨b, o, none⟩ v) F sb fb pv n safe last pl sN fN sf ff :=
  h.keep (fun _ h _ => h) (fun k _ hk hne => (grown_setCell w b o v).block k hk (fun e => by
    obtain ⟨c, hb, _⟩ := hrow
    have : k = b := by injection e
    subst this
    exact hne c hb))
/-- What was there stands: the rest too. -/
theorem Rest.below {w w' : World} {F : Nat → Prop} {sb fb : Nat} {pv : Value} {n : Nat} {safe last : Nat → List Int} {pl : List Nat} {sN fN : Nat} {sf ff : Int → Option Value} (h : Rest w F sb fb pv n safe last pl sN fN sf ff) (hb : Below w.heap.size w w') : Rest w' F sb fb pv n safe last pl sN fN sf ff :=
  h.keep (fun _ h _ => h) (fun k _ hk _ => hb.block k hk)

end Go.Proofs.YtkpmfobmlaldfaaGreatDoor

/-
  disk.New by contract. No condition.
-/
namespace Go.Proofs.YtkpmfobmlaldfaaGreatDoor
open Go.RowKit
set_option maxRecDepth 100000
set_option linter.unusedVariables false

set_option maxHeartbeats 400000 in
theorem new_no (n : Int) (w : World) (h : ¬ (3 ≤ n ∧ n ≤ 65536)) : Calls Tryz.prog 41 #[.int .i64 n] w fun e w' => e = .returned (.tuple #[.pointer none, .int .i64 1]) ∧ w = w' := by
  by_cases h1 : n < 3
  · have k1 : decide (n < 3) = true := by simpa using h1
    clear h h1
    go_enter Tryz.func41, Tryz.ntmps41
    go_wp2
    go_ret2
    exact ⟨rfl, rfl⟩
  · have k1 : decide (n < 3) = false := by simpa using h1
    have k2 : decide ((65536 : Int) < n) = true := by simp; omega
    clear h h1
    go_enter Tryz.func41, Tryz.ntmps41
    go_wp2
    go_ret2
    exact ⟨rfl, rfl⟩

/-- A disk as New makes it. -/
theorem new_at (n : Nat) (w : World) (h1 : 3 ≤ n) (h2 : n ≤ 65536) : After (fun _ => False) w ((((w.alloc (.map #[] 0)).alloc (.map #[] 0))).alloc (.cells #[.int .i64 (-1), .bool false, .int .i64 (n : Int), .map (some w.heap.size), .map (some (w.heap.size + 1)), .slice none 0 0, .int .i64 0] 156)) ⟨w.heap.size + 2, 0, none⟩ (DS.new n) := by
  have s0 : (w.alloc (.map #[] 0)).heap.size = w.heap.size + 1 := by simp
  have s1 : ((w.alloc (.map #[] 0)).alloc (.map #[] 0)).heap.size = w.heap.size + 2 := by simp
  generalize hw1 : w.alloc (.map #[] 0) = w1 at *
  generalize hw2 : w1.alloc (.map #[] 0) = w2 at *
  have m1 : IMap w1 w.heap.size 0 (fun _ => none) := by rw [← hw1]; exact IMap.made w
  have m1' : IMap w2 w.heap.size 0 (fun _ => none) := m1.of_block (by rw [← hw2]; exact heap_alloc_old _ _ (by omega))
  have m2 : IMap w2 (w.heap.size + 1) 0 (fun _ => none) := by rw [← hw2, ← s0]; exact IMap.made w1
  have b01 : Below w.heap.size w w2 := by
    rw [← hw2, ← hw1]
    exact ((Below.refl _ _).alloc (Nat.le_refl _) _).alloc (by simp) _
  have b02 := b01.alloc (o := .cells #[.int .i64 (-1), .bool false, .int .i64 (n : Int), .map (some w.heap.size), .map (some (w.heap.size + 1)), .slice none 0 0, .int .i64 0] 156) (by omega)
  rw [← s1]
  have hrest : Rest w2 (FN (fun _ => False) w) w.heap.size (w.heap.size + 1) (.slice none 0 0) (DS.new n).n (DS.new n).safe (DS.new n).last (DS.new n).pend 0 0 (fun _ => none) (fun _ => none) :=
    ⟨m1', m2, by omega, ⟨rfl, .inl ⟨rfl, rfl⟩⟩, fun i _ => rfl, (fun i _ v hv => by cases hv), .inr (Nat.le_refl _), .inr (by omega), fun g hg => by cases hg⟩
  refine After.mk' (left := -1) ?_ (hrest.keep (fun _ h _ => h) (fun k _ hk _ => heap_alloc_old _ _ hk)) ⟨by omega, .inl ⟨by omega, rfl⟩⟩ (DS.new_ok ⟨h1, h2⟩) (fun i _ => by simp [DS.new]) ⟨Nat.le_refl _, Nat.le_refl _, Nat.zero_le _⟩ (.inr (by omega)) (Touch.of_below b02)
  refine ⟨_, heap_alloc_new _ _, rfl, fun i hi => ?_⟩
  rcases (show i = 0 ∨ i = 1 ∨ i = 2 ∨ i = 3 ∨ i = 4 ∨ i = 5 ∨ i = 6 by omega) with rfl | rfl | rfl | rfl | rfl | rfl | rfl <;> rfl

set_option maxHeartbeats 400000 in
theorem new_yes (n : Nat) (w : World) (h1 : 3 ≤ n) (h2 : n ≤ 65536) : Calls Tryz.prog 41 #[.int .i64 n] w fun e w' => ∃ p : Addr, e = .returned (.tuple #[.pointer (some p), .int .i64 0]) ∧ After (fun _ => False) w w' p (DS.new n) := by
  have hmm := @run_makeMap Tryz.prog
  have k1 : decide ((n : Int) < 3) = false := by simp; omega
  have k2 : decide ((65536 : Int) < (n : Int)) = false := by simp; omega
  have HE := Lib.hid (new_at n w h1 h2)
  go_enter Tryz.func41, Tryz.ntmps41
  go_wp2
  go_ret2
  exact ⟨_, rfl, HE.out⟩

end Go.Proofs.YtkpmfobmlaldfaaGreatDoor

/-
  slices.Clone on bytes by contract, and the program's Read. Condition: fewer than 2^43 elements.
-/
namespace Go.Proofs.YtkpmfobmlaldfaaGreatDoor
open Go.RowKit
set_option maxRecDepth 100000
set_option linter.unusedVariables false

set_option maxHeartbeats 400000 in
theorem CloneB_own {w : World} {B n : Nat} {A : Option Addr} {l : List Int} (c : Nat) (h : RB w B A n l) (hB : B ≤ w.heap.size) (hn : n ≤ 140737488355328) :
    Calls Tryz.prog 48 #[.slice A n c] w fun e w' => ∃ A' c', e = .returned (.slice A' n c') ∧ n ≤ c' ∧ w'.ownsRow w.heap.size 5 1 (.slice A' n c') n (l.map (Value.int .u8)) ∧ Below w.heap.size w w' := by
  have q22 : ∀ (w : World) (a : Option Addr) (n c n' c' : Nat), (binOp .eql 32 (.slice a n c) (.slice none n' c')).run Tryz.prog w = .ok (.bool a.isNone) w := fun w a n c n' c' => Lib.run_eql_slice_nil w _ _ a n c n' c' Tryz.underlying32
  rcases A with _ | ad
  · have hm : n = 0 := by
      rcases Nat.eq_zero_or_pos n with h0 | h0
      · exact h0
      · obtain ⟨b, off, e, _⟩ := h.at_ h0; cases e
    subst hm
    obtain rfl : l = [] := List.eq_nil_of_length_eq_zero h.len
    go_enter Tryz.func48, Tryz.ntmps48
    go_wp2
    go_ret
    exact ⟨none, 0, rfl, Nat.le_refl _, World.ownsRow_nil _ _ _ _, Below.refl _ _⟩
  · go_enter Tryz.func48, Tryz.ntmps48
    go_wp2_with (at_builtin; refine wpList_append_bytes rfl _ _ rfl w.heap.size _ 0 [] rfl (World.ownsRow_made w #[] 0 (Nat.le_refl _) (Nat.zero_le _) rfl) B (some ad) n c l rfl (h.alloc hB _) (by omega) (by simp) ?_; intro v1 w1 hown1 _ hb1)
    simp only [Nat.zero_add, List.nil_append] at hown1
    obtain ⟨A', c', rfl, hc'⟩ := own_shape hown1
    go_ret
    exact ⟨A', c', rfl, hc', hown1, ((Below.refl w.heap.size w).alloc (Nat.le_refl _) _).trans hb1⟩

theorem zero_slice (w : World) : (zeroValue 32).run Tryz.prog w = .ok (.slice none 0 0) w := by kernel_rfl

theorem readE_down {S : DS} (i : Int) (h : S.down = true) : S.readE i = 5 ∧ S.readL i = [] := by
  have e : S.readE i = 5 := by simp [DS.readE, h]
  exact ⟨e, by simp [DS.readL, e]⟩
theorem readE_no {S : DS} {i : Int} (h : S.down = false) (hi : ¬ S.has i) : S.readE i = 1 ∧ S.readL i = [] := by
  have e : S.readE i = 1 := by simp [DS.readE, h, hi]
  exact ⟨e, by simp [DS.readL, e]⟩
theorem readE_yes {S : DS} {i : Int} (h : S.down = false) (hi : S.has i) : S.readE i = 0 ∧ S.readL i = S.last i.toNat := by
  have e : S.readE i = 0 := by simp [DS.readE, h, hi]
  exact ⟨e, by simp [DS.readL, e]⟩

theorem made_nought {w : World} {base g : Nat} (h : w.ownsRow base 5 1 (.slice (some ⟨g, 0, none⟩) 256 256) 256 (madeCells (Value.int .u8 0).cells (256 * 1)).toList) : RB w w.heap.size (some ⟨g, 0, none⟩) 256 nought := by
  refine RB.of_own (base := base) (e := 5) (c := 256) ?_ nought_ok.2
  rw [show (Value.int .u8 0).cells = #[Value.int .u8 0] from rfl, toList_madeCells_one, Nat.mul_one] at h
  rw [nought, List.map_replicate]
  exact h

theorem own_from0 {w : World} {base e n c : Nat} {A : Option Addr} {xs : List Value} (h : w.ownsRow base e 1 (.slice A n c) n xs) : ∀ a, A = some a → ∃ g, a = ⟨g, 0, none⟩ ∧ base ≤ g := by
  intro a ha
  subst ha
  rcases h.2 with ⟨e1, _⟩ | ⟨g, cap, cur, e1, hb, _⟩
  · cases e1
  · cases e1; exact ⟨g, rfl, hb⟩

set_option maxHeartbeats 800000 in
theorem read_fresh (i : Int) (w : World) (F : Nat → Prop) (p : Addr) (S : DS) (h : DAt w F p S) : Calls Tryz.prog 89 #[.pointer (some p), .int .i64 i] w fun e w' => ∃ (A : Option Addr) (n c : Nat), e = .returned (.tuple #[.slice A n c, .int .i64 (S.readE i)]) ∧ n ≤ c ∧ RB w' w'.heap.size A n (S.readL i) ∧ Below w.heap.size w w' ∧ ∀ a, A = some a → ∃ g, a = ⟨g, 0, none⟩ ∧ w.heap.size ≤ g := by
  obtain ⟨b, sb, fb, left, pv, sN, fN, sf, ff, rfl, hrow, hrest, harm, hok, hdom, hcnt, hFb, hlt, c0, c1, c2, c3, c4, c5, c6⟩ := h.parts
  have hn : (0 : Int) < (S.n : Int) := by have := hok.size; omega
  have hnm := hok.size
  by_cases hd : S.down = true
  · obtain ⟨e1, e2⟩ := readE_down i hd
    rw [hd] at c1
    rw [e1, e2]
    clear h hrow hrest hdom hd e1 e2 hlt
    go_enter Tryz.func89, Tryz.ntmps89
    go_wp2_with fail
    refine (ready_down c1 c2 hn).mono ?_
    rintro e w1 ⟨rfl, rfl⟩
    go_wp2
    go_ret2
    exact ⟨none, 0, 0, rfl, Nat.le_refl _, RB.nil_, Below.refl _ _, fun a ha => by cases ha⟩
  have hd' : S.down = false := by simpa using hd
  rw [hd'] at c1
  by_cases hi : S.has i
  · obtain ⟨e1, e2⟩ := readE_yes hd' hi
    rw [e1, e2]
    unfold DS.has at hi
    obtain ⟨k, rfl⟩ := Int.eq_ofNat_of_zero_le hi.1
    have hk : k < S.n := by omega
    have HH := Lib.hid (show decide (0 ≤ (k : Int) ∧ (k : Int) < (S.n : Int)) = true by simpa using hi)
    rw [Int.toNat_natCast]
    have hki : -9223372036854775808 ≤ (k : Int) ∧ (k : Int) ≤ 9223372036854775807 := by omega
    have q1 := hrest.freshM.look Tryz.underlying50 (zero_slice w) hki
    have q2 := hrest.safeM.look Tryz.underlying50 (zero_slice w) hki
    have hbytes := hok.lastBytes k
    have hfr := hrest.freshC k hk
    have hsf := hrest.safeC k hk
    have hdk := hdom k hk
    have hsame := hok.same k
    clear h hrow hrest hdom hd e1 e2 hlt hok
    rcases hff : ff (k : Int) with _ | v
    · rw [hff] at q1 hdk
      simp only [Option.getD_none, Option.isSome_none] at q1
      have hl : S.last k = S.safe k := hsame (fun hm => by simpa using hdk.2 hm)
      rw [hl] at hbytes ⊢
      clear hl hsame hdk hfr
      rcases hsv : sf (k : Int) with _ | v
      · rw [hsv] at q2 hsf
        simp only [Option.getD_none, Option.isSome_none] at q2
        obtain ⟨i0, hi', hz0, hz1, hz2⟩ := info_parts info_u8
        rw [show S.safe k = nought from hsf]
        clear hsf
        go_enter Tryz.func89, Tryz.ntmps89
        go_wp2_with fail
        refine (ready_ok c1 c2 hn).mono ?_
        rintro e w1 ⟨rfl, rfl⟩
        go_wp2_with fail
        refine (hasDev_any _ c2).mono ?_
        rw [HH.out]
        rintro e w1 ⟨rfl, rfl⟩
        go_wp2_with (refine wpList_make_full w rfl _ _ 32 rfl w.heap.size 5 i0 (.int .u8 0) 1 Tryz.underlying32 hi' hz0 hz1 .i64 .i64 _ _ 256 rfl rfl rfl rfl (by rw [hz2]; decide) (by decide) (Nat.le_refl _) ?_; intro w1 hown1 hg1; have hb1 : Below w.heap.size w w1 := (Below.refl _ _).grown hg1 (Nat.le_refl _) (by simp); have hr1 := made_nought hown1; clear hown1 hg1)
        go_ret2
        exact ⟨_, 256, 256, rfl, Nat.le_refl _, hr1, hb1, fun a ha => by cases ha; exact ⟨_, rfl, Nat.le_refl _⟩⟩
      · rw [hsv] at q2 hsf
        obtain ⟨g, c, rfl, hc, hr⟩ := Cont.rb hsf hbytes
        simp only [Option.getD_some, Option.isSome_some] at q2
        clear hsf
        go_enter Tryz.func89, Tryz.ntmps89
        go_wp2_with fail
        refine (ready_ok c1 c2 hn).mono ?_
        rintro e w1 ⟨rfl, rfl⟩
        go_wp2_with fail
        refine (hasDev_any _ c2).mono ?_
        rw [HH.out]
        rintro e w1 ⟨rfl, rfl⟩
        go_wp2_with fail
        refine (CloneB_own c hr (Nat.le_refl _) (by decide)).mono ?_
        rintro e w1 ⟨A', c', rfl, hc', hown, hb⟩
        go_wp2
        go_ret2
        exact ⟨_, _, _, rfl, hc', RB.of_own hown hbytes.2, hb, own_from0 hown⟩
    · rw [hff] at q1
      obtain ⟨g, c, rfl, hc, hr⟩ := Cont.rb (hfr v hff) hbytes
      simp only [Option.getD_some, Option.isSome_some] at q1
      clear hsf hfr hdk hsame q2
      go_enter Tryz.func89, Tryz.ntmps89
      go_wp2_with fail
      refine (ready_ok c1 c2 hn).mono ?_
      rintro e w1 ⟨rfl, rfl⟩
      go_wp2_with fail
      refine (hasDev_any _ c2).mono ?_
      rw [HH.out]
      rintro e w1 ⟨rfl, rfl⟩
      go_wp2_with fail
      refine (CloneB_own c hr (Nat.le_refl _) (by decide)).mono ?_
      rintro e w1 ⟨A', c', rfl, hc', hown, hb⟩
      go_wp2
      go_ret2
      exact ⟨_, _, _, rfl, hc', RB.of_own hown hbytes.2, hb, own_from0 hown⟩
  · obtain ⟨e1, e2⟩ := readE_no hd' hi
    rw [e1, e2]
    have HH := Lib.hid (show decide (0 ≤ i ∧ i < (S.n : Int)) = false by simpa [DS.has] using hi)
    clear h hrow hrest hdom hd e1 e2 hlt hi
    go_enter Tryz.func89, Tryz.ntmps89
    go_wp2_with fail
    refine (ready_ok c1 c2 hn).mono ?_
    rintro e w1 ⟨rfl, rfl⟩
    go_wp2_with fail
    refine (hasDev_any _ c2).mono ?_
    rw [HH.out]
    rintro e w1 ⟨rfl, rfl⟩
    go_wp2
    go_ret2
    exact ⟨none, 0, 0, rfl, Nat.le_refl _, RB.nil_, Below.refl _ _, fun a ha => by cases ha⟩

theorem read_dev (i : Int) (w : World) (F : Nat → Prop) (p : Addr) (S : DS) (h : DAt w F p S) : Calls Tryz.prog 89 #[.pointer (some p), .int .i64 i] w fun e w' => ∃ (A : Option Addr) (n c : Nat), e = .returned (.tuple #[.slice A n c, .int .i64 (S.readE i)]) ∧ n ≤ c ∧ RB w' w'.heap.size A n (S.readL i) ∧ Below w.heap.size w w' :=
  (read_fresh i w F p S h).mono fun e w' ⟨A, n, c, h1, h2, h3, h4, _⟩ => ⟨A, n, c, h1, h2, h3, h4⟩
/-- A sector that is there: its bytes lie in a new block. -/
theorem read_at (i : Int) (w : World) (F : Nat → Prop) (p : Addr) (S : DS) (h : DAt w F p S) (hr : S.readE i = 0) : Calls Tryz.prog 89 #[.pointer (some p), .int .i64 i] w fun e w' => ∃ g c, e = .returned (.tuple #[.slice (some ⟨g, 0, none⟩) 256 c, .int .i64 0]) ∧ 256 ≤ c ∧ w.heap.size ≤ g ∧ RB w' w'.heap.size (some ⟨g, 0, none⟩) 256 (S.last i.toNat) ∧ Below w.heap.size w w' := by
  have hok : S.Ok := by
    obtain ⟨b, sb, fb, left, pv, sN, fN, sf, ff, rfl, hrow, hrest, harm, hok, rest⟩ := h
    exact hok
  refine (read_fresh i w F p S h).mono ?_
  rintro e w' ⟨A, n, c, rfl, hc, hrb, hb, hA⟩
  rw [hr]
  have e2 : S.readL i = S.last i.toNat := by unfold DS.readL; rw [if_pos hr]
  rw [e2] at hrb
  have hn : n = 256 := by rw [← hrb.len]; exact (hok.lastBytes _).1
  subst hn
  obtain ⟨b, off, e3, _⟩ := hrb.at_ (by decide)
  obtain ⟨g, e4, hg⟩ := hA _ e3
  cases e4
  subst e3
  exact ⟨b, c, rfl, hc, hg, hrb, hb⟩

theorem pend_reads {w : World} {pv : Value} {S : DS} (hok : S.Ok) (hp : w.ownsRow 0 3 1 pv S.pend.length ((S.pend.map Int.ofNat).map (Value.int .i64))) : ∃ A c, pv = .slice A S.pend.length c ∧ S.pend.length ≤ c ∧ RI w w.heap.size A S.pend.length S.pending := by
  obtain ⟨A, c, rfl, hc⟩ := int_own_shape hp
  have hsz := hok.size
  exact ⟨A, c, rfl, hc, (RI.of_own hp (fun x hx => by
    obtain ⟨k, hk, rfl⟩ := List.mem_map.1 hx
    have := hok.pendLt k hk
    have e : Int.ofNat k = (k : Int) := rfl
    rw [e]
    omega)).1⟩

theorem pend_len_le {S : DS} (h : S.Ok) : S.pend.length ≤ S.n := nodup_lt S.n S.pend h.pendNodup h.pendLt

end Go.Proofs.YtkpmfobmlaldfaaGreatDoor

/-
  The program's Write by contract. Condition: fewer than 2^63 - 1 writes.
-/
namespace Go.Proofs.YtkpmfobmlaldfaaGreatDoor
open Go.RowKit
set_option maxRecDepth 100000
set_option linter.unusedVariables false

theorem wpList_append_pend {w : World} {ops : Array Oper} {rest : List Oper} {o : Oper} {a : Act} {Q : Exit → Act → World → Prop} (hgd : o.guard = none) (s x : Operand)
    (ho : o.op = .call { callee := .builtin .append, args := #[s, x], argTypes := #[43, 43] })
    (v : Value) (n : Nat) (xs : List Int) (hs : a.eval s = v) (b : Nat) (z : Int) (T : TypeId) (hx : a.eval x = .slice (some ⟨b, 0, none⟩) 1 1)
    (hown : w.ownsRow 0 3 1 v n (xs.map (Value.int .i64))) (hb : w.heap[b]? = some (.cells #[.int .i64 z] T)) (h63 : n ≤ 8796093022207)
    (h : ∀ A' c' w', w'.ownsRow 0 3 1 (.slice A' (n + 1) c') (n + 1) ((xs ++ [z]).map (Value.int .i64)) → w.grownBy w' v.ownBlock → ((Value.slice A' (n + 1) c').ownBlock = v.ownBlock ∨ (Value.slice A' (n + 1) c').ownBlock = some w.heap.size) → wpList Tryz.prog ops Q rest (a.put o.dst (.slice A' (n + 1) c')) w') : wpList Tryz.prog ops Q (o :: rest) a w := by
  obtain ⟨i0, hi, hz0, hz1, hz2⟩ := info_parts info_int
  refine wpList_append_own_at w hgd s x 43 ho 0 3 i0 (.int .i64 0) 1 8 Tryz.underlying43 hi hz0 hz1 hz2 rfl (by decide) v n _ hs hown ⟨b, 0, none⟩ 1 1 [.int .i64 z] hx rfl (World.news_of_block (cs := #[.int .i64 z]) hb) (fun u hu => by obtain rfl := List.mem_singleton.1 hu; rfl) (by unfold maxLen; omega) (by omega) (Nat.zero_le _) ?_
  intro v' w' h1 h2 _ h4
  obtain ⟨A', c', rfl, _⟩ := int_own_shape h1
  exact h A' c' w' (by simpa using h1) h2 h4

section
variable {w w4 w5 : World} {F : Nat → Prop} {b sb fb : Nat} {left : Int} {pv : Value} {sN fN : Nat} {sf ff : Int → Option Value} {S : DS}

/-- The end of a write: the map's store and the count. -/
theorem write_end {pl : List Nat} {i : Nat} {l : List Int} {v : Value} (hok : S.Ok) (hd : S.down = false) (hi : i < S.n) (hl : l.length = 256 ∧ AllBytes l) (hpl : pl = if i ∈ S.pend then S.pend else S.pend ++ [i]) (hw : S.writes ≤ 9223372036854775806)
    (hrow : w4.rowIs b 156 7 (diskRow left false S.n sb fb pv S.writes)) (hrest : Rest w4 (FN F w) sb fb pv S.n S.safe S.last pl sN fN sf ff) (harm : ArmIs left (S.arm.map (· - 1))) (hdom : ∀ i : Nat, i < S.n → ((ff i).isSome = true ↔ i ∈ S.pend)) (hcnt : sN + fN ≤ S.writes ∧ S.pend.length ≤ fN) (hFb : F b) (ht : Touch F w w4)
    (hb5 : Below w4.heap.size w4 w5) (hown : w5.ownsRow w4.heap.size 5 1 v 256 (l.map (Value.int .u8))) :
    ∃ w6, (Instr.mapUpdate 50 (.map (some fb)) (.int .i64 (i : Int)) v).run Tryz.prog w5 = .ok () w6 ∧ w5.cell? ⟨b, 4, none⟩ = some (.map (some fb)) ∧ w6.cell? ⟨b, 6, none⟩ = some (.int .i64 (S.writes : Int)) ∧ w6.frozen? ⟨b, 6, none⟩ = false ∧
      Hid (After F w (w6.setCell ⟨b, 6, none⟩ (.int .i64 ((S.writes : Int) + 1))) ⟨b, 0, none⟩ (S.put i l)) := by
  have hrest5 := hrest.below hb5
  have hrow5 := hrow.of_block (hb5.block _ hrow.lt)
  have hsz := hok.size
  obtain ⟨w6, hrun, him, hgr⟩ := hrest5.freshM.store Tryz.underlying50 (i := (i : Int)) (by unfold maxLen; omega) (by omega) v
  have hne : b ≠ fb := by
    obtain ⟨es, c, h1⟩ := hrest5.freshM.block
    obtain ⟨cs, h2, _⟩ := hrow5
    intro e
    rw [e, h1] at h2
    cases h2
  have hrow6 := hrow5.of_block (hgr.block b hrow5.lt (fun e => hne (by injection e)))
  have hC : Cont w5 (FN F w) v l := Cont.of_own hown (fun k hk => .inr (Nat.le_trans ht.size hk))
  have hrest6 : Rest w6 (FN F w) sb fb pv S.n S.safe (S.put i l).last pl sN (fN + 1) sf _ := hrest5.freshed hgr him (last' := (S.put i l).last) (fun j hj u hu => by
    have e1 : (S.put i l).last j = if j = i then l else S.last j := rfl
    by_cases e : j = i
    · subst e
      rw [if_pos rfl] at e1
      rw [if_pos rfl] at hu
      obtain rfl : v = u := by injection hu
      exact .inr (by rw [e1]; exact hC)
    · rw [if_neg e] at e1
      rw [if_neg (by omega)] at hu
      exact .inl ⟨hu, e1⟩)
  have hputok : (S.put i l).Ok := DS.put_ok hok hi hl
  have hpl' : pl = (S.put i l).pend := hpl
  refine ⟨w6, hrun, hrow5.cell (i := 4) (by decide), hrow6.cell (i := 6) (by decide), hrow6.frozen 6, Lib.hid ?_⟩
  have hrow7 := (hrow6.set 6 (.int .i64 ((S.writes : Int) + 1))).congr (diskRow_set6 _ _ _ _ _ _ _ (S.writes + 1))
  have ht4 := ht.grow (grown_below hb5) (fun x e => by cases e)
  have ht6 := ht4.grow hgr (fun x e => by injection e with e; rw [← e]; exact hrest.Ff)
  have ht7 := ht6.grow (grown_setCell w6 b 6 (.int .i64 ((S.writes : Int) + 1))) (fun x e => by injection e with e; rw [← e]; exact .inl hFb)
  rw [hpl'] at hrest6
  refine After.mk' (S := S.put i l) (left := left) ?_ (hrest6.setCell hrow6 6 _) harm hputok (fun j hj => ?_) ⟨?_, ?_, ?_⟩ (.inl hFb) ht7
  · have e1 : (S.put i l).down = false := hd
    rw [e1]
    exact hrow7
  · show (if (j : Int) = (i : Int) then some v else ff j).isSome = true ↔ j ∈ (if i ∈ S.pend then S.pend else S.pend ++ [i])
    have hdj := hdom j hj
    by_cases e : j = i
    · subst e
      rw [if_pos rfl]
      by_cases hm : j ∈ S.pend <;> simp [hm]
    · rw [if_neg (by omega), hdj]
      by_cases hm : i ∈ S.pend <;> simp [hm, e]
  · show sN + (fN + 1) ≤ S.writes + 1
    omega
  · show (if i ∈ S.pend then S.pend else S.pend ++ [i]).length ≤ fN + 1
    split
    · omega
    · rw [List.length_append]; simp; omega
  · show S.writes + 1 ≤ 9223372036854775807
    omega

/-- The fuse lets a write through. -/
theorem blows_go (hrow : w.rowIs b 156 7 (diskRow left false S.n sb fb pv S.writes)) (harm : ArmIs left S.arm) (hne : S.arm ≠ some 0) :
    Calls Tryz.prog 216 #[.pointer (some ⟨b, 0, none⟩)] w fun e w' => ∃ left', e = .returned (.bool false) ∧ w'.rowIs b 156 7 (diskRow left' false S.n sb fb pv S.writes) ∧ ArmIs left' (S.arm.map (· - 1)) ∧ w.grownBy w' (some b) ∧ w'.heap.size = w.heap.size := by
  have c0 : w.cell? ⟨b, 0, none⟩ = some (.int .i64 left) := hrow.cell (i := 0) (by decide)
  have c1 : w.cell? ⟨b, 1, none⟩ = some (.bool false) := hrow.cell (i := 1) (by decide)
  obtain ⟨hr, h⟩ := harm
  rcases h with ⟨hl, hn⟩ | ⟨k, hk, ha⟩
  · refine (blows_none hl c0 c1).mono ?_
    rintro e w' ⟨rfl, rfl⟩
    exact ⟨left, rfl, hrow, ⟨hr, .inl ⟨hl, by rw [hn]; rfl⟩⟩, (World.grownBy.refl _ _), rfl⟩
  · rcases k with _ | k
    · exact absurd ha hne
    · have hk' : left = (k : Int) + 1 := by rw [hk]; omega
      rw [hk'] at c0
      refine (blows_less (by omega) c0 c1 (hrow.frozen 0)).mono ?_
      rintro e w' ⟨rfl, rfl⟩
      exact ⟨k, rfl, (hrow.set 0 (.int .i64 (k : Int))).congr (diskRow_set0 _ _ _ _ _ _ _ _), ⟨by omega, .inr ⟨k, rfl, by rw [ha]; rfl⟩⟩, grown_setCell w b 0 _, by simp⟩
end

theorem writeE_yes {S : DS} {i : Nat} {l : List Int} (hd : S.down = false) (hi : i < S.n) (hl : l.length = 256) (ha : S.arm ≠ some 0) : S.writeE i l = 0 ∧ S.write i l = S.put i l := by
  have h : S.has (i : Int) := ⟨by omega, by omega⟩
  exact ⟨by simp [DS.writeE, hd, h, hl, ha], by simp [DS.write, hd, h, hl, ha]⟩
theorem writeE_blown {S : DS} {i : Nat} {l : List Int} (hd : S.down = false) (hi : i < S.n) (hl : l.length = 256) (ha : S.arm = some 0) : S.writeE i l = 5 ∧ S.write i l = { S with down := true } := by
  have h : S.has (i : Int) := ⟨by omega, by omega⟩
  exact ⟨by simp [DS.writeE, hd, h, hl, ha], by simp [DS.write, hd, h, hl, ha]⟩
theorem writeE_no {S : DS} {i : Int} {l : List Int} (hd : S.down = false) (h : ¬ (S.has i ∧ l.length = 256)) : S.writeE i l = 1 ∧ S.write i l = S := by
  exact ⟨by simp only [DS.writeE, hd]; rw [if_neg (by simp), if_pos h], by simp only [DS.write, hd]; rw [if_neg (by simp), if_pos h]⟩
theorem writeE_down {S : DS} {i : Int} {l : List Int} (hd : S.down = true) : S.writeE i l = 5 ∧ S.write i l = S := ⟨by simp [DS.writeE, hd], by simp [DS.write, hd]⟩

theorem After.same {F : Nat → Prop} {w : World} {p : Addr} {S : DS} (h : DAt w F p S) : After F w w p S := ⟨F, h, Touch.refl _ _, fun k hk => .inl hk⟩

end Go.Proofs.YtkpmfobmlaldfaaGreatDoor

/-
  The program's Write by contract, where a sector is written. Condition: fewer than 2^63 - 1 writes.
-/
namespace Go.Proofs.YtkpmfobmlaldfaaGreatDoor
open Go.RowKit
set_option maxRecDepth 100000
set_option linter.unusedVariables false

theorem cell_lt {w : World} {b o : Nat} {v : Value} (h : w.cell? ⟨b, o, none⟩ = some v) : b < w.heap.size := by
  rcases Nat.lt_or_ge b w.heap.size with h' | h'
  · exact h'
  · simp [World.cell?, Array.getElem?_eq_none h'] at h
theorem RB.here {w : World} {B n : Nat} {A : Option Addr} {l : List Int} (h : RB w B A n l) : RB w w.heap.size A n l :=
  ⟨h.1, h.2.1, fun hn => by
    obtain ⟨b, off, e, _, hc⟩ := h.2.2 hn
    exact ⟨b, off, e, cell_lt (hc 0 hn), hc⟩⟩
theorem RB.far {w w' : World} {n ab ao : Nat} {l : List Int} {row : Option Nat} (h : RB w w.heap.size (some ⟨ab, ao, none⟩) n l) (hg : w.grownBy w' row) (hne : ∀ x, row = some x → x ≠ ab) : RB w' w'.heap.size (some ⟨ab, ao, none⟩) n l :=
  ⟨h.1, h.2.1, fun hn => by
    obtain ⟨b, off, e, hb, hc⟩ := h.2.2 hn
    cases e
    exact ⟨ab, ao, rfl, Nat.lt_of_lt_of_le hb hg.size, fun j hj => (World.cell?_of_block (a := ⟨ab, ao + j, none⟩) (hg.block ab hb (fun e => hne ab e.symm rfl))).trans (hc j hj)⟩⟩

/-- What the pending list's append and the store of it leave. -/
theorem pend_stored {w X w3 : World} {F : Nat → Prop} {b sb fb i : Nat} {left : Int} {pv v3 : Value} {sN fN : Nat} {sf ff : Int → Option Value} {S : DS} {wr : Nat} (hrow : X.rowIs b 156 7 (diskRow left false S.n sb fb pv wr)) (hrest : Rest X (FN F w) sb fb pv S.n S.safe S.last S.pend sN fN sf ff) (hX : w.heap.size ≤ X.heap.size)
    (hown : w3.ownsRow 0 3 1 v3 (S.pend.length + 1) (((S.pend.map Int.ofNat) ++ [(i : Int)]).map (Value.int .i64))) (hg : X.grownBy w3 pv.ownBlock) (hloc : v3.ownBlock = pv.ownBlock ∨ v3.ownBlock = some X.heap.size) (hFb : F b) (ht : Touch F w X) :
    w3.cell? ⟨b, 5, none⟩ = some pv ∧ w3.frozen? ⟨b, 5, none⟩ = false ∧ ∃ w4, w3.setCell ⟨b, 5, none⟩ v3 = w4 ∧ w4.rowIs b 156 7 (diskRow left false S.n sb fb v3 wr) ∧ Rest w4 (FN F w) sb fb v3 S.n S.safe S.last (S.pend ++ [i]) sN fN sf ff ∧ Touch F w w4 ∧ (∀ ab ao n l, ¬ F ab → ab < w.heap.size → RB X X.heap.size (some ⟨ab, ao, none⟩) n l → RB w4 w4.heap.size (some ⟨ab, ao, none⟩) n l) := by
  have hpb : ∀ x, pv.ownBlock = some x → x ≠ b ∧ FN F w x := fun x hx => by
    obtain ⟨cur, h1⟩ := own_row hrest.pend x hx
    obtain ⟨cs, h2, _⟩ := hrow
    refine ⟨fun e => ?_, hrest.Fp x hx⟩
    rw [e, h2] at h1
    simp at h1
  have hrow3 := hrow.of_block (hg.block b hrow.lt (fun e => (hpb b e.symm).1 rfl))
  have hv3 : ∀ g, v3.ownBlock = some g → FN F w g := fun g hgg => by
    rcases hloc with e | e
    · exact hrest.Fp g (by rw [← e]; exact hgg)
    · rw [e] at hgg
      injection hgg with hgg
      exact .inr (by omega)
  have hrest3 := hrest.pended (i := i) hg (by simpa using hown) hv3
  have ht3 := ht.grow hg (fun x e => (hpb x e).2)
  refine ⟨hrow3.cell (i := 5) (by decide), hrow3.frozen 5, _, rfl, (hrow3.set 5 v3).congr (diskRow_set5 _ _ _ _ _ _ _ _), hrest3.setCell hrow3 5 v3, ht3.grow (grown_setCell w3 b 5 v3) (fun x e => by injection e with e; rw [← e]; exact .inl hFb), fun ab ao n l hF hlt hr => ?_⟩
  refine (hr.far hg (fun x hx e => ?_)).far (grown_setCell w3 b 5 v3) (fun x hx e => ?_)
  · rcases (hpb x hx).2 with h | h
    · exact hF (e ▸ h)
    · omega
  · injection hx with hx
    exact hF (by rw [← e, ← hx]; exact hFb)

set_option maxHeartbeats 8000000 in
theorem write_new (i : Nat) (A : Option Addr) (c B : Nat) (l : List Int) (w : World) (F : Nat → Prop) (p : Addr) (S : DS) (h : DAt w F p S) (hr : RB w B A 256 l) (hc : 256 ≤ c) (hw : S.writes ≤ 9223372036854775806) (hA : ∀ a, A = some a → ¬ F a.block) (hd : S.down = false) (hi : i < S.n) (ha : S.arm ≠ some 0) (hm : i ∉ S.pend) :
    Calls Tryz.prog 154 #[.pointer (some p), .int .i64 (i : Int), .slice A 256 c] w fun e w' => e = .returned (.int .i64 0) ∧ After F w w' p (S.put i l) := by
  obtain ⟨b, sb, fb, left, pv, sN, fN, sf, ff, rfl, hrow, hrest, harm, hok, hdom, hcnt, hFb, hlt, c0, c1, c2, c3, c4, c5, c6⟩ := h.parts
  have hn : (0 : Int) < (S.n : Int) := by have := hok.size; omega
  have hnm := hok.size
  have hpl := pend_len_le hok
  rw [hd] at c1 hrow
  have HH := Lib.hid (show decide (0 ≤ (i : Int) ∧ (i : Int) < (S.n : Int)) = true by simp; omega)
  have HB := Lib.hid (blows_go hrow harm ha)
  have hbl : l.length = 256 ∧ AllBytes l := ⟨hr.len, hr.bytes⟩
  have hr0 := hr.here
  obtain ⟨ab, ao, rfl, hab, _⟩ := hr0.at_ (by omega)
  have hAF : ¬ F ab := hA _ rfl
  have hki : -9223372036854775808 ≤ (i : Int) ∧ (i : Int) ≤ 9223372036854775807 := by omega
  have hfr := Lib.hid (show ff (i : Int) = none by 
    have := hdom i hi
    rcases hq : ff (i : Int) with _ | v
    · rfl
    · rw [hq] at this
      exact absurd (this.1 rfl) hm)
  have HD := Lib.hid hdom
  clear h hA hr c0 c3 c5 c6 hdom hlt
  go_enter Tryz.func154, Tryz.ntmps154
  go_wp2_with fail
  refine (ready_ok c1 c2 hn).mono ?_
  rintro e w1 ⟨rfl, rfl⟩
  go_wp2_with fail
  refine (hasDev_any _ c2).mono ?_
  rw [HH.out]
  rintro e w1 ⟨rfl, rfl⟩
  go_wp2_with fail
  refine HB.out.mono ?_
  rintro e w1 ⟨left', rfl, hrow1, harm1, hg1, hs1⟩
  have hrest1 : Rest w1 (FN F w) sb fb pv S.n S.safe S.last S.pend sN fN sf ff := hrest.keep (fun _ h _ => .inl h) (fun k _ hk hne => hg1.block k hk (fun e => by
    obtain ⟨cs, h2, _⟩ := hrow
    have : k = b := by injection e
    subst this
    exact hne cs h2))
  have ht1 : Touch F w w1 := (Touch.refl F w).grow hg1 (fun x e => by injection e with e; rw [← e]; exact .inl hFb)
  have hr1 := hr0.far hg1 (fun x e e' => by injection e with e; exact hAF (by rw [← e', ← e]; exact hFb))
  have d4 : w1.cell? ⟨b, 4, none⟩ = some (.map (some fb)) := hrow1.cell (i := 4) (by decide)
  have d5 : w1.cell? ⟨b, 5, none⟩ = some pv := hrow1.cell (i := 5) (by decide)
  have q1 := hrest1.freshM.look Tryz.underlying50 (zero_slice w1) hki
  have hS1 := Lib.hid hs1
  clear hs1
  have hRow := Lib.hid hrow1
  have hRest := Lib.hid hrest1
  have hR1 := Lib.hid hr1
  have hT1 := Lib.hid ht1
  have hArm1 := Lib.hid harm1
  clear hrow hrest HB HH hr0 c1 c2 c4 hrow1 hrest1 hr1 ht1 hg1 harm1 harm hn
  have hz : w1.heap.size = w1.heap.size := rfl
  rw [hfr.out] at q1
  simp only [Option.getD_none, Option.isSome_none] at q1
  have hX : Below w1.heap.size w1 (w1.alloc (.cells #[.int .i64 (i : Int)] 3)) := (Below.refl _ _).alloc (Nat.le_refl _) _
  have hRX := hRest.out.below hX
  have hrX := hRow.out.of_block (hX.block _ hRow.out.lt)
  have hpX := hRX.pend
  obtain ⟨Ap, kp, rfl, hkp⟩ := int_own_shape hpX
  have hbX : (w1.alloc (.cells #[.int .i64 (i : Int)] 3)).heap[w1.heap.size]? = some (.cells #[.int .i64 (i : Int)] 3) := heap_alloc_new _ _
  have hwX : w.heap.size ≤ (w1.alloc (.cells #[.int .i64 (i : Int)] 3)).heap.size := by have := hS1.out; simp; omega
  have htX := hT1.out.grow (grown_below hX) (fun x e => by cases e)
  have hr8X := hR1.out.far (grown_below hX) (fun x e => by cases e)
  have HPS := fun v3 w3 h1 h2 h3 => pend_stored (w3 := w3) (v3 := v3) (i := i) hrX hRX hwX h1 h2 h3 hFb htX
  have HPX := Lib.hid HPS
  have HR8 := Lib.hid hr8X
  clear hRX hrX htX hr8X HPS hX hz hwX
  go_wp2_with (at_builtin; refine wpList_append_pend rfl _ _ rfl _ S.pend.length (S.pend.map Int.ofNat) rfl w1.heap.size (i : Int) _ rfl hpX hbX (by omega) ?_; intro A3 k3 w3 hown3 hg3 hloc3; obtain ⟨d5', f5', w4, hw4, hrow4, hrest4, ht4, hr4⟩ := HPX.out _ w3 hown3 hg3 hloc3; have hr4 := hr4 _ _ _ _ hAF hab HR8.out; clear hown3 hg3 hloc3)
  have e4 : w4.drew.cell? ⟨b, 4, none⟩ = some (.map (some fb)) := hrow4.cell (i := 4) (by decide)
  have hr4d : RB w4.drew w4.drew.heap.size (some ⟨ab, ao, none⟩) 256 l := hr4.drew
  have HW := Lib.hid (fun w5 v hb hown => write_end (w4 := w4.drew) (w5 := w5) (v := v) (pl := S.pend ++ [i]) hok hd hi hbl (by rw [if_neg hm]) hw hrow4 (hrest4.keep (fun _ h _ => h) (fun _ _ _ _ => rfl)) hArm1.out HD.out ⟨hcnt.1, hcnt.2.1⟩ hFb ⟨ht4.os, ht4.tape, ht4.output, ht4.size, ht4.block⟩ hb hown)
  clear hrow4 hrest4 hpX hbX d4 d5 d5' f5' q1 hw4 hr4 ht4
  go_region_with
    (go_at_call 48; refine (CloneB_own c hr4d (Nat.le_refl _) (by decide)).mono ?_; rintro e w5 ⟨A5, k5, rfl, _, hown5, hb5⟩; obtain ⟨w6, hrun6, g4, g6, f6, HE⟩ := HW.out w5 _ hb5 hown5; clear hown5 hb5)
  all_goals go_wp2
  all_goals go_ret
  all_goals exact ⟨rfl, HE.out⟩

set_option maxHeartbeats 8000000 in
theorem write_old (i : Nat) (A : Option Addr) (c B : Nat) (l : List Int) (w : World) (F : Nat → Prop) (p : Addr) (S : DS) (h : DAt w F p S) (hr : RB w B A 256 l) (hc : 256 ≤ c) (hw : S.writes ≤ 9223372036854775806) (hA : ∀ a, A = some a → ¬ F a.block) (hd : S.down = false) (hi : i < S.n) (ha : S.arm ≠ some 0) (hm : i ∈ S.pend) :
    Calls Tryz.prog 154 #[.pointer (some p), .int .i64 (i : Int), .slice A 256 c] w fun e w' => e = .returned (.int .i64 0) ∧ After F w w' p (S.put i l) := by
  obtain ⟨b, sb, fb, left, pv, sN, fN, sf, ff, rfl, hrow, hrest, harm, hok, hdom, hcnt, hFb, hlt, c0, c1, c2, c3, c4, c5, c6⟩ := h.parts
  have hn : (0 : Int) < (S.n : Int) := by have := hok.size; omega
  have hnm := hok.size
  have hpl := pend_len_le hok
  rw [hd] at c1 hrow
  have HH := Lib.hid (show decide (0 ≤ (i : Int) ∧ (i : Int) < (S.n : Int)) = true by simp; omega)
  have HB := Lib.hid (blows_go hrow harm ha)
  have hbl : l.length = 256 ∧ AllBytes l := ⟨hr.len, hr.bytes⟩
  have hr0 := hr.here
  obtain ⟨ab, ao, rfl, hab, _⟩ := hr0.at_ (by omega)
  have hAF : ¬ F ab := hA _ rfl
  have hki : -9223372036854775808 ≤ (i : Int) ∧ (i : Int) ≤ 9223372036854775807 := by omega
  have hfr := Lib.hid (show (ff (i : Int)).isSome = true by
    exact (hdom i hi).2 hm)
  have HD := Lib.hid hdom
  clear h hA hr c0 c3 c5 c6 hdom hlt
  go_enter Tryz.func154, Tryz.ntmps154
  go_wp2_with fail
  refine (ready_ok c1 c2 hn).mono ?_
  rintro e w1 ⟨rfl, rfl⟩
  go_wp2_with fail
  refine (hasDev_any _ c2).mono ?_
  rw [HH.out]
  rintro e w1 ⟨rfl, rfl⟩
  go_wp2_with fail
  refine HB.out.mono ?_
  rintro e w1 ⟨left', rfl, hrow1, harm1, hg1, hs1⟩
  have hrest1 : Rest w1 (FN F w) sb fb pv S.n S.safe S.last S.pend sN fN sf ff := hrest.keep (fun _ h _ => .inl h) (fun k _ hk hne => hg1.block k hk (fun e => by
    obtain ⟨cs, h2, _⟩ := hrow
    have : k = b := by injection e
    subst this
    exact hne cs h2))
  have ht1 : Touch F w w1 := (Touch.refl F w).grow hg1 (fun x e => by injection e with e; rw [← e]; exact .inl hFb)
  have hr1 := hr0.far hg1 (fun x e e' => by injection e with e; exact hAF (by rw [← e', ← e]; exact hFb))
  have d4 : w1.cell? ⟨b, 4, none⟩ = some (.map (some fb)) := hrow1.cell (i := 4) (by decide)
  have d5 : w1.cell? ⟨b, 5, none⟩ = some pv := hrow1.cell (i := 5) (by decide)
  have q1 := hrest1.freshM.look Tryz.underlying50 (zero_slice w1) hki
  have hS1 := Lib.hid hs1
  clear hs1
  have hRow := Lib.hid hrow1
  have hRest := Lib.hid hrest1
  have hR1 := Lib.hid hr1
  have hT1 := Lib.hid ht1
  have hArm1 := Lib.hid harm1
  clear hrow hrest HB HH hr0 c1 c2 c4 hrow1 hrest1 hr1 ht1 hg1 harm1 harm hn
  obtain ⟨v0, hv0⟩ := Option.isSome_iff_exists.1 hfr.out
  rw [hv0] at q1
  simp only [Option.getD_some, Option.isSome_some] at q1
  go_wp2_with fail
  have hrow4 := hRow.out
  have hrest4 := hRest.out
  have ht4 := hT1.out
  have hr4 := hR1.out
  generalize w1 = w4 at *
  have e4 : w4.drew.cell? ⟨b, 4, none⟩ = some (.map (some fb)) := hrow4.cell (i := 4) (by decide)
  have hr4d : RB w4.drew w4.drew.heap.size (some ⟨ab, ao, none⟩) 256 l := hr4.drew
  have HW := Lib.hid (fun w5 v hb hown => write_end (w4 := w4.drew) (w5 := w5) (v := v) (pl := S.pend) hok hd hi hbl (by rw [if_pos hm]) hw hrow4 (hrest4.keep (fun _ h _ => h) (fun _ _ _ _ => rfl)) hArm1.out HD.out ⟨hcnt.1, hcnt.2.1⟩ hFb ⟨ht4.os, ht4.tape, ht4.output, ht4.size, ht4.block⟩ hb hown)
  clear hrow4 hrest4 d4 d5 q1 hr4 ht4
  go_region_with
    (go_at_call 48; refine (CloneB_own c hr4d (Nat.le_refl _) (by decide)).mono ?_; rintro e w5 ⟨A5, k5, rfl, _, hown5, hb5⟩; obtain ⟨w6, hrun6, g4, g6, f6, HE⟩ := HW.out w5 _ hb5 hown5; clear hown5 hb5)
  all_goals go_wp2
  all_goals go_ret
  all_goals exact ⟨rfl, HE.out⟩

end Go.Proofs.YtkpmfobmlaldfaaGreatDoor

/-
  The program's Write by contract, whatever it answers. Condition: fewer than 2^63 - 1 writes.
-/
namespace Go.Proofs.YtkpmfobmlaldfaaGreatDoor
open Go.RowKit
set_option maxRecDepth 100000
set_option linter.unusedVariables false

set_option maxHeartbeats 800000 in
theorem write_downs (i : Int) (A : Option Addr) (n c : Nat) (w : World) (F : Nat → Prop) (p : Addr) (S : DS) (h : DAt w F p S) (hd : S.down = true) :
    Calls Tryz.prog 154 #[.pointer (some p), .int .i64 i, .slice A n c] w fun e w' => e = .returned (.int .i64 5) ∧ w = w' := by
  obtain ⟨b, sb, fb, left, pv, sN, fN, sf, ff, rfl, hrow, hrest, harm, hok, hdom, hcnt, hFb, hlt, c0, c1, c2, c3, c4, c5, c6⟩ := h.parts
  have hn : (0 : Int) < (S.n : Int) := by have := hok.size; omega
  rw [hd] at c1
  clear h hrow hrest hdom hlt
  go_enter Tryz.func154, Tryz.ntmps154
  go_wp2_with fail
  refine (ready_down c1 c2 hn).mono ?_
  rintro e w1 ⟨rfl, rfl⟩
  go_wp2
  go_ret
  exact ⟨rfl, rfl⟩

set_option maxHeartbeats 800000 in
theorem write_args (i : Int) (A : Option Addr) (n c : Nat) (w : World) (F : Nat → Prop) (p : Addr) (S : DS) (h : DAt w F p S) (hn63 : n ≤ 4096) (hd : S.down = false) (hno : ¬ (S.has i ∧ n = 256)) :
    Calls Tryz.prog 154 #[.pointer (some p), .int .i64 i, .slice A n c] w fun e w' => e = .returned (.int .i64 1) ∧ w = w' := by
  obtain ⟨b, sb, fb, left, pv, sN, fN, sf, ff, rfl, hrow, hrest, harm, hok, hdom, hcnt, hFb, hlt, c0, c1, c2, c3, c4, c5, c6⟩ := h.parts
  have hn : (0 : Int) < (S.n : Int) := by have := hok.size; omega
  rw [hd] at c1
  clear h hrow hrest hdom hlt
  by_cases hi : S.has i
  · have HH := Lib.hid (show decide (0 ≤ i ∧ i < (S.n : Int)) = true by simpa [DS.has] using hi)
    have hne : n ≠ 256 := fun e => hno ⟨hi, e⟩
    have k : ((n : Int) != 256) = true := by simp; omega
    clear hi hno
    go_enter Tryz.func154, Tryz.ntmps154
    go_wp2_with fail
    refine (ready_ok c1 c2 hn).mono ?_
    rintro e w1 ⟨rfl, rfl⟩
    go_wp2_with fail
    refine (hasDev_any _ c2).mono ?_
    rw [HH.out]
    rintro e w1 ⟨rfl, rfl⟩
    go_wp2
    go_ret
    exact ⟨rfl, rfl⟩
  · have HH := Lib.hid (show decide (0 ≤ i ∧ i < (S.n : Int)) = false by simpa [DS.has] using hi)
    clear hi hno
    go_enter Tryz.func154, Tryz.ntmps154
    go_wp2_with fail
    refine (ready_ok c1 c2 hn).mono ?_
    rintro e w1 ⟨rfl, rfl⟩
    go_wp2_with fail
    refine (hasDev_any _ c2).mono ?_
    rw [HH.out]
    rintro e w1 ⟨rfl, rfl⟩
    go_wp2
    go_ret
    exact ⟨rfl, rfl⟩

set_option maxHeartbeats 800000 in
theorem write_blown (i : Nat) (A : Option Addr) (c : Nat) (w : World) (F : Nat → Prop) (p : Addr) (S : DS) (h : DAt w F p S) (hd : S.down = false) (hi : i < S.n) (ha : S.arm = some 0) :
    Calls Tryz.prog 154 #[.pointer (some p), .int .i64 (i : Int), .slice A 256 c] w fun e w' => e = .returned (.int .i64 5) ∧ After F w w' p { S with down := true } := by
  obtain ⟨b, sb, fb, left, pv, sN, fN, sf, ff, rfl, hrow, hrest, harm, hok, hdom, hcnt, hFb, hlt, c0, c1, c2, c3, c4, c5, c6⟩ := h.parts
  have hn : (0 : Int) < (S.n : Int) := by have := hok.size; omega
  have hnm := hok.size
  rw [hd] at c1 hrow
  have hl : left = 0 := by
    rcases harm.2 with ⟨_, e⟩ | ⟨k, e1, e2⟩
    · rw [ha] at e; cases e
    · rw [ha] at e2
      obtain rfl : 0 = k := by injection e2
      exact e1
  subst hl
  have f1 := hrow.frozen 1
  have HH := Lib.hid (show decide (0 ≤ (i : Int) ∧ (i : Int) < (S.n : Int)) = true by simp; omega)
  have HE : Hid (After F w (w.setCell ⟨b, 1, none⟩ (.bool true)) ⟨b, 0, none⟩ { S with down := true }) := Lib.hid (by
    refine After.mk' (S := { S with down := true }) ((hrow.set 1 (.bool true)).congr (diskRow_set1 _ _ _ _ _ _ _ _)) ((hrest.keep (fun _ h _ => .inl h) (fun _ _ _ _ => rfl)).setCell hrow 1 _) harm ⟨hok.size, hok.safeBytes, hok.lastBytes, hok.pendLt, hok.pendNodup, hok.same⟩ hdom hcnt (.inl hFb) ((Touch.refl F w).grow (grown_setCell w b 1 _) (fun x e => .inl (by injection e with e; rw [← e]; exact hFb))))
  clear h hrow hrest hdom hlt
  go_enter Tryz.func154, Tryz.ntmps154
  go_wp2_with fail
  refine (ready_ok c1 c2 hn).mono ?_
  rintro e w1 ⟨rfl, rfl⟩
  go_wp2_with fail
  refine (hasDev_any _ c2).mono ?_
  rw [HH.out]
  rintro e w1 ⟨rfl, rfl⟩
  go_wp2_with fail
  refine (blows_yes c0 c1 f1).mono ?_
  rintro e w1 ⟨rfl, rfl⟩
  go_wp2
  go_ret
  exact ⟨rfl, HE.out⟩

theorem write_dev (i : Int) (A : Option Addr) (n c B : Nat) (l : List Int) (w : World) (F : Nat → Prop) (p : Addr) (S : DS) (h : DAt w F p S) (hr : RB w B A n l) (hc : n ≤ c) (hn : n ≤ 4096) (hw : S.writes ≤ 9223372036854775806) (hA : ∀ a, A = some a → ¬ F a.block) :
    Calls Tryz.prog 154 #[.pointer (some p), .int .i64 i, .slice A n c] w fun e w' => e = .returned (.int .i64 (S.writeE i l)) ∧ After F w w' p (S.write i l) := by
  by_cases hd : S.down = true
  · obtain ⟨e1, e2⟩ := writeE_down (i := i) (l := l) hd
    rw [e1, e2]
    refine (write_downs i A n c w F p S h hd).mono ?_
    rintro e w' ⟨rfl, rfl⟩
    exact ⟨rfl, After.same h⟩
  have hd' : S.down = false := by simpa using hd
  by_cases hi : S.has i ∧ n = 256
  · obtain ⟨⟨h0, h1⟩, rfl⟩ := hi
    obtain ⟨k, rfl⟩ := Int.eq_ofNat_of_zero_le h0
    have hk : k < S.n := by omega
    by_cases ha : S.arm = some 0
    · obtain ⟨e1, e2⟩ := writeE_blown hd' hk hr.len ha
      rw [e1, e2]
      exact write_blown k A c w F p S h hd' hk ha
    · obtain ⟨e1, e2⟩ := writeE_yes hd' hk hr.len ha
      rw [e1, e2]
      by_cases hm : k ∈ S.pend
      · exact write_old k A c B l w F p S h hr hc hw hA hd' hk ha hm
      · exact write_new k A c B l w F p S h hr hc hw hA hd' hk ha hm
  · obtain ⟨e1, e2⟩ := writeE_no (i := i) (l := l) hd' (by rw [hr.len]; exact hi)
    rw [e1, e2]
    refine (write_args i A n c w F p S h hn hd' hi).mono ?_
    rintro e w' ⟨rfl, rfl⟩
    exact ⟨rfl, After.same h⟩

end Go.Proofs.YtkpmfobmlaldfaaGreatDoor

/-
  The program's settle by contract, over any function value that answers which places are kept. No condition.
-/
namespace Go.Proofs.YtkpmfobmlaldfaaGreatDoor
open Go.RowKit
set_option maxRecDepth 100000
set_option linter.unusedVariables false

/-- Whether a sector is kept by the first k places. -/
def Kept (S : DS) (K : Nat → Bool) (k j : Nat) : Prop := ∃ t, t < k ∧ S.pend[t]? = some j ∧ K t = true
open Classical in
/-- What is safe when the first k places were gone through. -/
noncomputable def safeK (S : DS) (K : Nat → Bool) (k : Nat) : Nat → List Int := fun j => if Kept S K k j then S.last j else S.safe j
theorem safeK_start (S : DS) (K : Nat → Bool) : safeK S K 0 = S.safe := by
  funext j
  unfold safeK
  rw [if_neg]
  rintro ⟨t, ht, _⟩
  omega
theorem safeK_skip {S : DS} {K : Nat → Bool} {k : Nat} (h : K k = false) : safeK S K (k + 1) = safeK S K k := by
  funext j
  unfold safeK
  have e : Kept S K (k + 1) j ↔ Kept S K k j := by
    constructor
    · rintro ⟨t, ht, h1, h2⟩
      refine ⟨t, ?_, h1, h2⟩
      rcases Nat.lt_or_ge t k with h' | h'
      · exact h'
      · obtain rfl : t = k := by omega
        rw [h] at h2; cases h2
    · rintro ⟨t, ht, h1, h2⟩
      exact ⟨t, by omega, h1, h2⟩
  by_cases hk : Kept S K k j
  · rw [if_pos hk, if_pos (e.2 hk)]
  · rw [if_neg hk, if_neg (fun h' => hk (e.1 h'))]
theorem safeK_hit {S : DS} {K : Nat → Bool} {k i : Nat} (hp : S.pend[k]? = some i) (h : K k = true) : safeK S K (k + 1) i = S.last i := by
  unfold safeK
  rw [if_pos ⟨k, by omega, hp, h⟩]
theorem safeK_other {S : DS} {K : Nat → Bool} {k i j : Nat} (hp : S.pend[k]? = some i) (hj : j ≠ i) : safeK S K (k + 1) j = safeK S K k j := by
  unfold safeK
  have e : Kept S K (k + 1) j ↔ Kept S K k j := by
    constructor
    · rintro ⟨t, ht, h1, h2⟩
      refine ⟨t, ?_, h1, h2⟩
      rcases Nat.lt_or_ge t k with h' | h'
      · exact h'
      · obtain rfl : t = k := by omega
        rw [hp] at h1
        injection h1 with h1
        exact absurd h1.symm hj
    · rintro ⟨t, ht, h1, h2⟩
      exact ⟨t, by omega, h1, h2⟩
  by_cases hk : Kept S K k j
  · rw [if_pos hk, if_pos (e.2 hk)]
  · rw [if_neg hk, if_neg (fun h' => hk (e.1 h'))]

/-- The disk when all places were gone through. -/
noncomputable def DS.settled (S : DS) (K : Nat → Bool) : DS := { S with safe := safeK S K S.pend.length, last := safeK S K S.pend.length, pend := [] }
theorem safeK_ok {S : DS} (h : S.Ok) (K : Nat → Bool) (k j : Nat) : (safeK S K k j).length = 256 ∧ AllBytes (safeK S K k j) := by
  unfold safeK
  split
  · exact h.lastBytes j
  · exact h.safeBytes j
theorem DS.settled_ok {S : DS} (h : S.Ok) (K : Nat → Bool) : (S.settled K).Ok :=
  ⟨h.size, safeK_ok h K _, safeK_ok h K _, (fun _ hm => by cases hm), List.nodup_nil, fun _ _ => rfl⟩

theorem wpList_clear {w : World} {ops : Array Oper} {rest : List Oper} {o : Oper} {a : Act} {Q : Exit → Act → World → Prop} (hgd : o.guard = none) (x : Operand) (t : TypeId)
    (ho : o.op = .call { callee := .builtin .clear, args := #[x], argTypes := #[t] }) (b n : Nat) (f : Int → Option Value) (e : TypeId) (hx : a.eval x = .map (some b)) (hm : IMap w b n f) (ht : Tryz.prog.underlying t = some (.map 3 e))
    (h : ∀ w', IMap w' b 0 (fun _ => none) → w.grownBy w' (some b) → wpList Tryz.prog ops Q rest (a.put o.dst (.tuple #[])) w') : wpList Tryz.prog ops Q (o :: rest) a w := by
  refine wpList_plain hgd fun K hK => ?_
  obtain ⟨w', hrun, h1, h2⟩ := hm.clear_ ht o.type
  unfold Oper.wp
  simp [execOp, ho, resolve, invoke, builtin, hx, hrun, Result.andThen]
  exact hK _ _ (h w' h1 h2)

section
variable {w : World} {F : Nat → Prop} {b sb fb : Nat} {left : Int} {pv : Value} {sN fN : Nat} {sf ff : Int → Option Value} {S : DS}

/-- What holds of the world between two rounds. -/
structure Mid (w : World) (F : Nat → Prop) (b sb fb : Nat) (left : Int) (pv : Value) (S : DS) (sN fN : Nat) (ff : Int → Option Value) (K : Nat → Bool) (J : World → Prop) (k : Nat) (wr : World) : Prop where
  row : wr.rowIs b 156 7 (diskRow left S.down S.n sb fb pv S.writes)
  rest : ∃ sf', Rest wr (FN F w) sb fb pv S.n (safeK S K k) S.last S.pend (sN + k) fN sf' ff
  touch : Touch F w wr
  inv : J wr

theorem Mid.below {K : Nat → Bool} {J : World → Prop} {k : Nat} {w1 w2 : World} (hJ : ∀ w1 w2 row, J w1 → w1.grownBy w2 row → (∀ x, row = some x → FN F w x) → J w2) (h : Mid w F b sb fb left pv S sN fN ff K J k w1) (hb : Below w1.heap.size w1 w2) : Mid w F b sb fb left pv S sN fN ff K J k w2 := by
  obtain ⟨sf', hr⟩ := h.rest
  exact ⟨h.row.of_block (hb.block _ h.row.lt), ⟨sf', hr.below hb⟩, h.touch.grow (grown_below hb) (fun x e => by cases e), hJ _ _ _ h.inv (grown_below hb) (fun x e => by cases e)⟩

theorem Mid.drew {K : Nat → Bool} {J : World → Prop} {k : Nat} {w1 : World} (hJ : ∀ w1 w2 row, J w1 → w1.grownBy w2 row → (∀ x, row = some x → FN F w x) → J w2) (h : Mid w F b sb fb left pv S sN fN ff K J k w1) : Mid w F b sb fb left pv S sN fN ff K J k w1.drew := by
  obtain ⟨sf', hr⟩ := h.rest
  exact ⟨h.row, ⟨sf', hr.keep (fun _ h _ => h) (fun _ _ _ _ => rfl)⟩, ⟨h.touch.os, h.touch.tape, h.touch.output, h.touch.size, h.touch.block⟩, hJ _ _ none h.inv ⟨rfl, rfl, rfl, Nat.le_refl _, fun _ _ _ => rfl⟩ (fun x e => by cases e)⟩

theorem Mid.skip {K : Nat → Bool} {J : World → Prop} {k : Nat} {w1 : World} (h : Mid w F b sb fb left pv S sN fN ff K J k w1) (hk : K k = false) : Mid w F b sb fb left pv S sN fN ff K J (k + 1) w1 := by
  obtain ⟨sf', hr⟩ := h.rest
  refine ⟨h.row, ⟨sf', ?_⟩, h.touch, h.inv⟩
  rw [safeK_skip hk]
  exact { hr with safeM := hr.safeM.mono (by omega) }

/-- A round that keeps: what its look-up and its store do. -/
theorem Mid.hit {K : Nat → Bool} {J : World → Prop} {k i : Nat} {w1 : World} (hJ : ∀ w1 w2 row, J w1 → w1.grownBy w2 row → (∀ x, row = some x → FN F w x) → J w2) (hFb : F b) (hok : S.Ok) (hdom : ∀ i : Nat, i < S.n → ((ff i).isSome = true ↔ i ∈ S.pend)) (hcnt : sN + fN ≤ S.writes ∧ S.pend.length ≤ fN ∧ S.writes ≤ 9223372036854775807)
    (h : Mid w F b sb fb left pv S sN fN ff K J k w1) (hk : K k = true) (hp : S.pend[k]? = some i) :
    ∃ v w2, (Instr.lookup 50 (.map (some fb)) (.int .i64 (i : Int)) false).run Tryz.prog w1 = .ok v w1 ∧ (Instr.mapUpdate 50 (.map (some sb)) (.int .i64 (i : Int)) v).run Tryz.prog w1 = .ok () w2 ∧ Hid (Mid w F b sb fb left pv S sN fN ff K J (k + 1) w2) := by
  obtain ⟨sf', hr⟩ := h.rest
  have hkl : k < S.pend.length := (List.getElem?_eq_some_iff.1 hp).1
  have him : i ∈ S.pend := List.mem_of_getElem? hp
  have hi := hok.pendLt i him
  have hsz := hok.size
  obtain ⟨v, hv⟩ := Option.isSome_iff_exists.1 ((hdom i hi).2 him)
  have q := hr.freshM.get Tryz.underlying50 (zero_slice w1) (i := (i : Int)) (by omega) hv
  obtain ⟨w2, hrun, hm, hg⟩ := hr.safeM.store Tryz.underlying50 (i := (i : Int)) (by unfold maxLen; omega) (by omega) v
  have hne : b ≠ sb := by
    obtain ⟨es, c, h1⟩ := hr.safeM.block
    obtain ⟨cs, h2, _⟩ := h.row
    intro e
    rw [e, h1] at h2
    cases h2
  refine ⟨v, w2, q, hrun, Lib.hid ⟨h.row.of_block (hg.block b h.row.lt (fun e => hne (by injection e))), ⟨fun j => if j = (i : Int) then some v else sf' j, ?_⟩, h.touch.grow hg (fun x e => by injection e with e; rw [← e]; exact hr.Fs), hJ _ _ _ h.inv hg (fun x e => by injection e with e; rw [← e]; exact hr.Fs)⟩⟩
  refine hr.safed hg hm (safe' := safeK S K (k + 1)) (fun j hj => ?_)
  by_cases e : j = i
  · subst e
    rw [if_pos rfl]
    right
    rw [safeK_hit hp hk]
    exact hr.freshC j hj v hv
  · rw [if_neg (by omega)]
    exact .inl ⟨rfl, safeK_other hp e⟩

/-- The end: the map of what was written last is cleared, the list emptied. -/
theorem Mid.fin {K : Nat → Bool} {J : World → Prop} {w1 w2 : World} {A : Option Addr} {m c : Nat} (hFb : F b) (hok : S.Ok) (harm : ArmIs left S.arm) (hcnt : sN + fN ≤ S.writes ∧ S.pend.length ≤ fN ∧ S.writes ≤ 9223372036854775807)
    (h : Mid w F b sb fb left (.slice A m c) S sN fN ff K J S.pend.length w1) (hm : IMap w2 fb 0 (fun _ => none)) (hg : w1.grownBy w2 (some fb)) (hA : A = none → m = 0 ∧ c = 0) :
    w2.cell? ⟨b, 5, none⟩ = some (.slice A m c) ∧ w2.frozen? ⟨b, 5, none⟩ = false ∧ Hid (After F w (w2.setCell ⟨b, 5, none⟩ (.slice A 0 c)) ⟨b, 0, none⟩ (S.settled K)) := by
  obtain ⟨sf', hr⟩ := h.rest
  have hne : b ≠ fb := by
    obtain ⟨es, c, h1⟩ := hr.freshM.block
    obtain ⟨cs, h2, _⟩ := h.row
    intro e
    rw [e, h1] at h2
    cases h2
  have hrow2 := h.row.of_block (hg.block b h.row.lt (fun e => hne (by injection e)))
  have hr2 := hr.freshed hg hm (last' := safeK S K S.pend.length) (fun i _ v hv => by cases hv)
  have hr3 : Rest w2 (FN F w) sb fb (.slice A 0 c) S.n (safeK S K S.pend.length) (safeK S K S.pend.length) [] (sN + S.pend.length) 0 sf' (fun _ => none) := hr2.emptied (by
    rcases A with _ | ad
    · obtain ⟨rfl, rfl⟩ := hA rfl
      exact .inl ⟨rfl, rfl⟩
    · exact .inr ⟨ad, m, c, rfl, rfl⟩)
  refine ⟨hrow2.cell (i := 5) (by decide), hrow2.frozen 5, Lib.hid ?_⟩
  refine After.mk' (S := S.settled K) ((hrow2.set 5 (.slice A 0 c)).congr (diskRow_set5 _ _ _ _ _ _ _ _)) (hr3.setCell hrow2 5 _) harm (DS.settled_ok hok K) (fun i _ => ?_) ⟨?_, Nat.zero_le _, hcnt.2.2⟩ (.inl hFb) ((h.touch.grow hg (fun x e => by injection e with e; rw [← e]; exact hr.Ff)).grow (grown_setCell w2 b 5 _) (fun x e => by injection e with e; rw [← e]; exact .inl hFb))
  · show (none : Option Value).isSome = true ↔ i ∈ ([] : List Nat)
    simp
  · show sN + S.pend.length + 0 ≤ S.writes
    omega
end

end Go.Proofs.YtkpmfobmlaldfaaGreatDoor

/-
  The program's settle by contract, at the two function values that it is called with. No condition.
-/
namespace Go.Proofs.YtkpmfobmlaldfaaGreatDoor
open Go.RowKit
set_option maxRecDepth 100000
set_option linter.unusedVariables false

set_option maxHeartbeats 3200000 in
theorem settle_all (K : Nat → Bool) (J : World → Prop) (w : World) (F : Nat → Prop) (p : Addr) (S : DS) (h : DAt w F p S) (hJ0 : J w) (hJ : ∀ w1 w2 row, J w1 → w1.grownBy w2 row → (∀ x, row = some x → FN F w x) → J w2)
    (hf : ∀ (t : Nat) (w1 : World), t < S.pend.length → J w1 → Calls Tryz.prog 218 #[.int .i64 (t : Int)] w1 fun e w2 => e = .returned (.bool (K t)) ∧ Below w1.heap.size w1 w2) :
    Calls Tryz.prog 217 #[.pointer (some p), .func (.func 218) #[] #[]] w fun e w' => e = .returned (.tuple #[]) ∧ After F w w' p (S.settled K) := by
  obtain ⟨b, sb, fb, left, pv, sN, fN, sf, ff, rfl, hrow, hrest, harm, hok, hdom, hcnt, hFb, hlt, c0, c1, c2, c3, c4, c5, c6⟩ := h.parts
  have hnm := hok.size
  have hpl := pend_len_le hok
  obtain ⟨A, c, rfl, hc, hr⟩ := pend_reads hok hrest.pend
  have hM0 : Mid w F b sb fb left (.slice A S.pend.length c) S sN fN ff K J 0 w := ⟨hrow, ⟨sf, by rw [safeK_start]; exact hrest.keep (fun _ h _ => .inl h) (fun _ _ _ _ => rfl)⟩, Touch.refl F w, hJ0⟩
  have HM0 := Lib.hid hM0
  have HF := Lib.hid hf
  have HJ := Lib.hid hJ
  have HD := Lib.hid hdom
  clear h hrow hrest hdom hlt hf hJ hr hM0
  go_enter Tryz.func217, Tryz.ntmps217
  go_wp2
  go_loopw [11] (fun i wr => ∃ k : Nat, k ≤ S.pend.length ∧ i = .int .i64 k ∧ Hid (Mid w F b sb fb left (.slice A S.pend.length c) S sN fN ff K J k wr)) (fun i _ => S.pend.length - (intOf i).toNat)
  case atStart => exact ⟨0, Nat.zero_le _, rfl, HM0⟩
  case round =>
    obtain ⟨k, hk, rfl, hM⟩ := hrel
    by_cases hlt : k < S.pend.length
    · have hlt' : (k : Int) < (S.pend.length : Int) := by omega
      obtain ⟨i, hp⟩ : ∃ i, S.pend[k]? = some i := ⟨_, List.getElem?_eq_getElem hlt⟩
      obtain ⟨sf', hrr⟩ := hM.out.rest
      obtain ⟨A', c', e', _, hri⟩ := pend_reads hok hrr.pend
      cases e'
      obtain ⟨pb, po, rfl, _, hcell⟩ := hri.2.2 (by omega)
      have hck := hcell k hlt
      have hpi : (S.pending[k]?).getD 0 = (i : Int) := by
        unfold DS.pending
        rw [List.getElem?_map, hp]
        rfl
      rw [hpi] at hck
      have HP := Lib.hid hp
      have HC := Lib.hid (HF.out k wr hlt hM.out.inv)
      clear hrr hcell hri hpi hp
      by_cases hKk : K k = true
      · have HKk := Lib.hid hKk
        clear hKk
        go_wp2_with fail
        refine HC.out.mono ?_
        rw [HKk.out]
        rintro e w2 ⟨rfl, hb2⟩
        have hM2 := hM.out.below HJ.out hb2
        obtain ⟨v, w3, q1, q2, hM3⟩ := Mid.hit (w1 := w2.drew) HJ.out hFb hok HD.out hcnt (hM2.drew HJ.out) HKk.out HP.out
        have d3 : w2.drew.cell? ⟨b, 3, none⟩ = some (.map (some sb)) := hM2.row.cell (i := 3) (by decide)
        have d4 : w2.drew.cell? ⟨b, 4, none⟩ = some (.map (some fb)) := hM2.row.cell (i := 4) (by decide)
        clear hM2 hb2 hck c0 c1 c2 c3 c4 c5 c6
        go_wp2_with fail
        go_region
        all_goals (go_wp2; go_roundw; (case rel => exact ⟨k + 1, by omega, by go_num, hM3⟩); (case measure => simp [intOf]; omega))
      · have HKk := Lib.hid (show K k = false by simpa using hKk)
        clear hKk
        go_wp2_with fail
        refine HC.out.mono ?_
        rw [HKk.out]
        rintro e w2 ⟨rfl, hb2⟩
        have hM3 := Lib.hid ((hM.out.below HJ.out hb2).skip HKk.out)
        clear hb2 hck c0 c1 c2 c3 c4 c5 c6
        go_wp2
        go_roundw
        case rel => exact ⟨k + 1, by omega, by go_num, hM3⟩
        case measure => simp [intOf]; omega
    · obtain rfl : k = S.pend.length := by omega
      obtain ⟨sf', hrr⟩ := hM.out.rest
      have hm := hrr.freshM
      have d4 : wr.cell? ⟨b, 4, none⟩ = some (.map (some fb)) := hM.out.row.cell (i := 4) (by decide)
      have hAn : A = none → S.pend.length = 0 ∧ c = 0 := fun e => by
        subst e
        rcases hrr.pend.2 with ⟨e1, e2⟩ | ⟨g, cap, cur, e1, _⟩
        · exact ⟨e2, by injection e1⟩
        · cases e1
      obtain ⟨w5, hrun5, hm5, hg5⟩ := hm.clear_ Tryz.underlying50 0
      obtain ⟨d5, f5, HE⟩ := Mid.fin (w2 := w5) hFb hok harm hcnt hM.out hm5 hg5 hAn
      clear hrr hM hm5 hg5 hm c0 c1 c2 c3 c4 c5 c6
      rcases A with _ | ad
      · obtain ⟨h0, rfl⟩ := hAn rfl
        have H0 := Lib.hid h0
        clear h0 hAn
        go_wp2
        go_end0
        exact ⟨rfl, HE.out⟩
      · clear hAn
        go_wp2
        go_end0
        exact ⟨rfl, HE.out⟩


end Go.Proofs.YtkpmfobmlaldfaaGreatDoor

/-
  The program's Flush, standsIn and Crash by contract. No condition.
-/
namespace Go.Proofs.YtkpmfobmlaldfaaGreatDoor
open Go.RowKit
set_option maxRecDepth 100000
set_option linter.unusedVariables false

theorem flush1_any (t : Int) (w : World) : Calls Tryz.prog 218 #[.int .i64 t] w fun e w' => e = .returned (.bool true) ∧ Below w.heap.size w w' := by
  go_enter Tryz.func218, Tryz.ntmps218
  go_wp2
  go_ret
  exact ⟨rfl, Below.refl _ _⟩

theorem settled_all {S : DS} (h : S.Ok) (hd : S.down = false) : S.settled (fun _ => true) = S.flush := by
  have e : safeK S (fun _ => true) S.pend.length = S.last := by
    funext j
    by_cases hj : j ∈ S.pend
    · unfold safeK
      obtain ⟨t, ht, e⟩ := List.getElem_of_mem hj
      rw [if_pos ⟨t, ht, by rw [List.getElem?_eq_getElem ht, e], rfl⟩]
    · unfold safeK
      rw [if_neg (fun ⟨t, _, h1, _⟩ => hj (List.mem_of_getElem? h1))]
      exact (h.same j hj).symm
  unfold DS.settled DS.flush
  rw [e, if_neg (by simp [hd])]

set_option maxHeartbeats 800000 in
theorem flush_dev (w : World) (F : Nat → Prop) (p : Addr) (S : DS) (h : DAt w F p S) : Calls Tryz.prog 155 #[.pointer (some p)] w fun e w' => e = .returned (.int .i64 S.flushE) ∧ After F w w' p S.flush := by
  have h0 := h
  obtain ⟨b, sb, fb, left, pv, sN, fN, sf, ff, rfl, hrow, hrest, harm, hok, hdom, hcnt, hFb, hlt, c0, c1, c2, c3, c4, c5, c6⟩ := h.parts
  have hn : (0 : Int) < (S.n : Int) := by have := hok.size; omega
  by_cases hd : S.down = true
  · have e1 : S.flushE = 5 := by simp [DS.flushE, hd]
    have e2 : S.flush = S := by simp [DS.flush, hd]
    rw [e1, e2]
    have HE := Lib.hid (After.same h0)
    rw [hd] at c1
    clear h h0 hrow hrest hdom hlt e1 e2
    go_enter Tryz.func155, Tryz.ntmps155
    go_wp2_with fail
    refine (ready_down c1 c2 hn).mono ?_
    rintro e w1 ⟨rfl, rfl⟩
    go_wp2
    go_ret
    exact ⟨rfl, HE.out⟩
  · have hd' : S.down = false := by simpa using hd
    have e1 : S.flushE = 0 := by simp [DS.flushE, hd']
    rw [e1, ← settled_all hok hd']
    rw [hd'] at c1
    have HS := Lib.hid (settle_all (fun _ => true) (fun _ => True) w F ⟨b, 0, none⟩ S h0 trivial (fun _ _ _ _ _ _ => trivial) (fun t w1 _ _ => flush1_any t w1))
    clear h h0 hrow hrest hdom hlt e1
    go_enter Tryz.func155, Tryz.ntmps155
    go_wp2_with fail
    refine (ready_ok c1 c2 hn).mono ?_
    rintro e w1 ⟨rfl, rfl⟩
    go_wp2_with fail
    refine HS.out.mono ?_
    rintro e w2 ⟨rfl, ha⟩
    go_wp2
    go_ret
    exact ⟨rfl, ha⟩

/-- A set of places: which whole numbers stand among the first k. -/
def Places (l : List Int) (k : Nat) : Int → Option Value := fun i => if i ∈ l.take k then some (.agg #[]) else none
theorem places_step {l : List Int} {k : Nat} {i : Int} (h : l[k]? = some i) : (fun j => if j = i then some (Value.agg #[]) else Places l k j) = Places l (k + 1) := by
  funext j
  unfold Places
  have e : l.take (k + 1) = l.take k ++ [i] := by rw [List.take_add_one, h]; rfl
  rw [e]
  by_cases hj : j = i
  · subst hj; simp
  · rw [if_neg hj]
    simp [hj]

theorem zero_unit (w : World) : (zeroValue 228).run Tryz.prog w = .ok (.agg #[]) w := by kernel_rfl

theorem run_makeMap_int {P : Program} {t k e : TypeId} (ht : P.underlying t = some (.map k e)) (n : Int) (w : World) : (Instr.makeMap t (some (.int .i64 n))).run P w = .ok (.map (some w.heap.size)) (w.alloc (.map #[] 0)) := by
  simp [Instr.makeMap, run_underlying ht, asInt, asIntOf]

theorem places_get (l : List Int) (n : Nat) (i : Int) : (Places l n i).getD (.agg #[]) = .agg #[] ∧ (Places l n i).isSome = decide (i ∈ l.take n) := by
  unfold Places
  by_cases h : i ∈ l.take n <;> simp [h]

open Classical in
theorem settled_crash {S : DS} (l : List Int) : { S.settled (fun t => decide ((t : Int) ∈ l)) with arm := none, down := false } = S.crash l := by
  have e : safeK S (fun t => decide ((t : Int) ∈ l)) S.pend.length = fun i => if S.kept l i then S.last i else S.safe i := by
    funext j
    unfold safeK
    have h : Kept S (fun t => decide ((t : Int) ∈ l)) S.pend.length j ↔ S.kept l j := by
      constructor
      · rintro ⟨t, _, h1, h2⟩
        exact ⟨t, h1, of_decide_eq_true h2⟩
      · rintro ⟨t, h1, h2⟩
        exact ⟨t, (List.getElem?_eq_some_iff.1 h1).1, h1, decide_eq_true h2⟩
    by_cases hk : S.kept l j
    · rw [if_pos hk, if_pos (h.2 hk)]
    · rw [if_neg hk, if_neg (fun h' => hk (h.1 h'))]
  unfold DS.settled DS.crash
  rw [e]

theorem After.trans {F : Nat → Prop} {w w1 w2 : World} {p : Addr} {S1 S2 : DS} (h : After F w w1 p S1) (h' : ∀ F1, DAt w1 F1 p S1 → After F1 w1 w2 p S2) : After F w w2 p S2 := by
  obtain ⟨F1, h1, h2, h3⟩ := h
  obtain ⟨F2, h4, h5, h6⟩ := h' F1 h1
  refine ⟨F2, h4, ⟨h5.os.trans h2.os, h5.tape.trans h2.tape, h5.output.trans h2.output, Nat.le_trans h2.size h5.size, fun k hk hF => (h5.block k (Nat.lt_of_lt_of_le hk h2.size) (fun hf => ?_)).trans (h2.block k hk hF)⟩, fun k hk => ?_⟩
  · rcases h3 k hf with a | a
    · exact hF a
    · omega
  · rcases h6 k hk with a | a
    · exact h3 k a
    · exact .inr (Nat.le_trans h2.size a)

theorem After.base {F : Nat → Prop} {w0 w w1 : World} {p : Addr} {S : DS} (h : After F w w1 p S) (hb : Below w0.heap.size w0 w) : After F w0 w1 p S := by
  obtain ⟨F1, h1, h2, h3⟩ := h
  refine ⟨F1, h1, ⟨h2.os.trans hb.os, h2.tape.trans hb.tape, h2.output.trans hb.output, Nat.le_trans hb.size h2.size, fun k hk hF => (h2.block k (Nat.lt_of_lt_of_le hk hb.size) hF).trans (hb.block k hk)⟩, fun k hk => ?_⟩
  rcases h3 k hk with a | a
  · exact .inl a
  · exact .inr (Nat.le_trans hb.size a)

/-- The fuse mended. -/
theorem mended {F : Nat → Prop} {w : World} {b : Nat} {S : DS} (h : DAt w F ⟨b, 0, none⟩ S) : (∃ v0, w.cell? ⟨b, 0, none⟩ = some v0) ∧ (∃ v1, w.cell? ⟨b, 1, none⟩ = some v1) ∧ w.frozen? ⟨b, 0, none⟩ = false ∧ w.frozen? ⟨b, 1, none⟩ = false ∧ After F w ((w.setCell ⟨b, 0, none⟩ (.int .i64 (-1))).setCell ⟨b, 1, none⟩ (.bool false)) ⟨b, 0, none⟩ { S with arm := none, down := false } := by
  obtain ⟨b', sb, fb, left, pv, sN, fN, sf, ff, e, hrow, hrest, harm, hok, hdom, hcnt, hFb, hlt, c0, c1, c2, c3, c4, c5, c6⟩ := h.parts
  obtain rfl : b = b' := by injection e
  refine ⟨⟨_, c0⟩, ⟨_, c1⟩, hrow.frozen 0, hrow.frozen 1, ?_⟩
  have hrow1 := (hrow.set 0 (.int .i64 (-1))).congr (diskRow_set0 _ _ _ _ _ _ _ _)
  have hrow2 := (hrow1.set 1 (.bool false)).congr (diskRow_set1 _ _ _ _ _ _ _ _)
  have hr := ((hrest.keep (F' := FN F w) (w' := w) (fun _ h _ => .inl h) (fun _ _ _ _ => rfl)).setCell hrow 0 (.int .i64 (-1))).setCell hrow1 1 (.bool false)
  have hFx : ∀ x, (some b : Option Nat) = some x → FN F w x := fun x e => .inl (by injection e with e; rw [← e]; exact hFb)
  exact After.mk' (S := { S with arm := none, down := false }) hrow2 hr ⟨by omega, .inl ⟨by omega, rfl⟩⟩ ⟨hok.size, hok.safeBytes, hok.lastBytes, hok.pendLt, hok.pendNodup, hok.same⟩ hdom hcnt (.inl hFb) (((Touch.refl F w).grow (grown_setCell w b 0 _) hFx).grow (grown_setCell _ b 1 _) hFx)

end Go.Proofs.YtkpmfobmlaldfaaGreatDoor

/-
  Contract of the program's test of images, over any disk that answers as it is to. Condition: at most 65,536 images.
-/
namespace Go.Proofs.YtkpmfobmlaldfaaGreatDoor
open Go.RowKit
set_option maxRecDepth 100000
set_option linter.unusedVariables false

/-- What the test of images answers. -/
def rightE (S : DS) (l : List (Int × List Int)) : Int := if (l.length : Int) > S.P then 6 else if rightS S l then 0 else 1

section
variable {D : World → (Nat → Prop) → Addr → DS → Prop} {w : World} {F : Nat → Prop} {p : Addr} {S : DS} {q : Nat} {seq : Int}

set_option maxHeartbeats 4000000 in
theorem right_any (api : DiskApi D) (h : D w F p S) (hq : PLog w q p seq) {G : Nat → Prop} {A : Option Addr} {n c : Nat} {l : List (Int × List Int)} (hl : RImgs w G A n l) (hin : ∀ y ∈ l, -9223372036854775808 ≤ y.1 ∧ y.1 ≤ 9223372036854775807) (hn : n ≤ 65536) :
    Calls Tryz.prog 104 #[.pointer (some ⟨q, 0, none⟩), .slice A n c] w fun e w' => e = .returned (.int .i64 (rightE S l)) ∧ Below w.heap.size w w' := by
  have hok := api.ok _ _ _ _ h
  have hsz := hok.size
  have hlen := hl.1
  have hpb := pagesOf_bounds (S.n : Int)
  have hP : S.P = pagesOf S.n := rfl
  have HMD := Lib.hid (made_any hq)
  have HP := Lib.hid (pages_same api h hq)
  have HS := Lib.hid (fun w1 (hb : Below w.heap.size w w1) => api.sizeSame w1 F p S (api.below h hb))
  have LC := Lib.hid (fun w1 (hb : Below w.heap.size w w1) => (hq.below hb).cells)
  have HL := Lib.hid (fun (w1 : World) (hb : Below w.heap.size w w1) => hl.keep hb.size (fun _ _ h => h) (fun k hk _ => hb.block k hk))
  have HI := Lib.hid hin
  clear hq h hl hin
  by_cases hcp : pagesOf (S.n : Int) < (n : Int)
  · have k1 : decide (pagesOf (S.n : Int) < (n : Int)) = true := by simpa using hcp
    have HN := Lib.hid (show rightE S l = 6 by unfold rightE; rw [if_pos (by rw [hlen, hP]; exact hcp)])
    clear hcp
    go_enter Tryz.func104, Tryz.ntmps104
    go_wp2_with fail
    refine HMD.out.mono ?_
    rintro e w1 ⟨rfl, rfl⟩
    go_wp2_with fail
    refine HP.out.mono ?_
    rintro e w1 ⟨rfl, hw1⟩
    have hw1 := hw1.symm
    subst hw1
    go_wp2
    go_ret
    rw [HN.out]
    exact ⟨rfl, Below.refl _ _⟩
  · have k1 : decide (pagesOf (S.n : Int) < (n : Int)) = false := by simpa using hcp
    have HR := Lib.hid (show rightE S l = if rightS S l then 0 else 1 by unfold rightE; rw [if_neg (by rw [hlen, hP]; exact hcp)])
    have hmk := run_makeMap_int (P := Tryz.prog) Tryz.underlying227 (n : Int)
    clear hcp
    go_enter Tryz.func104, Tryz.ntmps104
    go_wp2_with fail
    refine HMD.out.mono ?_
    rintro e w1 ⟨rfl, rfl⟩
    go_wp2_with fail
    refine HP.out.mono ?_
    rintro e w1 ⟨rfl, hw1⟩
    have hw1 := hw1.symm
    subst hw1
    have HB1 := Lib.hid (Below.refl w.heap.size w)
    go_wp2
    go_loopw [25] (fun i wr => ∃ k : Nat, k ≤ n ∧ i = .int .i64 k ∧ Hid (GoodUp S l k ∧ IMap wr w.heap.size k (Places (l.map (·.1)) k) ∧ Below w.heap.size w wr)) (fun i _ => n - (intOf i).toNat)
    case atStart => exact ⟨0, Nat.zero_le _, rfl, Lib.hid ⟨⟨fun j y hj => absurd hj (by omega), fun j k y z hjk hk => absurd hk (by omega)⟩, (IMap.made w).congr (fun i => by simp [Places]), HB1.out.alloc HB1.out.size _⟩⟩
    case round =>
      obtain ⟨k, hk, rfl, hM⟩ := hrel
      by_cases hlt1 : k < n
      · obtain ⟨hgu, him, hb⟩ := hM.out
        have hlt' : (k : Int) < (n : Int) := by omega
        obtain ⟨y, hy⟩ : ∃ y, l[k]? = some y := ⟨_, List.getElem?_eq_getElem (by omega)⟩
        obtain ⟨b, rfl, hGb, hbl, hat⟩ := (HL.out wr hb).2 (by omega)
        obtain ⟨c1, D1, m, cm, c2, hmc, hm63, hrb, _⟩ := hat k y hy
        have hml : y.2.length = m := hrb.len
        have hyi := HI.out y (List.mem_of_getElem? hy)
        have hX : Below wr.heap.size wr (wr.alloc (.cells #[.int .i64 y.1, .slice D1 m cm] 101)) := (Below.refl _ _).alloc (Nat.le_refl _) _
        have hmb := him.lt
        have qlk := (him.of_block (hX.block _ hmb)).look Tryz.underlying227 (zero_unit _) hyi
        obtain ⟨e1, e2⟩ := places_get (l.map (·.1)) k y.1
        rw [e1, e2] at qlk
        have HHM := Lib.hid (show ∀ w, Calls Tryz.prog 101 #[.int .i64 (S.n : Int), .int .i64 y.1] w fun e w' => e = .returned (.tuple #[.int .i64 (homeOf (S.n : Int) y.1).1, .bool (homeOf (S.n : Int) y.1).2]) ∧ w' = w from fun w => (lay_said.home (S.n : Int) y.1 w (by omega) hyi).mono fun e w' h' => ⟨h'.1, h'.2.symm⟩)
        have hX2 : Below wr.heap.size wr ((wr.alloc (.cells #[.int .i64 y.1, .slice D1 m cm] 101)).alloc (.cells #[] 228)) := hX.alloc hX.size _
        have hbX2 := hb.trans (hX2.mono hb.size)
        have HBX := Lib.hid hbX2
        obtain ⟨l0, _, _, _⟩ := LC.out _ hbX2
        have HIM := Lib.hid (him.of_block (w' := (wr.alloc (.cells #[.int .i64 y.1, .slice D1 m cm] 101)).alloc (.cells #[] 228)) (hX2.block _ hmb))
        have HY := Lib.hid hy
        have hn63 : n ≤ 9223372036854775807 := by omega
        have hmem : y.1 ∈ (l.map (·.1)).take k ↔ ∃ j z, j < k ∧ l[j]? = some z ∧ z.1 = y.1 := by
          constructor
          · intro hm
            obtain ⟨j, hj, e⟩ := List.getElem_of_mem hm
            have hj' : j < k := by have := hj; simp at this; omega
            have hjl : j < l.length := by have := hj; simp at this; omega
            refine ⟨j, l[j], hj', List.getElem?_eq_getElem hjl, ?_⟩
            rw [← e]; simp
          · rintro ⟨j, z, hj, hz, e⟩
            obtain ⟨hjl, e2⟩ := List.getElem?_eq_some_iff.1 hz
            refine List.mem_of_getElem? (i := j) ?_
            rw [List.getElem?_take, if_pos hj, List.getElem?_map, hz]
            simp [e]
        generalize hd : decide (y.1 ∈ (l.map (·.1)).take k) = tw at qlk
        have HTW := Lib.hid hd
        have HMEM := Lib.hid hmem
        generalize hho : homeOf (S.n : Int) y.1 = ho at HHM
        have HHO := Lib.hid hho
        have HKE := Lib.hid (And.intro hgu (And.intro hb hml))
        have HBS := Lib.hid hb.size
        clear hat hrb hgu him hb hM hd hho e1 e2 hX hX2 hbX2 hmem hml hy
        go_wp2_with fail
        go_quiet (first
          | (go_at_call 102; exact Calls.quiet_of_same (HS.out _ (belowN HBX.out _)))
          | (go_at_call 101; exact Calls.quiet_of_same (HHM.out _)))
        obtain ⟨ho1, ho2⟩ := ho
        have HBQ := Lib.hid (belowN HBX.out nq)
        cases tw
        · cases ho2
          · have HN := Lib.hid (show rightE S l = 1 by
              have hnr : ¬ rightS S l := not_right_at HY.out (fun h => by
                have := HHO.out
                unfold homeOf at this
                rw [if_neg (by rw [hP] at h; omega)] at this
                cases this)
              rw [HR.out, if_neg hnr])
            go_wp2
            go_ret
            rw [HN.out]
            exact ⟨rfl, belowN HBX.out _⟩
          · by_cases h3 : m = 240
            · subst h3
              obtain ⟨w2, hrun, him2, hg⟩ := (HIM.out.of_block (w' := (((wr.alloc (.cells #[.int .i64 y.1, .slice D1 240 cm] 101)).alloc (.cells #[] 228)).drewN nq)) rfl).store Tryz.underlying227 (by unfold maxLen; omega) hyi (.agg #[])
              have hst := places_step (l := l.map (·.1)) (k := k) (i := y.1) (by rw [List.getElem?_map, HY.out]; rfl)
              rw [hst] at him2
              have hin : 0 ≤ y.1 ∧ y.1 < pagesOf S.n := by
                have := HHO.out
                unfold homeOf at this
                by_cases hc : y.1 < 0 ∨ y.1 ≥ pagesOf S.n
                · rw [if_pos hc] at this; cases this
                · omega
              have hgn := GoodUp.next HKE.out.1 HY.out ⟨hin.1, by rw [hP]; exact hin.2, HKE.out.2.2⟩ (fun j z hj hz e => by
                have := HTW.out
                rw [decide_eq_false_iff_not] at this
                exact this (HMEM.out.2 ⟨j, z, hj, hz, e⟩))
              have hb2 : Below w.heap.size w w2 := (belowN HBX.out nq).grown hg (by have := HBX.out.size; exact this) (fun k hk => by injection hk with hk; omega)
              have hM2 := Lib.hid (And.intro hgn (And.intro him2 hb2))
              clear him2 hgn hb2 hg hst hin
              go_wp2
              go_roundw
              case rel => exact ⟨k + 1, by omega, by go_num, hM2⟩
              case measure => simp [intOf]; omega
            · have k3 : ((m : Int) != 240) = true := by simp; omega
              have HN := Lib.hid (show rightE S l = 1 by
                have hnr : ¬ rightS S l := not_right_at HY.out (fun h => h3 (by have := HKE.out.2.2; omega))
                rw [HR.out, if_neg hnr])
              clear h3
              go_wp2
              go_ret
              rw [HN.out]
              exact ⟨rfl, belowN HBX.out _⟩
        · have HN := Lib.hid (show rightE S l = 1 by
            obtain ⟨j, z, hj, hz, e⟩ := HMEM.out.1 (by simpa using HTW.out)
            rw [HR.out, if_neg (not_right_two hj HY.out hz e)])
          go_wp2
          go_ret
          rw [HN.out]
          exact ⟨rfl, belowN HBX.out _⟩
      · obtain rfl : k = n := by omega
        have HN := Lib.hid (show rightE S l = 0 by
          have := (hlen ▸ hM.out.1 : GoodUp S l l.length).all
          rw [HR.out, if_pos this])
        have HB := Lib.hid hM.out.2.2
        go_wp2
        go_ret
        rw [HN.out]
        exact ⟨rfl, HB.out⟩
end

end Go.Proofs.YtkpmfobmlaldfaaGreatDoor

/-
  Contract of the program's pieces: what a commit writes, packed; over any disk that answers as it is to. Conditions: images that may be committed, at most 65,536; the table that crc.Step reads holds what the program's text lays in it, apart from the disk.
-/
namespace Go.Proofs.YtkpmfobmlaldfaaGreatDoor
open Go.RowKit
set_option maxRecDepth 100000
set_option linter.unusedVariables false

/-- Sectors in the slots, from i on. -/
def atSlots (i : Nat) : List (Int × List Int) → List (Int × List Int)
  | [] => []
  | y :: r => ((i : Int) + 1, y.2) :: atSlots (i + 1) r
theorem atSlots_length (l : List (Int × List Int)) : ∀ i, (atSlots i l).length = l.length := by
  induction l with
  | nil => intro i; rfl
  | cons y r ih => intro i; simp [atSlots, ih]
theorem atSlots_append (l : List (Int × List Int)) (y : Int × List Int) : ∀ i, atSlots i (l ++ [y]) = atSlots i l ++ [(((i + l.length : Nat) : Int) + 1, y.2)] := by
  induction l with
  | nil => intro i; simp [atSlots]
  | cons z r ih =>
    intro i
    simp only [List.cons_append, atSlots, ih, List.length_cons]
    rw [show i + 1 + r.length = i + (r.length + 1) by omega]
theorem atSlots_snd (l : List (Int × List Int)) : ∀ i, ∀ y ∈ atSlots i l, ∃ z ∈ l, y.2 = z.2 := by
  induction l with
  | nil => intro i y hy; cases hy
  | cons z r ih =>
    intro i y hy
    rcases List.mem_cons.1 hy with rfl | hy
    · exact ⟨z, List.mem_cons_self .., rfl⟩
    · obtain ⟨u, hu, e⟩ := ih _ y hy
      exact ⟨u, List.mem_cons_of_mem _ hu, e⟩
theorem putS_slots (l : List (Int × List Int)) : ∀ (S : DS) (i : Nat), putS S (atSlots i l) = thenS (slotsS S i l) DS.fl := by
  induction l with
  | nil => intro S i; exact (thenS_ok (r := (0, S)) rfl).symm
  | cons y r ih =>
    intro S i
    obtain ⟨pg, b⟩ := y
    show thenS (S.wr ((i : Int) + 1) b) (fun S' => putS S' (atSlots (i + 1) r)) = thenS (thenS (S.wr ((i : Int) + 1) b) (fun S' => slotsS S' ((i : Int) + 1) r)) DS.fl
    by_cases h : (S.wr ((i : Int) + 1) b).1 = 0
    · rw [thenS_ok h, thenS_ok h]
      have := ih (S.wr ((i : Int) + 1) b).2 (i + 1)
      rw [show (((i + 1 : Nat) : Int)) = (i : Int) + 1 by omega] at this
      exact this
    · rw [thenS_no h, thenS_no h, thenS_no h]

section
variable {D : World → (Nat → Prop) → Addr → DS → Prop} {w : World} {F : Nat → Prop} {p : Addr} {S : DS} {q : Nat} {seq : Int}

theorem slot_own {W : World} {o : Obj} {A : Option Addr} {n c : Nat} {v : Value} (h : (Value.slice A n c).ownBlock = v.ownBlock ∨ (Value.slice A n c).ownBlock = some (W.alloc o).heap.size) : (Value.slice A n c).ownBlock = v.ownBlock ∨ ∃ r, (Value.slice A n c).ownBlock = some r ∧ W.heap.size ≤ r := h.imp id (fun e => ⟨_, e, by simp⟩)
theorem frozen_setCell (w : World) (a b : Addr) (v : Value) : (w.setCell a v).frozen? b = w.frozen? b := by
  unfold World.frozen?
  by_cases h : b.block = a.block
  · rw [h]
    simp only [World.setCell, Array.getElem?_modify]
    simp
    cases hh : w.heap[a.block]? with
    | none => rfl
    | some o => cases o <;> rfl
  · rw [Below.heap_setCell _ _ _ _ h]
/-- Or that block. -/
def orAt (F : Nat → Prop) (b : Nat) : Nat → Prop := fun k => F k ∨ k = b
/-- With another row's block. -/
def andOwn (F : Nat → Prop) (v : Value) : Nat → Prop := fun k => F k ∨ v.ownBlock = some k
/-- Between two rounds of pieces. -/
def TwoP (B : Nat) (wr : World) (F : Nat → Prop) (ov pv : Value) (l1 l2 : List (Int × List Int)) : Prop :=
  PRow 158 256 wr (andOwn F pv) B ov l1 ∧ PRow 158 256 wr (andOwn F ov) B pv l2

theorem TwoP.swap {B : Nat} {wr : World} {ov pv : Value} {l1 l2 : List (Int × List Int)} (h : TwoP B wr F ov pv l1 l2) : TwoP B wr F pv ov l2 l1 := ⟨h.2, h.1⟩
theorem TwoP.below {B : Nat} {wr w1 : World} {ov pv : Value} {l1 l2 : List (Int × List Int)} (h : TwoP B wr F ov pv l1 l2) (hb : Below wr.heap.size wr w1) : TwoP B w1 F ov pv l1 l2 := ⟨h.1.below (by decide) hb, h.2.below (by decide) hb⟩
/-- One list has one more. -/
theorem TwoP.push {B : Nat} {wr X w1 : World} {ov pv ov' : Value} {l1 l2 : List (Int × List Int)} {x : Int} {b : List Int} {g cg : Nat} (h : TwoP B wr F ov pv l1 l2) (hFlt : ∀ k, F k → k < wr.heap.size)
    (hfar : 256 ≤ cg ∧ ¬ F g ∧ ov.ownBlock ≠ some g ∧ pv.ownBlock ≠ some g ∧ g < wr.heap.size ∧ RB wr wr.heap.size (some ⟨g, 0, none⟩) 256 b)
    {vs : List Value} (hvs : wr.ownsRow B 158 2 ov l1.length vs) (hvl : ∀ (i : Nat) (x : Int × List Int), l1[i]? = some x → vs[i * 2]? = some (.int .i64 x.1) ∧ ∃ u, vs[i * 2 + 1]? = some u ∧ Far wr (andOwn F pv) ov u 256 x.2)
    (hX : Below wr.heap.size wr X) (hown : w1.ownsRow B 158 2 ov' (l1.length + 1) (vs ++ [.int .i64 x, .slice (some ⟨g, 0, none⟩) 256 cg])) (hg : X.grownBy w1 ov.ownBlock) (hl : ov'.ownBlock = ov.ownBlock ∨ ∃ r, ov'.ownBlock = some r ∧ wr.heap.size ≤ r) :
    TwoP B w1 F ov' pv (l1 ++ [(x, b)]) l2 ∧ wr.heap.size ≤ w1.heap.size ∧ (∀ k, k < wr.heap.size → ov.ownBlock ≠ some k → w1.heap[k]? = wr.heap[k]?) ∧ (ov'.ownBlock ≠ some g ∧ pv.ownBlock ≠ some g ∧ g < w1.heap.size ∧ RB w1 w1.heap.size (some ⟨g, 0, none⟩) 256 b) := by
  obtain ⟨h1, h2⟩ := h
  obtain ⟨f1, f2, f3, f4, f5, f6⟩ := hfar
  obtain ⟨vs2, hv2, _⟩ := h2.row
  obtain ⟨q1, q2, q3⟩ := h1.push (x := x) (b := b) (by decide) (fun k hk => by
    rcases hk with a | a
    · exact hFlt k a
    · exact (own_at hv2 k a).2) ⟨g, cg, rfl, f1, fun hf => by
      rcases hf with a | a
      · exact f2 a
      · exact f4 a, f3, f5, f6⟩ hvs hvl hX hown hg hl
  have hng : ov'.ownBlock ≠ some g := fun e => by
    rcases hl with a | ⟨r, a, hr⟩
    · exact f3 (a.symm.trans e)
    · rw [a] at e; injection e with e; omega
  refine ⟨⟨q1, h2.keep (by decide) q2 (fun k hk hn hf => ?_) (fun k hk hn => q3 k hk (fun e => hn (.inr e)))⟩, q2, q3, hng, f4, by omega, f6.there (by decide) (q3 g f5 f3) q2⟩
  rcases hf with a | a
  · exact hn (.inl a)
  · rcases hl with e | ⟨r, e, hr⟩
    · exact hn (.inr (e.symm.trans a))
    · rw [e] at a; injection a with a; omega

set_option maxHeartbeats 4000000 in
theorem pieces_any (api : DiskApi D) (h : D w F p S) (hq : PLog w q p seq) (ht : TabF w F) {G F2 : Nat → Prop} (hF2 : ∀ k, F2 k → k < w.heap.size) {A : Option Addr} {n c : Nat} {l : List (Int × List Int)} (hl : RImgs w G A n l) (him : Imgs S.n seq l) (hn : n ≤ 65536) (hnP : (n : Int) ≤ pagesOf S.n) :
    Calls Tryz.prog 105 #[.pointer (some ⟨q, 0, none⟩), .slice A n c] w fun e w' => Below w.heap.size w w' ∧ ∃ A1 c1 g cg A2 c2, e = .returned (.tuple #[.slice A1 n c1, .agg #[.int .i64 0, .slice (some ⟨g, 0, none⟩) 256 cg], .slice A2 n c2, .int .i64 0]) ∧
      RImgs w' F2 A1 n (atSlots 0 (packs (seq + 1) l)) ∧ RImgs w' F2 A2 n (atHomes (pagesOf S.n) (packs (seq + 1) l)) ∧ 256 ≤ cg ∧ w.heap.size ≤ g ∧ RB w' w'.heap.size (some ⟨g, 0, none⟩) 256 (secL n (seq + 1) zpage) := by
  have hok := api.ok _ _ _ _ h
  have hlt := api.lt _ _ _ _ h
  have hsz := hok.size
  have hlen := hl.1
  have hpb := pagesOf_bounds (S.n : Int)
  have hseq := him.seq0
  have hseq2 := him.seq1
  have hfew := him.few
  have HS := Lib.hid (fun w1 (hb : Below w.heap.size w w1) => api.sizeSame w1 F p S (api.below h hb))
  have LC := Lib.hid (fun w1 (hb : Below w.heap.size w w1) => (hq.below hb).cells)
  have HL := Lib.hid (fun (w1 : World) (hb : Below w.heap.size w w1) => hl.keep hb.size (fun _ _ h => h) (fun k hk _ => hb.block k hk))
  have HT := Lib.hid (fun w1 (hb : Below w.heap.size w w1) => ht.below hb)
  have HPS := Lib.hid pack_said
  have HIM := Lib.hid him
  have hX0 : Below (w.heap.size + 1) (w.alloc (.cells #[.int .i64 0, .slice none 0 0] 158)) (w.alloc (.cells #[.int .i64 0, .slice none 0 0] 158)) := Below.refl _ _
  have hw0 := (resP hX0).1
  obtain ⟨l0, l1, _, _⟩ := LC.out _ hw0
  have r1 : wrap64 (seq + 1) = seq + 1 := by unfold wrap64; omega
  clear hl him ht h
  go_enter Tryz.func105, Tryz.ntmps105
  go_wp2_with fail
  go_loopw [4, 6, 24] (fun ov pv i wr => ∃ k : Nat, k ≤ n ∧ i = .int .i64 k ∧ Hid (TwoP (w.heap.size + 1) wr (orAt F2 w.heap.size) ov pv (atSlots 0 ((packs (seq + 1) l).take k)) (atHomes (pagesOf S.n) ((packs (seq + 1) l).take k)) ∧ Below (w.heap.size + 1) (w.alloc (.cells #[.int .i64 0, .slice none 0 0] 158)) wr)) (fun _ _ i _ => n - (intOf i).toNat)
  case atStart => exact ⟨0, Nat.zero_le _, rfl, Lib.hid ⟨⟨PRow.start _ _ _ _ _, PRow.start _ _ _ _ _⟩, Below.refl _ _⟩⟩
  case round =>
    obtain ⟨k, hk, rfl, hM⟩ := hrel
    clear l0 l1 hw0 hX0
    obtain ⟨⟨hrow1, hrow2⟩, hX⟩ := hM.out
    obtain ⟨hb, c0, c1, f0, f1, hs1⟩ := resP hX
    have hpl := packs_length (seq + 1) l
    by_cases hlt1 : k < n
    · have hlt' : (k : Int) < (n : Int) := by omega
      obtain ⟨y, hy⟩ : ∃ y, l[k]? = some y := ⟨_, List.getElem?_eq_getElem (by omega)⟩
      have hym := List.mem_of_getElem? hy
      obtain ⟨hpk, hup, hb256⟩ := HIM.out.pack hym
      have hps : (packs (seq + 1) l)[k]? = some (y.1, secL y.1 (seq + 1) y.2) := by unfold packs; rw [List.getElem?_map, hy, ← hpk]; rfl
      have hpage := HIM.out.page y hym
      obtain ⟨b, rfl, hGb, hbl, hat⟩ := (HL.out wr hb).2 (by omega)
      obtain ⟨d1, D1, m, cm, d2, hmc, hm63, hrb, _⟩ := hat k y hy
      have hm240 : m = 240 := by rw [← hrb.len]; exact hpage.2.2
      subst hm240
      have hI : Below wr.heap.size wr (wr.alloc (.cells #[.int .i64 y.1, .slice D1 240 cm] 101)) := (Below.refl _ _).alloc (Nat.le_refl _) _
      have hbI := hb.trans (hI.mono hb.size)
      have htI := HT.out _ hbI
      have hsec : secR y.1 (seq + 1) = true := decide_eq_true ⟨hpage.1, by omega, by omega, by omega⟩
      have hpr : packR y.1 (seq + 1) y.2 = (secL y.1 (seq + 1) y.2, 0) := by unfold packR; rw [if_pos ⟨hsec, hpage.2.2⟩]
      have HPK := Lib.hid (HPS.out D1 240 cm _ y.2 y.1 (seq + 1) _ (hrb.below hI) (by simp) hmc (by omega) htI.tab htI.lt)
      rw [hpr] at HPK
      simp only [hb256] at HPK
      have hn63 : n ≤ 9223372036854775807 := by omega
      have HKE := Lib.hid (And.intro hrow1 (And.intro hrow2 (And.intro hX (And.intro hy (And.intro hps hI)))))
      have HBY := Lib.hid (secL_bytes y.1 (seq + 1) (HIM.out.bytes y hym))
      have HPG := Lib.hid hpage
      obtain ⟨A1, q1, rfl, _, _⟩ := hrow1.imgs (by decide)
      obtain ⟨A2, q2, rfl, _, _⟩ := hrow2.imgs (by decide)
      clear hrow1 hrow2 hX hM hat hrb hy hps hpk hup hpage hI htI hpr hb256 hpl hsec hym
      go_wp2_with fail
      refine HPK.out.mono ?_
      rintro e w2 ⟨v2, rfl, hown2, hb2⟩
      obtain ⟨g, cg, rfl, hcg, hg⟩ := own_some hown2 (by decide)
      have hr2 : RB w2 w2.heap.size (some ⟨g, 0, none⟩) 256 (secL y.1 (seq + 1) y.2) := RB.of_own hown2 HBY.out
      obtain ⟨hrow1, hrow2, hX, hy, hps, hI⟩ := HKE.out
      have hsI : (wr.alloc (.cells #[.int .i64 y.1, .slice D1 240 cm] 101)).heap.size = wr.heap.size + 1 := by simp
      have hb2' : Below wr.heap.size wr w2 := hI.trans (hb2.mono (by rw [hsI]; omega))
      have hX2 := hX.trans (hb2'.mono hs1)
      have hbw2 := hb.trans (hb2'.mono hb.size)
      have hTP2 : TwoP (w.heap.size + 1) w2 (orAt F2 w.heap.size) _ _ _ _ := TwoP.below ⟨hrow1, hrow2⟩ hb2'
      have hgw : wr.heap.size < g := by rw [hsI] at hg; omega
      have hgl : g < w2.heap.size := by obtain ⟨bb, _, e, hbb, _⟩ := hr2.at_ (by decide); cases e; exact hbb
      have hno1 : (Value.slice A1 (atSlots 0 ((packs (seq + 1) l).take k)).length q1).ownBlock ≠ some g := fun e => by
        obtain ⟨vs0, hv0, _⟩ := hrow1.row
        have := (own_at hv0 g e).2
        omega
      have hno2 : (Value.slice A2 (atHomes (pagesOf S.n) ((packs (seq + 1) l).take k)).length q2).ownBlock ≠ some g := fun e => by
        obtain ⟨vs0, hv0, _⟩ := hrow2.row
        have := (own_at hv0 g e).2
        omega
      have hFg : ¬ orAt F2 w.heap.size g := fun hf => by
        have := hb.size
        rcases hf with a | a
        · have := hF2 g a; omega
        · omega
      obtain ⟨l0, l1, _, _⟩ := LC.out _ hbw2
      have i0 : w2.cell? ⟨wr.heap.size, 0, none⟩ = some (.int .i64 y.1) := by
        rw [hb2.cell (p := ⟨wr.heap.size, 0, none⟩) (by simp), cell_of_row _ wr.heap.size 0 _ _ (0, 0) (heap_alloc_new _ _)]
        rfl
      have hsl : slotOf (S.n : Int) (k : Int) = ((k : Int) + 1, true) := by unfold slotOf; rw [if_neg (by omega)]
      have HSL := Lib.hid (show ∀ w, Calls Tryz.prog 170 #[.int .i64 (S.n : Int), .int .i64 (k : Int)] w fun e w' => e = .returned (.tuple #[.int .i64 ((k : Int) + 1), .bool true]) ∧ w' = w from fun w => by
        have hh := lay_said.slot (S.n : Int) (k : Int) w (by omega) (by omega)
        rw [hsl] at hh
        exact hh.mono fun e w' h' => ⟨h'.1, h'.2.symm⟩)
      have hpg := HPG.out
      have hho : homeOf (S.n : Int) y.1 = (y.1 + 1 + pagesOf S.n, true) := by unfold homeOf; rw [if_neg (by omega)]
      have HHM := Lib.hid (show ∀ w, Calls Tryz.prog 101 #[.int .i64 (S.n : Int), .int .i64 y.1] w fun e w' => e = .returned (.tuple #[.int .i64 (y.1 + 1 + pagesOf S.n), .bool true]) ∧ w' = w from fun w => by
        have hh := lay_said.home (S.n : Int) y.1 w (by omega) (by omega)
        rw [hho] at hh
        exact hh.mono fun e w' h' => ⟨h'.1, h'.2.symm⟩)
      have HBW := Lib.hid hbw2
      have HK2 := Lib.hid (And.intro hTP2 (And.intro (show 256 ≤ cg ∧ ¬ orAt F2 w.heap.size g ∧ (Value.slice A1 (atSlots 0 ((packs (seq + 1) l).take k)).length q1).ownBlock ≠ some g ∧ (Value.slice A2 (atHomes (pagesOf S.n) ((packs (seq + 1) l).take k)).length q2).ownBlock ≠ some g ∧ g < w2.heap.size ∧ RB w2 w2.heap.size (some ⟨g, 0, none⟩) 256 (secL y.1 (seq + 1) y.2) from ⟨hcg, hFg, hno1, hno2, hgl, hr2⟩) (And.intro hX2 hps)))
      clear hown2 hr2 hrow1 hrow2 hX hy hps hI hsI hb2' hX2 hbw2 hTP2 hgw hgl hno1 hno2 hFg hsl hho hcg hpg hb2 hb c0 c1 f0 f1
      generalize hL1 : atSlots 0 ((packs (seq + 1) l).take k) = L1 at *
      generalize hL2 : atHomes (pagesOf S.n) ((packs (seq + 1) l).take k) = L2 at *
      go_wp2_with (first
        | (go_at_call 102; refine (HS.out _ HBW.out).mono ?_; rintro e w3 ⟨rfl, hw3⟩; have hw3 := hw3.symm; subst hw3)
        | (go_at_call 170; refine (HSL.out _).mono ?_; rintro e w3 ⟨rfl, hw3⟩; have hw3 := hw3.symm; subst hw3))
      go_quiet (first
          | (go_at_call 102; exact Calls.quiet_of_same (HS.out _ (belowN HBW.out _)))
          | (go_at_call 101; exact Calls.quiet_of_same (HHM.out _)))
      obtain ⟨hTP, hfar, hX2, hps⟩ := HK2.out
      have hTPq : TwoP (w.heap.size + 1) (w2.drewN nq) (orAt F2 w.heap.size) (.slice A1 L1.length q1) (.slice A2 L2.length q2) L1 L2 := hTP.below (belowN (Below.refl _ _) nq)
      obtain ⟨vs1, hv1, hl1⟩ := hTPq.1.row
      have hXa : Below w2.heap.size (w2.drewN nq) ((w2.drewN nq).alloc (.cells #[.int .i64 ((k : Int) + 1), .slice (some ⟨g, 0, none⟩) 256 cg] 158)) := (Below.refl w2.heap.size (w2.drewN nq)).alloc (Nat.le_refl _) _
      have hv1X := own_stays hv1 (fun r hr => hXa.block r (own_at hv1 r hr).2)
      have hbk1 : ((w2.drewN nq).alloc (.cells #[.int .i64 ((k : Int) + 1), .slice (some ⟨g, 0, none⟩) 256 cg] 158)).heap[w2.heap.size]? = some (.cells #[.int .i64 ((k : Int) + 1), .slice (some ⟨g, 0, none⟩) 256 cg] 158 (0, 0)) := heap_alloc_new (w2.drewN nq) _
      have hwF : ∀ k, orAt F2 w.heap.size k → k < w2.heap.size := fun k hk => by
        have := (resP hX2).2.2.2.2.2
        rcases hk with a | a
        · have := hF2 k a; omega
        · omega
      have HPU := Lib.hid (fun (w4 : World) (A4 : Option Addr) (c4 : Nat) h1 h2 h3 => hTPq.push (w1 := w4) (ov' := .slice A4 (L1.length + 1) c4) (x := (k : Int) + 1) hwF hfar hv1 hl1 hXa h1 h2 h3)
      have hs2 : w.heap.size + 1 ≤ w2.heap.size := (resP hX2).2.2.2.2.2
      have hll1 : L1.length ≤ 4294967296 := by rw [← hL1, atSlots_length, List.length_take]; omega
      have hll2 : L2.length ≤ 4294967296 := by rw [← hL2]; simp [atHomes, List.length_take]; omega
      have HOV1 := Lib.hid (fun r hr => (own_at hv1 r hr).1)
      have HL12 := Lib.hid (And.intro hL1 hL2)
      have HKP := Lib.hid (And.intro hfar (And.intro hX2 hps))
      clear hTP hfar hX2 hps hTPq hv1 hl1 hXa hL1 hL2
      go_wp2_with (first
        | (at_builtin; refine wpList_append_two rfl _ _ 177 158 rfl Tryz.underlying177 info_piece (w.heap.size + 1) (.slice A1 L1.length q1) L1.length vs1 rfl w2.heap.size (.int .i64 ((k : Int) + 1)) (.slice (some ⟨g, 0, none⟩) 256 cg) 158 rfl hv1X hbk1 rfl rfl hll1 (by simp; omega) ?_; intro A4 c4 w4 hown4 hg4 hl4; have HO4 := Lib.hid (And.intro hown4 (And.intro hg4 hl4)); have hs4 : w2.heap.size + 1 ≤ w4.heap.size := (by have := hg4.size; simpa using this); obtain ⟨hTP4, hsz4, hall4, hno41, hno42, hgl4, hr4⟩ := HPU.out w4 A4 c4 hown4 hg4 (slot_own hl4); obtain ⟨vs2, hv2, hl2⟩ := hTP4.2.row; have hXb : Below w4.heap.size w4 (w4.alloc (.cells #[.int .i64 (y.1 + 1 + pagesOf S.n), .slice (some ⟨g, 0, none⟩) 256 cg] 158)) := (Below.refl _ _).alloc (Nat.le_refl _) _; have hv2X := own_stays hv2 (fun r hr => hXb.block r (own_at hv2 r hr).2); have hbk2 : (w4.alloc (.cells #[.int .i64 (y.1 + 1 + pagesOf S.n), .slice (some ⟨g, 0, none⟩) 256 cg] 158)).heap[w4.heap.size]? = some (.cells #[.int .i64 (y.1 + 1 + pagesOf S.n), .slice (some ⟨g, 0, none⟩) 256 cg] 158 (0, 0)) := heap_alloc_new _ _; have HPU2 := Lib.hid (fun (w5 : World) (A5 : Option Addr) (c5 : Nat) h1 h2 h3 => hTP4.swap.push (w1 := w5) (ov' := .slice A5 (L2.length + 1) c5) (x := y.1 + 1 + pagesOf S.n) (fun k hk => Nat.lt_of_lt_of_le (hwF k hk) hsz4) ⟨HKP.out.1.1, HKP.out.1.2.1, hno42, hno41, hgl4, hr4⟩ hv2 hl2 hXb h1 h2 h3); have HOV2 := Lib.hid (fun r hr => (own_at hv2 r hr).1); clear hown4 hg4 hl4 hv1X hbk1 hTP4 hall4 hno41 hno42 hgl4 hr4 hv2 hl2 hXb hsz4)
        | (at_builtin; refine wpList_append_two rfl _ _ 177 158 rfl Tryz.underlying177 info_piece (w.heap.size + 1) (.slice A2 L2.length q2) L2.length vs2 rfl w4.heap.size (.int .i64 (y.1 + 1 + pagesOf S.n)) (.slice (some ⟨g, 0, none⟩) 256 cg) 158 rfl hv2X hbk2 rfl rfl hll2 (by simp; omega) ?_; intro A5 c5 w5 hown5 hg5 hl5; have HO5 := Lib.hid (And.intro hown5 (And.intro hg5 hl5)); clear hown5 hg5 hl5 hv2X hbk2))
      obtain ⟨hTP5, _⟩ := HPU2.out w5 A5 c5 HO5.out.1 HO5.out.2.1 (slot_own HO5.out.2.2)
      obtain ⟨_, hX2, hps⟩ := HKP.out
      have hkl : ((packs (seq + 1) l).take k).length = k := by rw [List.length_take, packs_length]; omega
      have hX4 : Below (w.heap.size + 1) (w.alloc (.cells #[.int .i64 0, .slice none 0 0] 158)) w4 := ((belowN hX2 nq).alloc hs2 _).grown HO4.out.2.1 (by simp; omega) HOV1.out
      have hX5 : Below (w.heap.size + 1) (w.alloc (.cells #[.int .i64 0, .slice none 0 0] 158)) w5 := (hX4.alloc (by omega) _).grown HO5.out.2.1 (by simp; omega) HOV2.out
      have hM2 := Lib.hid (show TwoP (w.heap.size + 1) w5 (orAt F2 w.heap.size) (.slice A4 (L1.length + 1) c4) (.slice A5 (L2.length + 1) c5) (atSlots 0 ((packs (seq + 1) l).take (k + 1))) (atHomes (pagesOf S.n) ((packs (seq + 1) l).take (k + 1))) ∧ Below (w.heap.size + 1) (w.alloc (.cells #[.int .i64 0, .slice none 0 0] 158)) w5 from by
        rw [List.take_add_one, hps]
        refine ⟨?_, hX5⟩
        have e1 := atSlots_append ((packs (seq + 1) l).take k) (y.1, secL y.1 (seq + 1) y.2) 0
        rw [hkl, HL12.out.1, Nat.zero_add] at e1
        have e2 : atHomes (pagesOf S.n) ((packs (seq + 1) l).take k ++ [(y.1, secL y.1 (seq + 1) y.2)]) = L2 ++ [(y.1 + 1 + pagesOf S.n, secL y.1 (seq + 1) y.2)] := by
          rw [← HL12.out.2]; simp [atHomes]
        show TwoP _ _ _ _ _ (atSlots 0 ((packs (seq + 1) l).take k ++ [(y.1, secL y.1 (seq + 1) y.2)])) (atHomes (pagesOf S.n) ((packs (seq + 1) l).take k ++ [(y.1, secL y.1 (seq + 1) y.2)]))
        rw [e1, e2]
        exact hTP5.swap)
      clear hTP5 hX2 hps hkl hX4 hX5
      go_roundw
      case rel => exact ⟨k + 1, by omega, by go_num, hM2⟩
      case measure => simp [intOf]; omega
    · obtain rfl : k = n := by omega
      obtain ⟨A1, q1, rfl, _, him1⟩ := hrow1.imgs (by decide)
      obtain ⟨A2, q2, rfl, _, him2⟩ := hrow2.imgs (by decide)
      have hfull : (packs (seq + 1) l).take k = packs (seq + 1) l := List.take_of_length_le (by omega)
      rw [hfull] at him1 him2
      have e1 : (atSlots 0 ((packs (seq + 1) l).take k)).length = k := by rw [atSlots_length, hfull, hpl]; omega
      have e2 : (atHomes (pagesOf S.n) ((packs (seq + 1) l).take k)).length = k := by rw [hfull]; simp [atHomes, hpl]; omega
      have e1' : (atSlots 0 (packs (seq + 1) l)).length = k := by rw [hfull] at e1; exact e1
      have e2' : (atHomes (pagesOf S.n) (packs (seq + 1) l)).length = k := by rw [hfull] at e2; exact e2
      rw [e1'] at him1
      rw [e2'] at him2
      have HIM1 := Lib.hid (And.intro him1 him2)
      have HMK := Lib.hid (markOf_any (F := F) (k : Int) (seq + 1) (decide_eq_true ⟨by omega, by omega, by omega, by omega⟩) (HT.out wr hb))
      have HX := Lib.hid hX
      have hsw := hb.size
      clear hrow1 hrow2 hX hM hfull him1 him2 e1' e2' c0 c1 f0 f1
      go_wp2_with fail
      refine HMK.out.mono ?_
      rintro e w2 ⟨g, c2, rfl, hc2, hg2, hr2, hb2⟩
      have hX2 := HX.out.trans (hb2.mono hs1)
      obtain ⟨hbw, c0, c1, f0, f1, _⟩ := resP hX2
      have hE := Lib.hid (hom_end hX2 (.int .i64 0) (.slice (some ⟨g, 0, none⟩) 256 c2))
      obtain ⟨d0, d1⟩ := piece_cells (w := w2) (.int .i64 0) (.slice (some ⟨g, 0, none⟩) 256 c2) c0 c1
      have fs0 : ((w2.setCell ⟨w.heap.size, 0, none⟩ (.int .i64 0)).setCell ⟨w.heap.size, 1, none⟩ (.slice (some ⟨g, 0, none⟩) 256 c2)).frozen? ⟨w.heap.size, 0, none⟩ = false := by rw [frozen_setCell, frozen_setCell]; exact f0
      have fs1 : ((w2.setCell ⟨w.heap.size, 0, none⟩ (.int .i64 0)).setCell ⟨w.heap.size, 1, none⟩ (.slice (some ⟨g, 0, none⟩) 256 c2)).frozen? ⟨w.heap.size, 1, none⟩ = false := by rw [frozen_setCell, frozen_setCell]; exact f1
      obtain ⟨d2, d3⟩ := piece_cells (w := (w2.setCell ⟨w.heap.size, 0, none⟩ (.int .i64 0)).setCell ⟨w.heap.size, 1, none⟩ (.slice (some ⟨g, 0, none⟩) 256 c2)) (.int .i64 0) (.slice (some ⟨g, 0, none⟩) 256 c2) d0 d1
      have HK := Lib.hid (And.intro hX2 (And.intro hr2 (And.intro hc2 (And.intro hg2 (And.intro hb2 (And.intro e1 e2))))))
      clear hX2 hr2 hc2 hg2 hb2 hbw e1 e2
      go_wp2
      go_region
      obtain ⟨hX2, hr2, hc2, hg2, hb2, e1, e2⟩ := HK.out
      have hbY : Below w.heap.size w ((((w2.setCell ⟨w.heap.size, 0, none⟩ (.int .i64 0)).setCell ⟨w.heap.size, 1, none⟩ (.slice (some ⟨g, 0, none⟩) 256 c2)).setCell ⟨w.heap.size, 0, none⟩ (.int .i64 0)).setCell ⟨w.heap.size, 1, none⟩ (.slice (some ⟨g, 0, none⟩) 256 c2)).drew :=
        (((((resP hX2).1.setCell (Nat.le_refl _) _).setCell (Nat.le_refl _) _).setCell (Nat.le_refl _) _).setCell (Nat.le_refl _) _).drew
      have hother : ∀ r, r ≠ w.heap.size → ((((w2.setCell ⟨w.heap.size, 0, none⟩ (.int .i64 0)).setCell ⟨w.heap.size, 1, none⟩ (.slice (some ⟨g, 0, none⟩) 256 c2)).setCell ⟨w.heap.size, 0, none⟩ (.int .i64 0)).setCell ⟨w.heap.size, 1, none⟩ (.slice (some ⟨g, 0, none⟩) 256 c2)).drew.heap[r]? = w2.heap[r]? := fun r hr => by
        show (((((w2.setCell ⟨w.heap.size, 0, none⟩ (.int .i64 0)).setCell ⟨w.heap.size, 1, none⟩ (.slice (some ⟨g, 0, none⟩) 256 c2)).setCell ⟨w.heap.size, 0, none⟩ (.int .i64 0)).setCell ⟨w.heap.size, 1, none⟩ (.slice (some ⟨g, 0, none⟩) 256 c2))).heap[r]? = w2.heap[r]?
        rw [Below.heap_setCell _ _ _ _ hr, Below.heap_setCell _ _ _ _ hr, Below.heap_setCell _ _ _ _ hr, Below.heap_setCell _ _ _ _ hr]
      have hszY : ((((w2.setCell ⟨w.heap.size, 0, none⟩ (.int .i64 0)).setCell ⟨w.heap.size, 1, none⟩ (.slice (some ⟨g, 0, none⟩) 256 c2)).setCell ⟨w.heap.size, 0, none⟩ (.int .i64 0)).setCell ⟨w.heap.size, 1, none⟩ (.slice (some ⟨g, 0, none⟩) 256 c2)).drew.heap.size = w2.heap.size := by simp
      have hdY : ((((w2.setCell ⟨w.heap.size, 0, none⟩ (.int .i64 0)).setCell ⟨w.heap.size, 1, none⟩ (.slice (some ⟨g, 0, none⟩) 256 c2)).setCell ⟨w.heap.size, 0, none⟩ (.int .i64 0)).setCell ⟨w.heap.size, 1, none⟩ (.slice (some ⟨g, 0, none⟩) 256 c2)).drew.cell? ⟨w.heap.size, 0, none⟩ = some (.int .i64 0) ∧ ((((w2.setCell ⟨w.heap.size, 0, none⟩ (.int .i64 0)).setCell ⟨w.heap.size, 1, none⟩ (.slice (some ⟨g, 0, none⟩) 256 c2)).setCell ⟨w.heap.size, 0, none⟩ (.int .i64 0)).setCell ⟨w.heap.size, 1, none⟩ (.slice (some ⟨g, 0, none⟩) 256 c2)).drew.cell? ⟨w.heap.size, 1, none⟩ = some (.slice (some ⟨g, 0, none⟩) 256 c2) := ⟨d2, d3⟩
      clear d0 d1 d2 d3 fs0 fs1 c0 c1 f0 f1
      generalize ((((w2.setCell ⟨w.heap.size, 0, none⟩ (.int .i64 0)).setCell ⟨w.heap.size, 1, none⟩ (.slice (some ⟨g, 0, none⟩) 256 c2)).setCell ⟨w.heap.size, 0, none⟩ (.int .i64 0)).setCell ⟨w.heap.size, 1, none⟩ (.slice (some ⟨g, 0, none⟩) 256 c2)).drew = Y at *
      obtain ⟨y0, y1⟩ := hdY
      have hkeep : ∀ v : Value, ∀ A0 l0, RImgs wr (andOwn (orAt F2 w.heap.size) v) A0 k l0 → RImgs Y F2 A0 k l0 := fun v A0 l0 him => him.keep (by rw [hszY]; exact hb2.size) (fun r _ hn hf => hn (.inl (.inl hf))) (fun r hr hn => (hother r (fun e => hn (.inl (.inr e)))).trans (hb2.block r hr))
      have HF := Lib.hid (show Below w.heap.size w Y ∧ RImgs Y F2 A1 k (atSlots 0 (packs (seq + 1) l)) ∧ RImgs Y F2 A2 k (atHomes (pagesOf S.n) (packs (seq + 1) l)) ∧ 256 ≤ c2 ∧ w.heap.size ≤ g ∧ RB Y Y.heap.size (some ⟨g, 0, none⟩) 256 (secL k (seq + 1) zpage) from ⟨hbY, hkeep _ _ _ HIM1.out.1, hkeep _ _ _ HIM1.out.2, hc2, by have := hb.size; omega, hr2.there (by decide) (hother g (by omega)) (by omega)⟩)
      have HE := Lib.hid (And.intro e1 e2)
      clear hX2 hr2 hc2 hg2 hb2 hbY hother hszY hkeep e1 e2
      go_wp2
      refine bodyPost_ret (v := .tuple #[.slice A1 (atSlots 0 ((packs (seq + 1) l).take k)).length q1, .agg #[.int .i64 0, .slice (some ⟨g, 0, none⟩) 256 c2], .slice A2 (atHomes (pagesOf S.n) ((packs (seq + 1) l).take k)).length q2, .int .i64 0]) (by
        simp [results, Tryz.results105, go_sem, y0, y1]) rfl ?_
      rw [HE.out.1, HE.out.2]
      exact ⟨HF.out.1, A1, q1, g, c2, A2, q2, rfl, HF.out.2⟩
end

end Go.Proofs.YtkpmfobmlaldfaaGreatDoor

/-
  Contract of the program's Commit, over any disk that answers as it is to. Conditions: at most 65,536 images of bytes; a seq from 0 to 2^62 - 1; fewer than 2^63 - 1 writes; the table that crc.Step reads holds what the program's text lays in it, apart from the disk and the log.
-/
namespace Go.Proofs.YtkpmfobmlaldfaaGreatDoor
open Go.RowKit
set_option maxRecDepth 100000
set_option linter.unusedVariables false

/-! what commitS is, arm by arm -/
section
variable {S : DS} {seq : Int} {l : List (Int × List Int)}
/-- What comes behind the slots. -/
def commitM (S3 : DS) (seq : Int) (l : List (Int × List Int)) : Int × Int × DS :=
  if (markS S3 l.length (seq + 1)).1 ≠ 0 then ((markS S3 l.length (seq + 1)).1, seq, (markS S3 l.length (seq + 1)).2) else
  ((homesS (markS S3 l.length (seq + 1)).2 (packs (seq + 1) l)).1, seq + 1, (homesS (markS S3 l.length (seq + 1)).2 (packs (seq + 1) l)).2)
/-- What comes behind the test of images. -/
def commitP (S : DS) (seq : Int) (l : List (Int × List Int)) : Int × Int × DS :=
  if (putS S (atSlots 0 (packs (seq + 1) l))).1 ≠ 0 then ((putS S (atSlots 0 (packs (seq + 1) l))).1, seq, (putS S (atSlots 0 (packs (seq + 1) l))).2) else
  commitM (putS S (atSlots 0 (packs (seq + 1) l))).2 seq l
theorem commitS_is (h1 : rightE S l = 0) (h2 : l ≠ []) : commitS S seq l = commitP S seq l := by
  unfold rightE at h1
  by_cases ha : (l.length : Int) > S.P
  · rw [if_pos ha] at h1; cases h1
  rw [if_neg ha] at h1
  by_cases hb : rightS S l
  · unfold commitS commitP
    rw [if_neg ha, if_neg (fun h => h hb), if_neg h2, putS_slots]
    rfl
  · rw [if_neg hb] at h1; cases h1
theorem commitS_not (h : rightE S l ≠ 0 ∨ l = []) : commitS S seq l = (rightE S l, seq, S) := by
  unfold rightE at *
  unfold commitS
  by_cases ha : (l.length : Int) > S.P
  · rw [if_pos ha, if_pos ha]
  rw [if_neg ha] at h ⊢
  rw [if_neg ha]
  by_cases hb : rightS S l
  · rw [if_pos hb] at h ⊢
    rw [if_neg (fun h => h hb), if_pos (h.resolve_left (fun h => h rfl))]
  · rw [if_neg hb, if_pos hb]
theorem right_is (h : rightE S l = 0) : rightS S l ∧ (l.length : Int) ≤ S.P := by
  unfold rightE at h
  by_cases ha : (l.length : Int) > S.P
  · rw [if_pos ha] at h; cases h
  rw [if_neg ha] at h
  by_cases hb : rightS S l
  · exact ⟨hb, by omega⟩
  · rw [if_neg hb] at h; cases h
end

theorem putS_more (l : List (Int × List Int)) : ∀ S : DS, (putS S l).2.writes ≤ S.writes + l.length ∧ (putS S l).2.n = S.n := by
  induction l with
  | nil =>
    intro S
    refine ⟨?_, P_flush S⟩
    show S.flush.writes ≤ _
    unfold DS.flush
    split <;> simp
  | cons y r ih =>
    intro S
    rw [putS_cons]
    have h1 := write_more S y.1 y.2
    by_cases h : (S.wr y.1 y.2).1 = 0
    · rw [thenS_ok h]
      have h2 := ih (S.wr y.1 y.2).2
      have e1 : (S.wr y.1 y.2).2.writes ≤ S.writes + 1 := h1.1
      have e2 : (S.wr y.1 y.2).2.n = S.n := h1.2
      rw [List.length_cons]
      exact ⟨by omega, h2.2.trans e2⟩
    · rw [thenS_no h, List.length_cons]
      exact ⟨by have : (S.wr y.1 y.2).2.writes ≤ S.writes + 1 := h1.1; omega, h1.2⟩
theorem mark_put (S : DS) {c s : Int} (h : secR c s = true) : putS S [(0, secL c s zpage)] = markS S c s := (markS_sec S h).symm
theorem PLog.store {w : World} {q : Nat} {p : Addr} {seq : Int} (h : PLog w q p seq) (z : Int) : PLog (w.setCell ⟨q, 1, none⟩ (.int .i64 z)) q p z := by
  unfold PLog at *
  simp [World.setCell, Array.getElem?_modify, h]

theorem RImgs.weaken {w : World} {G G' : Nat → Prop} {A : Option Addr} {n : Nat} {l : List (Int × List Int)} (h : RImgs w G A n l) (hG : ∀ k, G' k → G k) : RImgs w G' A n l := h.keep (Nat.le_refl _) (fun k _ hn hg => hn (hG k hg)) (fun _ _ _ => rfl)
theorem RImgs.below {w w' : World} {G : Nat → Prop} {A : Option Addr} {n : Nat} {l : List (Int × List Int)} (h : RImgs w G A n l) (hb : Below w.heap.size w w') : RImgs w' G A n l := h.keep hb.size (fun _ _ h => h) (fun k hk _ => hb.block k hk)

section
variable {D : World → (Nat → Prop) → Addr → DS → Prop} {w : World} {F : Nat → Prop} {p : Addr} {S : DS} {q : Nat} {seq : Int}

/-- Kept over a call that writes to the disk alone. -/
theorem RImgs.touchQ {w1 w2 : World} {F1 F2 : Nat → Prop} {A : Option Addr} {n : Nat} {l : List (Int × List Int)} (h : RImgs w1 (orAt F1 q) A n l) (ht : Touch F1 w1 w2) (hF : ∀ k, F2 k → F1 k ∨ w1.heap.size ≤ k) : RImgs w2 (orAt F2 q) A n l :=
  h.keep ht.size (fun k hk hn hf => by
    rcases hf with a | a
    · rcases hF k a with b | b
      · exact hn (.inl b)
      · omega
    · exact hn (.inr a)) (fun k hk hn => ht.block k hk (fun hf => hn (.inl hf)))

/-- What Commit leaves: the disk, and the log with its seq. -/
def CommittedD (D : World → (Nat → Prop) → Addr → DS → Prop) (w : World) (F : Nat → Prop) (p : Addr) (q : Nat) (r : Int × Int × DS) (w' : World) : Prop :=
  ∃ F', D w' F' p r.2.2 ∧ PLog w' q p r.2.1 ∧ ¬ F' q ∧ Touch (orAt F q) w w' ∧ ∀ k, F' k → F k ∨ w.heap.size ≤ k
theorem CommittedD.of {w' : World} {S' : DS} {e : Int} (hq : PLog w q p seq) (hqF : ¬ F q) (h : WroteD D w F p S' w') : CommittedD D w F p q (e, seq, S') w' := by
  obtain ⟨F', h1, h2, h3⟩ := h
  have hlt := hq.cells.2.2.2
  refine ⟨F', h1, hq.keep (h2.block q hlt hqF), fun hf => ?_, ⟨h2.os, h2.tape, h2.output, h2.size, fun k hk hF => h2.block k hk (fun hg => hF (.inl hg))⟩, h3⟩
  rcases h3 q hf with a | a
  · exact hqF a
  · omega

set_option maxHeartbeats 8000000 in
theorem commit_any (api : DiskApi D) (h : D w F p S) (hq : PLog w q p seq) (hqF : ¬ F q) (ht : TabF w F) {A : Option Addr} {n c : Nat} {l : List (Int × List Int)} (hl : RImgs w (orAt F q) A n l) (hby : ∀ y ∈ l, AllBytes y.2) (hin : ∀ y ∈ l, -9223372036854775808 ≤ y.1 ∧ y.1 ≤ 9223372036854775807) (hn : n ≤ 65536) (hs : 0 ≤ seq ∧ seq < 4611686018427387904) (hw : S.writes ≤ 9223372036854500000) :
    Calls Tryz.prog 52 #[.pointer (some ⟨q, 0, none⟩), .slice A n c] w fun e w' => e = .returned (.int .i64 (commitS S seq l).1) ∧ CommittedD D w F p q (commitS S seq l) w' := by
  have hlen := hl.1
  have hok := api.ok _ _ _ _ h
  have hlt := api.lt _ _ _ _ h
  have hsz := hok.size
  have hpb := pagesOf_bounds (S.n : Int)
  have HRT := Lib.hid (right_any (c := c) api h hq hl hin hn)
  have HD := Lib.hid (And.intro h (And.intro hq (And.intro ht hl)))
  have HF1 := Lib.hid (fun w1 hb e => CommittedD.of (e := e) hq hqF (WroteD.later (w1 := w1) api h hb))
  by_cases hr : rightE S l = 0
  · have HR0 := Lib.hid hr
    by_cases hn0 : n = 0
    · have hl0 : l = [] := List.eq_nil_of_length_eq_zero (by omega)
      have HC := Lib.hid (commitS_not (S := S) (seq := seq) (l := l) (.inr hl0))
      subst hn0
      clear hr h hq ht hl hl0 hlen
      go_enter Tryz.func52, Tryz.ntmps52
      go_wp2_with fail
      refine HRT.out.mono ?_
      rw [HR0.out]
      rintro e w1 ⟨rfl, hb⟩
      have hF := Lib.hid (HF1.out w1 hb 0)
      clear hb
      go_wp2
      go_ret
      rw [HC.out, HR0.out]
      exact ⟨rfl, hF.out⟩
    · obtain ⟨hrs, hnP⟩ := right_is hr
      have hP : S.P = pagesOf S.n := rfl
      have hne : l ≠ [] := fun e => hn0 (by rw [← hlen, e]; rfl)
      have HI : Imgs S.n seq l := ⟨fun y hy => by have := hrs.1 y hy; rw [hP] at this; exact this, hby, hrs.2, by omega, hs.1, hs.2⟩
      have HC := Lib.hid (show commitS S seq l = commitP S seq l from commitS_is hr hne)
      have HPC := Lib.hid (fun w1 (hb : Below w.heap.size w w1) => pieces_any (c := c) (F2 := orAt F q) api (api.below h hb) (hq.below hb) (ht.below hb) (fun k hk => by
        rcases hk with a | a
        · have := hlt k a; have := hb.size; omega
        · have := hq.cells.2.2.2; have := hb.size; omega) (hl.below hb) HI hn (by omega))
      have k3 : ((n : Int) == 0) = false := by simp; omega
      have hql := hq.cells.2.2.2
      have HP256 := Lib.hid (show (∀ y ∈ atSlots 0 (packs (seq + 1) l), y.2.length = 256) ∧ (∀ y ∈ atHomes (pagesOf S.n) (packs (seq + 1) l), y.2.length = 256) from ⟨fun y hy => by
          obtain ⟨z, hz, e⟩ := atSlots_snd _ _ y hy
          rw [e]; exact (HI.mem hz).2, fun y hy => by
          obtain ⟨z, hz, rfl⟩ := List.mem_map.1 hy
          exact (HI.mem hz).2⟩)
      have hseqw : wrap64 (seq + 1) = seq + 1 := by unfold wrap64; omega
      have hsecR : secR n (seq + 1) = true := decide_eq_true ⟨by omega, by omega, by omega, by omega⟩
      clear hr h hq ht hl hrs hne HI
      go_enter Tryz.func52, Tryz.ntmps52
      go_wp2_with fail
      refine HRT.out.mono ?_
      rw [HR0.out]
      rintro e w1 ⟨rfl, hb1⟩
      have hpc := HPC.out w1 hb1
      have HB1 := Lib.hid hb1
      clear hb1
      go_wp2_with fail
      refine hpc.mono ?_
      rintro e w2 ⟨hb2, A1, c1, g, cg, A2, c2, rfl, hi1, hi2, hcg, hgw, hrg⟩
      have hb02 := HB1.out.trans (hb2.mono HB1.out.size)
      have hX : Below w2.heap.size w2 (w2.alloc (.cells #[.int .i64 0, .slice (some ⟨g, 0, none⟩) 256 cg] 158)) := (Below.refl _ _).alloc (Nat.le_refl _) _
      have hbX := hb02.trans (hX.mono hb02.size)
      obtain ⟨hD, hq, ht, _⟩ := HD.out
      have hDX := api.below hD hbX
      have hi1X := hi1.below hX
      have hi2X := hi2.below hX
      have hgl : g < w2.heap.size := by obtain ⟨bb, _, e, hbb, _⟩ := hrg.at_ (by decide); cases e; exact hbb
      have hrgX := hrg.there (by decide) (hX.block g hgl) hX.size
      have hqX := hq.below hbX
      obtain ⟨l0, l1, f1, _⟩ := hqX.cells
      have hgo : w.heap.size ≤ g := Nat.le_trans HB1.out.size hgw
      have hw02 := hb02.size
      have hFm : ¬ F w2.heap.size := fun hf => by have := hlt _ hf; omega
      have hFg : ¬ F g := fun hf => by have := hlt _ hf; omega
      have hmc : (w2.alloc (.cells #[.int .i64 0, .slice (some ⟨g, 0, none⟩) 256 cg] 158)).heap[w2.heap.size]? = some (.cells #[.int .i64 0, .slice (some ⟨g, 0, none⟩) 256 cg] 158 (0, 0)) := heap_alloc_new _ _
      have HPUT := Lib.hid (put_any api (c := c1) hDX (hi1X.weaken (fun k hk => .inl hk)) HP256.out.1 hn (by omega))
      have HK := Lib.hid (And.intro hbX (And.intro hi2X (And.intro hrgX (And.intro hqX (And.intro hmc (And.intro hFm (And.intro hFg hcg)))))))
      have hXs : (w2.alloc (.cells #[.int .i64 0, .slice (some ⟨g, 0, none⟩) 256 cg] 158)).heap.size = w2.heap.size + 1 := by simp
      clear hb2 hX hbX hD hq ht hDX hi1 hi2 hi1X hi2X hrg hrgX hqX hmc hFm hFg hcg hpc hb02
      go_wp2_with fail
      by_cases h0 : (putS S (atSlots 0 (packs (seq + 1) l))).1 = 0
      · obtain ⟨hm1, hm2⟩ := putS_more (atSlots 0 (packs (seq + 1) l)) S
        rw [atSlots_length, packs_length] at hm1
        have H0 := Lib.hid h0
        refine HPUT.out.mono ?_
        rw [h0]
        rintro e w3 ⟨rfl, F3, d3, t3, n3⟩
        obtain ⟨hbX, hi2X, hrgX, hqX, hmc, hFm, hFg, hcg⟩ := HK.out
        have T3 : Touch F w w3 := (Touch.of_below hbX).join (fun k hk => .inl hk) t3
        have N3 : ∀ k, F3 k → F k ∨ w.heap.size ≤ k := new_join hbX.size (fun k hk => .inl hk) n3
        have hq3 : PLog w3 q p seq := hqX.keep (t3.block q hqX.cells.2.2.2 hqF)
        have hi23 := hi2X.touchQ t3 n3
        have hgX := (show g < (w2.alloc (.cells #[.int .i64 0, .slice (some ⟨g, 0, none⟩) 256 cg] 158)).heap.size by omega)
        have hrg3 := hrgX.there (by decide) (t3.block g hgX hFg) t3.size
        have hmc3 := (t3.block w2.heap.size (by omega) hFm).trans hmc
        have hF3g : ¬ F3 g := fun hf => by
          rcases n3 g hf with a | a
          · exact hFg a
          · omega
        have hF3q : ¬ F3 q := fun hf => by
          rcases n3 q hf with a | a
          · exact hqF a
          · have := hqX.cells.2.2.2; omega
        have hlt3 := api.lt _ _ _ _ d3
        have hX3 : Below w3.heap.size w3 (w3.alloc (.cells #[.int .i64 0, .slice (some ⟨g, 0, none⟩) 256 cg] 158)).drew := ((Below.refl _ _).alloc (Nat.le_refl _) _).drew
        have hg3 : g < w3.heap.size := Nat.lt_of_lt_of_le hgX t3.size
        have HPUT2 := Lib.hid (put_any api (c := 1) (api.below d3 hX3) (RImgs.one (show (w3.alloc (.cells #[.int .i64 0, .slice (some ⟨g, 0, none⟩) 256 cg] 158)).drew.heap[w3.heap.size]? = some (.cells #[.int .i64 0, .slice (some ⟨g, 0, none⟩) 256 cg] 158 (0, 0)) from heap_alloc_new _ _) (fun hf => by have := hlt3 _ hf; omega) hF3g hcg (by decide) (hrg3.there (by decide) (hX3.block g hg3) hX3.size)) (fun y hy => by obtain rfl := List.mem_singleton.1 hy; exact (secL_length ..).trans (by rw [zpage_ok.1])) (by decide) (by omega))
        rw [mark_put _ hsecR] at HPUT2
        obtain ⟨l0, l1, f1, _⟩ := hq3.cells
        have m0 : w3.cell? ⟨w2.heap.size, 0, none⟩ = some (.int .i64 0) := by rw [cell_of_row w3 _ 0 _ _ (0, 0) hmc3]; rfl
        have m1 : w3.cell? ⟨w2.heap.size, 1, none⟩ = some (.slice (some ⟨g, 0, none⟩) 256 cg) := by rw [cell_of_row w3 _ 1 _ _ (0, 0) hmc3]; rfl
        have hF3m : ¬ F3 w2.heap.size := fun hf => by
          rcases n3 _ hf with a | a
          · exact hFm a
          · omega
        have hm3 : w2.heap.size < w3.heap.size := Nat.lt_of_lt_of_le (by omega) t3.size
        have HC3 := Lib.hid (show (w3.alloc (.cells #[.int .i64 0, .slice (some ⟨g, 0, none⟩) 256 cg] 158)).drew.cell? ⟨q, 0, none⟩ = some (.pointer (some p)) ∧ (w3.alloc (.cells #[.int .i64 0, .slice (some ⟨g, 0, none⟩) 256 cg] 158)).drew.cell? ⟨w2.heap.size, 0, none⟩ = some (.int .i64 0) ∧ (w3.alloc (.cells #[.int .i64 0, .slice (some ⟨g, 0, none⟩) 256 cg] 158)).drew.cell? ⟨w2.heap.size, 1, none⟩ = some (.slice (some ⟨g, 0, none⟩) 256 cg) from ⟨(hX3.cell (p := ⟨q, 0, none⟩) hq3.cells.2.2.2).trans l0, (hX3.cell (p := ⟨w2.heap.size, 0, none⟩) hm3).trans m0, (hX3.cell (p := ⟨w2.heap.size, 1, none⟩) hm3).trans m1⟩)
        have hs33 : w3.heap.size ≤ (w3.alloc (.cells #[.int .i64 0, .slice (some ⟨g, 0, none⟩) 256 cg] 158)).drew.heap.size := hX3.size
        have HC5 := Lib.hid (fun (w5 : World) (t5 : Touch F3 (w3.alloc (.cells #[.int .i64 0, .slice (some ⟨g, 0, none⟩) 256 cg] 158)).drew w5) => show w5.cell? ⟨q, 0, none⟩ = some (.pointer (some p)) ∧ w5.cell? ⟨w2.heap.size, 0, none⟩ = some (.int .i64 0) ∧ w5.cell? ⟨w2.heap.size, 1, none⟩ = some (.slice (some ⟨g, 0, none⟩) 256 cg) from ⟨(World.cell?_of_block (a := ⟨q, 0, none⟩) (t5.block q (Nat.lt_of_lt_of_le hq3.cells.2.2.2 hs33) hF3q)).trans HC3.out.1, (World.cell?_of_block (a := ⟨w2.heap.size, 0, none⟩) (t5.block _ (Nat.lt_of_lt_of_le hm3 hs33) hF3m)).trans HC3.out.2.1, (World.cell?_of_block (a := ⟨w2.heap.size, 1, none⟩) (t5.block _ (Nat.lt_of_lt_of_le hm3 hs33) hF3m)).trans HC3.out.2.2⟩)
        have HC5W := Lib.hid (fun (w5 : World) (S5 : DS) (hW : WroteD D (w3.alloc (.cells #[.int .i64 0, .slice (some ⟨g, 0, none⟩) 256 cg] 158)).drew F3 p S5 w5) => HC5.out w5 (by obtain ⟨_, _, t5, _⟩ := hW; exact t5))
        have HK3 := Lib.hid (And.intro T3 (And.intro N3 (And.intro hq3 (And.intro hi23 (And.intro hX3 hF3q)))))
        have hP3 : (putS S (atSlots 0 (packs (seq + 1) l))).2.P = pagesOf S.n := by unfold DS.P; rw [hm2]
        have HCP2 := Lib.hid (show commitP S seq l = commitM (putS S (atSlots 0 (packs (seq + 1) l))).2 seq l from if_neg (fun h => h h0))
        clear h0 d3 t3 n3 hbX hi2X hrgX hqX hmc hFm hFg hcg T3 N3 hq3 hi23 hrg3 hmc3 hF3g hX3 HPUT HK hlt3 hF3q hgX hg3 hF3m hm3 hs33
        generalize (putS S (atSlots 0 (packs (seq + 1) l))).2 = S3 at *
        go_wp2_with fail
        by_cases h1 : (markS S3 n (seq + 1)).1 = 0
        · have H1 := Lib.hid h1
          go_region_held3 (fun w' => w'.cell? ⟨q, 0, none⟩ = some (.pointer (some p)) ∧ w'.cell? ⟨w2.heap.size, 0, none⟩ = some (.int .i64 0) ∧ w'.cell? ⟨w2.heap.size, 1, none⟩ = some (.slice (some ⟨g, 0, none⟩) 256 cg))
            (first | exact ⟨l0, m0, m1⟩ | exact HC3.out | exact c5)
            ((go_at_call 88; refine HPUT2.out.mono ?_; rw [H1.out]; rintro e w5 ⟨rfl, F5, d5, t5, n5⟩; have c5 := HC5.out w5 t5))
          clear c5 HC5 HC5W HC3
          obtain ⟨T3, N3, hq3, hi23, hX3, hF3q⟩ := HK3.out
          have T5 : Touch F w w5 := T3.join N3 ((Touch.of_below hX3).join (fun k hk => .inl hk) t5)
          have N5 : ∀ k, F5 k → F k ∨ w.heap.size ≤ k := new_join T3.size N3 (new_join hX3.size (fun k hk => .inl hk) n5)
          have hq5 : PLog w5 q p seq := (hq3.below hX3).keep (t5.block q (hq3.below hX3).cells.2.2.2 hF3q)
          have hi25 := (hi23.below hX3).touchQ t5 n5
          have hF5q : ¬ F5 q := fun hf => by
            rcases n5 q hf with a | a
            · exact hF3q a
            · have := (hq3.below hX3).cells.2.2.2; omega
          have d6 := api.keep w5 (w5.setCell ⟨q, 1, none⟩ (.int .i64 (seq + 1))) F5 p _ d5 (fun k hk => Below.heap_setCell _ _ _ _ (fun e => hF5q (by have : k = q := e; rw [← this]; exact hk)))
          have hi26 : RImgs (w5.setCell ⟨q, 1, none⟩ (.int .i64 (seq + 1))) F5 A2 n (atHomes (pagesOf S.n) (packs (seq + 1) l)) := hi25.keep (by simp) (fun k _ hn hf => hn (.inl hf)) (fun k _ hn => Below.heap_setCell _ _ _ _ (fun e => hn (.inr e)))
          have hmk := putS_more [(0, secL n (seq + 1) zpage)] S3
          rw [mark_put _ hsecR] at hmk
          have hPM : (markS S3 n (seq + 1)).2.P = pagesOf S.n := by unfold DS.P; rw [hmk.2, ← hP3]; rfl
          have HPUT3 := Lib.hid (put_any api (c := c2) d6 hi26 HP256.out.2 hn (by have := hmk.1; simp at this; omega))
          have hph := putS_homes (packs (seq + 1) l) (markS S3 n (seq + 1)).2
          rw [hPM] at hph
          rw [hph] at HPUT3
          obtain ⟨l0, l1, f1, _⟩ := hq5.cells
          have l06 : (w5.setCell ⟨q, 1, none⟩ (.int .i64 (seq + 1))).cell? ⟨q, 0, none⟩ = some (.pointer (some p)) := (World.cell?_setCell_other _ ⟨q, 1, none⟩ ⟨q, 0, none⟩ _ (by simp)).trans l0
          have HCP3 := Lib.hid (show commitM S3 seq l = ((homesS (markS S3 n (seq + 1)).2 (packs (seq + 1) l)).1, seq + 1, (homesS (markS S3 n (seq + 1)).2 (packs (seq + 1) l)).2) from by
            unfold commitM
            rw [hlen, if_neg (fun h => h h1)])
          have HK5 := Lib.hid (And.intro T5 (And.intro N5 (And.intro (hq5.store (seq + 1)) hF5q)))
          clear T3 N3 hq3 hi23 hX3 hF3q T5 N5 hq5 hi25 hF5q d5 d6 hi26 t5 n5 h1 HPUT2 HK3 hph hPM hmk m0 m1
          go_wp2_with fail
          refine HPUT3.out.mono ?_
          rintro e w7 ⟨rfl, F7, d7, t7, n7⟩
          obtain ⟨T5, N5, hq6, hF5q⟩ := HK5.out
          have hF := Lib.hid (show CommittedD D w F p q ((homesS (markS S3 n (seq + 1)).2 (packs (seq + 1) l)).1, seq + 1, (homesS (markS S3 n (seq + 1)).2 (packs (seq + 1) l)).2) w7 from
            ⟨F7, d7, hq6.keep (t7.block q hq6.cells.2.2.2 hF5q), fun hf => by
              rcases n7 q hf with a | a
              · exact hF5q a
              · have := hq6.cells.2.2.2; omega, ⟨t7.os.trans T5.os, t7.tape.trans T5.tape, t7.output.trans T5.output, by have := T5.size; have := t7.size; simp at this; omega, fun k hk hn => (t7.block k (by have := T5.size; simp; omega) (fun hf => by
                rcases N5 k hf with a | a
                · exact hn (.inl a)
                · omega)).trans ((Below.heap_setCell _ _ _ _ (fun e => hn (.inr e))).trans (T5.block k hk (fun hf => hn (.inl hf))))⟩, new_join T5.size N5 (fun k hk => (n7 k hk).imp id (fun a => by simpa using a))⟩)
          clear T5 N5 hq6 hF5q d7 t7 n7
          go_wp2
          go_ret
          rw [HC.out, HCP2.out, HCP3.out]
          exact ⟨rfl, hF.out⟩
        · have KN := Lib.hid (show ((markS S3 n (seq + 1)).1 != 0) = true by simpa using h1)
          have HCP3 := Lib.hid (show commitM S3 seq l = ((markS S3 n (seq + 1)).1, seq, (markS S3 n (seq + 1)).2) from by
            unfold commitM
            rw [hlen, if_pos h1])
          clear h1
          go_region_held3 (fun w' => w'.cell? ⟨q, 0, none⟩ = some (.pointer (some p)) ∧ w'.cell? ⟨w2.heap.size, 0, none⟩ = some (.int .i64 0) ∧ w'.cell? ⟨w2.heap.size, 1, none⟩ = some (.slice (some ⟨g, 0, none⟩) 256 cg))
            (first | exact ⟨l0, m0, m1⟩ | exact HC3.out | exact c5)
            ((go_at_call 88; refine HPUT2.out.mono ?_; rintro e w5 ⟨rfl, hW⟩; have c5 := HC5W.out w5 _ hW))
          have kne := KN.out
          clear c5 HC5 HC5W HC3
          obtain ⟨T3, N3, hq3, hi23, hX3, hF3q⟩ := HK3.out
          have hF := Lib.hid (CommittedD.of (e := (markS S3 n (seq + 1)).1) HD.out.2.1 hqF (WroteD.join T3 N3 (WroteD.join (Touch.of_below hX3) (fun k hk => .inl hk) hW)))
          clear hW T3 N3 hq3 hi23 hX3 hF3q
          go_wp2
          go_ret
          rw [HC.out, HCP2.out, HCP3.out]
          exact ⟨rfl, hF.out⟩
      · have KN := Lib.hid (show ((putS S (atSlots 0 (packs (seq + 1) l))).1 != 0) = true by simpa using h0)
        have HCP2 := Lib.hid (show commitP S seq l = ((putS S (atSlots 0 (packs (seq + 1) l))).1, seq, (putS S (atSlots 0 (packs (seq + 1) l))).2) from if_pos h0)
        clear h0
        refine HPUT.out.mono ?_
        rintro e w3 ⟨rfl, hW⟩
        have kne := KN.out
        have hF := Lib.hid (CommittedD.of (e := (putS S (atSlots 0 (packs (seq + 1) l))).1) HD.out.2.1 hqF (WroteD.join (Touch.of_below HK.out.1) (fun k hk => .inl hk) hW))
        clear hW
        go_wp2
        go_ret
        rw [HC.out, HCP2.out]
        exact ⟨rfl, hF.out⟩
  · have k1 : (rightE S l != 0) = true := by simpa using hr
    have HC := Lib.hid (commitS_not (S := S) (seq := seq) (l := l) (.inl hr))
    have K1 := Lib.hid k1
    clear hr h hq ht hl k1
    go_enter Tryz.func52, Tryz.ntmps52
    go_wp2_with fail
    refine HRT.out.mono ?_
    rintro e w1 ⟨rfl, hb⟩
    have hF := Lib.hid (HF1.out w1 hb (rightE S l))
    have k1 := K1.out
    clear hb
    go_wp2
    go_ret
    rw [HC.out]
    exact ⟨rfl, hF.out⟩
end

end Go.Proofs.YtkpmfobmlaldfaaGreatDoor
