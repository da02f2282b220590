/-
  The texts RedoPE, RedoRF, IMap, DevP joined. Conditions: those that each part says at its head.
-/
import Derived.Test.YtfbljmkjiaklfaaGreatDoorG12
import Derived.Test.YtfbljmkjiaklfaaGreatDoorG9
import Derived.Test.YtfbljmkjiaklfaaGreatDoorG1
import Derived.Test.YtfbljmkjiaklfaaGreatDoorG8
import Derived.Test.YtfbljmkjiaklfaaGreatDoorG2
import Derived.StillTailTactics
import Derived.Maps.OwnSet
import Derived.Maps.OwnOps
import Derived.Deep.OwnRows

/-
  Contracts of the program's redo and Open, over any disk that answers as it is to. Conditions: fewer than 2^63 - 1 writes; the table that crc.Step reads holds what the program's text lays in it, apart from the disk.
-/
namespace Go.Proofs.YtfbljmkjiaklfaaGreatDoor
open Go.RowKit
set_option maxRecDepth 100000
set_option linter.unusedVariables false

/-- Sectors at their homes. -/
def atHomes (P : Int) (l : List (Int × List Int)) : List (Int × List Int) := l.map fun y => (y.1 + 1 + P, y.2)
theorem putS_homes (l : List (Int × List Int)) : ∀ S : DS, putS S (atHomes S.P l) = homesS S l := by
  induction l with
  | nil => intro S; rfl
  | cons y r ih =>
    intro S
    rw [homesS_cons]
    show thenS (S.wr (y.1 + 1 + S.P) y.2) (fun S' => putS S' (atHomes S.P r)) = thenS (S.wr (y.1 + 1 + S.P) y.2) (fun S' => homesS S' r)
    by_cases h : (S.wr (y.1 + 1 + S.P) y.2).1 = 0
    · rw [thenS_ok h, thenS_ok h]
      have hn : (S.wr (y.1 + 1 + S.P) y.2).2.P = S.P := by
        show pagesOf _ = pagesOf _
        rw [show (S.wr (y.1 + 1 + S.P) y.2).2.n = S.n from P_write _ _ _]
      have := ih (S.wr (y.1 + 1 + S.P) y.2).2
      rw [hn] at this
      exact this
    · rw [thenS_no h, thenS_no h]
/-- What redo answers. -/
def redoS (S : DS) (r : Option (List (Int × List Int))) : Int × DS := match r with | none => (0, S) | some l => homesS S l

section
variable {D : World → (Nat → Prop) → Addr → DS → Prop} {w : World} {F : Nat → Prop} {p : Addr} {S : DS} {q : Nat} {seq : Int}

set_option maxHeartbeats 4000000 in
theorem redo_any (api : DiskApi D) (h : D w F p S) (hq : PLog w q p seq) (ht : TabF w F) (hd : S.down = false) (count : Nat) (hc : count ≤ 4294967296) (hw : S.writes ≤ 9223372036854700000) :
    Calls Tryz.prog 64 #[.pointer (some ⟨q, 0, none⟩), .int .i64 (count : Int)] w fun e w' => e = .returned (.int .i64 (redoS S (slotsOf S.n S.last count seq)).1) ∧ WroteD D w F p (redoS S (slotsOf S.n S.last count seq)).2 w' := by
  have hok := api.ok _ _ _ _ h
  have hlt := api.lt _ _ _ _ h
  have hsz := hok.size
  have hpb := pagesOf_bounds (S.n : Int)
  have hpn := (pagesOf_nn (S.n : Int)).2.1 (by omega)
  have HP := Lib.hid (pages_any api h hq)
  have HH := Lib.hid (fun w1 (hb : Below w.heap.size w w1) i hi => homeOf_any api (api.below h hb) (hq.below hb) (ht.below hb) hd i hi)
  have HD := Lib.hid (fun w1 (hb : Below w.heap.size w w1) => api.below h hb)
  have LC := Lib.hid (fun w1 (hb : Below w.heap.size w w1) => (hq.below hb).cells)
  have HL := Lib.hid (fun w1 (hb : Below w.heap.size w w1) => WroteD.later api h hb)
  clear hq ht h
  by_cases hcp : pagesOf (S.n : Int) < (count : Int)
  · have k1 : decide (pagesOf (S.n : Int) < (count : Int)) = true := by simpa using hcp
    have HN := Lib.hid (show slotsOf S.n S.last count seq = none by unfold slotsOf; rw [if_pos hcp])
    clear hcp
    go_enter Tryz.func64, Tryz.ntmps64
    go_wp2_with fail
    refine HP.out.mono ?_
    rintro e w1 ⟨rfl, hb⟩
    have hF := Lib.hid (HL.out _ hb)
    clear hb
    go_wp2
    go_ret
    rw [HN.out]
    exact ⟨rfl, hF.out⟩
  · have k1 : decide (pagesOf (S.n : Int) < (count : Int)) = false := by simpa using hcp
    have HSO := Lib.hid (show ∀ r, slotsUp S.n S.last seq count = r → slotsOf S.n S.last count seq = r from fun r hr => by unfold slotsOf; rw [if_neg (by omega), Int.toNat_natCast]; exact hr)
    go_enter Tryz.func64, Tryz.ntmps64
    go_wp2_with fail
    refine HP.out.mono ?_
    rintro e w1 ⟨rfl, hb1⟩
    have HB1 := Lib.hid hb1
    clear hb1
    go_wp2
    go_loopw [5, 15] (fun ov i wr => ∃ (k : Nat) (l : List (Int × List Int)), k ≤ count ∧ i = .int .i64 k ∧ Hid (slotsUp S.n S.last seq k = some l ∧ PRow 118 256 wr F w.heap.size ov (atHomes (pagesOf S.n) l) ∧ Below w.heap.size w wr)) (fun _ i _ => count - (intOf i).toNat)
    case atStart => exact ⟨0, [], Nat.zero_le _, rfl, Lib.hid ⟨rfl, PRow.start _ _ _ _ _, HB1.out⟩⟩
    case round =>
      obtain ⟨k, l, hk, rfl, hM⟩ := hrel
      by_cases hlt2 : k < count
      · obtain ⟨hup, hrow, hb⟩ := hM.out
        have hlt' : (k : Int) < (count : Int) := by omega
        have hho := HH.out wr hb k (by omega)
        obtain ⟨A0, c0, rfl, hAc, _⟩ := hrow.imgs (by decide)
        go_wp2_with fail
        refine hho.mono ?_
        rintro e w2 ⟨hb2, hr⟩
        have hb02 := hb.trans (hb2.mono hb.size)
        rcases hsi : slotIn S.n S.last seq k with _ | y
        · rw [hsi] at hr
          have hr : e = .returned (.tuple #[.agg #[.int .i64 0, .slice none 0 0], .bool false, .int .i64 0]) := hr
          subst hr
          have HN := Lib.hid (HSO.out none (slotsUp_none (slotsUp_stop hsi) (by omega)))
          have hF := Lib.hid (HL.out _ ((hb02.alloc hb02.size (.cells #[.int .i64 0, .slice none 0 0] 118))))
          clear hrow hup hM hsi hb2 hb hho hb02
          go_wp2
          go_ret
          rw [HN.out]
          exact ⟨rfl, hF.out⟩
        · rw [hsi] at hr
          obtain ⟨g, c, rfl, h256, hg, hrb⟩ : ∃ g c, e = .returned (.tuple #[.agg #[.int .i64 (y.1 + 1 + pagesOf S.n), .slice (some ⟨g, 0, none⟩) 256 c], .bool true, .int .i64 0]) ∧ 256 ≤ c ∧ wr.heap.size ≤ g ∧ RB w2 w2.heap.size (some ⟨g, 0, none⟩) 256 y.2 := hr
          have hgl : g < w2.heap.size := by obtain ⟨bb, _, e, hbb, _⟩ := hrb.at_ (by decide); cases e; exact hbb
          have hbs := hb.size
          have hX1 : Below w2.heap.size w2 (w2.alloc (.cells #[.int .i64 (y.1 + 1 + pagesOf S.n), .slice (some ⟨g, 0, none⟩) 256 c] 118)) := (Below.refl _ _).alloc (Nat.le_refl _) _
          have hrow2 := hrow.below (by decide) hb2
          obtain ⟨vs, hvs, hvl⟩ := hrow2.row
          have hX2 : Below w2.heap.size w2 ((w2.alloc (.cells #[.int .i64 (y.1 + 1 + pagesOf S.n), .slice (some ⟨g, 0, none⟩) 256 c] 118)).alloc (.cells #[.int .i64 (y.1 + 1 + pagesOf S.n), .slice (some ⟨g, 0, none⟩) 256 c] 118)) := hX1.alloc hX1.size _
          have hvsX := own_stays hvs (fun r hr => hX2.block r (own_at hvs r hr).2)
          have hbk : ((w2.alloc (.cells #[.int .i64 (y.1 + 1 + pagesOf S.n), .slice (some ⟨g, 0, none⟩) 256 c] 118)).alloc (.cells #[.int .i64 (y.1 + 1 + pagesOf S.n), .slice (some ⟨g, 0, none⟩) 256 c] 118)).heap[w2.heap.size + 1]? = some (.cells #[.int .i64 (y.1 + 1 + pagesOf S.n), .slice (some ⟨g, 0, none⟩) 256 c] 118 (0, 0)) := by
            have := heap_alloc_new (w2.alloc (.cells #[.int .i64 (y.1 + 1 + pagesOf S.n), .slice (some ⟨g, 0, none⟩) 256 c] 118)) (.cells #[.int .i64 (y.1 + 1 + pagesOf S.n), .slice (some ⟨g, 0, none⟩) 256 c] 118)
            simpa using this
          have hno : (Value.slice A0 (atHomes (pagesOf S.n) l).length c0).ownBlock ≠ some g := fun e => by
            obtain ⟨vs0, hv0, _⟩ := hrow.row
            have := (own_at hv0 g e).2
            omega
          have hfar : Far w2 F (.slice A0 (atHomes (pagesOf S.n) l).length c0) (.slice (some ⟨g, 0, none⟩) 256 c) 256 y.2 := ⟨g, c, rfl, h256, fun hf => by have := hlt g hf; omega, hno, hgl, hrb⟩
          have hllen : (atHomes (pagesOf S.n) l).length = k := by rw [← (slotsUp_mem k hup).1]; simp [atHomes]
          have HPU := Lib.hid (fun (w3 : World) (A' : Option Addr) (c' : Nat) h1 h2 h3 => hrow2.push (v' := .slice A' ((atHomes (pagesOf S.n) l).length + 1) c') (w1 := w3) (x := y.1 + 1 + pagesOf S.n) (by decide) (fun k hk => by have := hlt k hk; have := hb02.size; omega) hfar hvs hvl hX2 h1 h2 h3)
          have HUP := Lib.hid (slotsUp_next hup hsi)
          have HB02 := Lib.hid hb02
          have HAT : atHomes (pagesOf S.n) (l ++ [y]) = atHomes (pagesOf S.n) l ++ [(y.1 + 1 + pagesOf S.n, y.2)] := by simp [atHomes]
          have hs2 := hb02.size
          have HOV := Lib.hid (fun r hr => (own_at hvs r hr).1)
          have hk64 : (atHomes (pagesOf S.n) l).length ≤ 4294967296 := by omega
          clear hrow hup hM hsi hb2 hb hho hrow2 hfar hvl hrb hX1 hb02 hvs hno hllen
          generalize atHomes (pagesOf S.n) l = LL at *
          go_wp2_with (at_builtin; refine wpList_append_two rfl _ _ 174 118 rfl Tryz.underlying174 info_piece w.heap.size (.slice A0 LL.length c0) LL.length vs rfl (w2.heap.size + 1) (.int .i64 (y.1 + 1 + pagesOf S.n)) (.slice (some ⟨g, 0, none⟩) 256 c) 118 rfl hvsX hbk rfl rfl (by omega) (by simp; omega) ?_; intro A4 c4 w4 hown4 hg4 hl4; have HO4 := Lib.hid (And.intro hown4 (And.intro hg4 hl4)); clear hown4 hg4 hl4)
          obtain ⟨q1, q2, q3⟩ := HPU.out w4 A4 c4 HO4.out.1 HO4.out.2.1 (by
            rcases HO4.out.2.2 with a | a
            · exact .inl a
            · exact .inr ⟨_, a, by simp; omega⟩)
          have hb4 : Below w.heap.size w w4 := (HB02.out.trans (hX2.mono hs2)).grown HO4.out.2.1 (by have := hX2.size; omega) HOV.out
          have HRE := Lib.hid (And.intro HUP.out (And.intro q1 hb4))
          clear q1 q2 q3 hb4 hX2 hvsX hbk
          go_roundw
          case rel => exact ⟨k + 1, l ++ [y], by omega, by go_num, Lib.hid ⟨HRE.out.1, HAT ▸ HRE.out.2.1, HRE.out.2.2⟩⟩
          case measure => simp [intOf]; omega
      · obtain rfl : k = count := by omega
        obtain ⟨hup, hrow, hb⟩ := hM.out
        have HSO2 := Lib.hid (HSO.out _ hup)
        obtain ⟨A0, c0, rfl, hAc, him⟩ := hrow.imgs (by decide)
        obtain ⟨l0, l1, _, _⟩ := LC.out wr hb
        have hll := (slotsUp_mem k hup).1
        have hlh : (atHomes (pagesOf S.n) l).length = k := by rw [← hll]; simp [atHomes]
        have h256 : ∀ y ∈ atHomes (pagesOf S.n) l, y.2.length = 256 := fun y hy => by
          obtain ⟨z, hz, rfl⟩ := List.mem_map.1 hy
          obtain ⟨i, hi, e⟩ := List.getElem_of_mem hz
          obtain ⟨_, _, _, e4⟩ := slotIn_some ((slotsUp_mem k hup).2 i z (by rw [List.getElem?_eq_getElem hi, e]))
          rw [e4]
          exact (hok.lastBytes _).1
        have HPT := Lib.hid (put_any api (c := c0) (HD.out wr hb) him h256 (by omega) (by omega))
        have HTB := Lib.hid (Touch.of_below (F := F) hb)
        have HPH := Lib.hid (show putS S (atHomes (pagesOf S.n) l) = homesS S l from putS_homes l S)
        clear hup hrow hb hM him h256 hll hlh
        go_wp2_with fail
        refine HPT.out.mono ?_
        rw [HPH.out]
        rintro e w2 ⟨rfl, hW⟩
        have hF := Lib.hid (WroteD.join HTB.out (fun k hk => .inl hk) hW)
        clear hW
        go_wp2
        go_ret
        rw [HSO2.out]
        exact ⟨rfl, hF.out⟩

/-- What Open leaves: the disk, and a log apart from it, if there is one. -/
def OpenedD (D : World → (Nat → Prop) → Addr → DS → Prop) (w : World) (F : Nat → Prop) (p : Addr) (r : Int × Int × DS) (e : Ending) (w' : World) : Prop :=
  (r.1 ≠ 0 ∧ e = .returned (.tuple #[.pointer none, .int .i64 r.1]) ∧ WroteD D w F p r.2.2 w') ∨
  (r.1 = 0 ∧ ∃ q F', e = .returned (.tuple #[.pointer (some ⟨q, 0, none⟩), .int .i64 0]) ∧ w.heap.size ≤ q ∧ PLog w' q p r.2.1 ∧ ¬ F' q ∧ D w' F' p r.2.2 ∧ Touch F w w' ∧ ∀ k, F' k → F k ∨ w.heap.size ≤ k)

theorem openTail_redo (S : DS) (seq : Int) (r : Option (List (Int × List Int))) : openTail S seq r = if (redoS S r).1 ≠ 0 then ((redoS S r).1, 0, (redoS S r).2) else (0, seq, (redoS S r).2) := by
  cases r with
  | none => rfl
  | some l => rfl

/-- What is left behind redo, of a log that was laid ahead of it. -/
theorem opened_end (api : DiskApi D) {w1 w2 : World} {R : Int × DS} (h : D w F p S) (hX : Below w.heap.size w w1) (hq : PLog w1 q p seq) (hqw : w.heap.size ≤ q) (hW : WroteD D w1 F p R.2 w2) :
    WroteD D w F p R.2 w2 ∧ ∃ F', PLog w2 q p seq ∧ ¬ F' q ∧ D w2 F' p R.2 ∧ Touch F w w2 ∧ ∀ k, F' k → F k ∨ w.heap.size ≤ k := by
  have hlt := api.lt _ _ _ _ h
  have hqF : ¬ F q := fun hf => by have := hlt q hf; omega
  refine ⟨WroteD.join (Touch.of_below hX) (fun k hk => .inl hk) hW, ?_⟩
  obtain ⟨F', j1, j2, j3⟩ := hW
  have hql := hq.cells.2.2.2
  refine ⟨F', hq.keep (j2.block q hql hqF), fun hf => ?_, j1, (Touch.of_below hX).join (fun k hk => .inl hk) j2, new_join hX.size (fun k hk => .inl hk) j3⟩
  rcases j3 q hf with a | a
  · exact hqF a
  · omega

set_option maxHeartbeats 3200000 in
theorem open_any (api : DiskApi D) (h : D w F p S) (ht : TabF w F) (hw : S.writes ≤ 9223372036854700000) :
    Calls Tryz.prog 23 #[.pointer (some p)] w fun e w' => OpenedD D w F p (openS S) e w' := by
  have hok := api.ok _ _ _ _ h
  have hlt := api.lt _ _ _ _ h
  have hsz := hok.size
  have HM := Lib.hid lay_said.mark
  have HL := Lib.hid (fun w1 (hb : Below w.heap.size w w1) => WroteD.later api h hb)
  by_cases hd : S.down = true
  · have hO : openS S = (5, 0, S) := by unfold openS; rw [if_pos hd]
    have hre : S.readE 0 = 5 := by simp [DS.readE, hd]
    have HRD := Lib.hid (api.read 0 w F p S h)
    rw [hre] at HRD
    rw [hO]
    clear hO hre h hok hd ht
    go_enter Tryz.func23, Tryz.ntmps23
    go_wp2_with (go_at_call 62; refine (HM.out _).mono ?_; rintro e w3 ⟨rfl, rfl⟩)
    refine HRD.out.mono ?_
    rintro e w1 ⟨A, n, c, rfl, _, _, hb⟩
    have HW := Lib.hid (HL.out w1 hb)
    clear hb
    go_wp2
    go_ret2
    exact .inl ⟨by show ¬ (5 : Int) = 0; decide, rfl, HW.out⟩
  have hd' : S.down = false := by simpa using hd
  have hre : S.readE 0 = 0 := by
    unfold DS.readE
    rw [if_neg (by simp [hd']), if_pos (show S.has _ from ⟨by omega, by omega⟩)]
  have HRD := Lib.hid (api.readAt 0 w F p S h hre)
  rw [show (0 : Int).toNat = 0 from rfl] at HRD
  have HT := Lib.hid (fun w1 (hb : Below w.heap.size w w1) => ht.below hb)
  have HUP := Lib.hid unpack_said
  by_cases he : (unpackR (S.last 0)).2.2.2 = 0
  · have hcnt := unpack_count he
    have hpg := unpack_page he
    obtain ⟨count, hcount⟩ := Int.eq_ofNat_of_zero_le hpg.1
    have HE := Lib.hid he
    have HC := Lib.hid hcount
    have HR := Lib.hid (fun (w1 : World) (hb : Below w.heap.size w w1) (q : Nat) (hq : PLog w1 q p (unpackR (S.last 0)).2.1) => redo_any api (api.below h hb) hq (ht.below hb) hd' count (by omega) hw)
    have HO := Lib.hid (show openS S = openTail S (unpackR (S.last 0)).2.1 (slotsOf S.n S.last count (unpackR (S.last 0)).2.1) by rw [openS_up hd' he, hcount])
    have HD0 := Lib.hid h
    clear hd hd' hcnt hpg hcount he hre h hok ht
    generalize hseq : (unpackR (S.last 0)).2.1 = seq at HR HO ⊢
    have HSQ := Lib.hid hseq
    clear hseq
    go_enter Tryz.func23, Tryz.ntmps23
    go_wp2_with (go_at_call 62; refine (HM.out _).mono ?_; rintro e w3 ⟨rfl, rfl⟩)
    refine HRD.out.mono ?_
    rintro e w1 ⟨g, c, rfl, hc, hg, hr1, hb1⟩
    have ht1 := HT.out w1 hb1
    go_wp2_with fail
    refine (HUP.out (some ⟨g, 0, none⟩) 256 c _ _ w1 hr1 (Nat.le_refl _) hc (by omega) ht1.tab ht1.lt).mono ?_
    rw [HE.out, HC.out, HSQ.out]
    rintro e w2 ⟨A2, n2, c2, rfl, _, _, hb2⟩
    have hb02 := hb1.trans (hb2.mono hb1.size)
    have hs02 := hb02.size
    have hX : Below w.heap.size w (w2.alloc (.cells #[.pointer (some p), .int .i64 seq] 125)) := hb02.alloc hs02 _
    have hq : PLog (w2.alloc (.cells #[.pointer (some p), .int .i64 seq] 125)) w2.heap.size p seq := heap_alloc_new _ _
    have HRX := Lib.hid (HR.out _ hX _ hq)
    have HX := Lib.hid (And.intro hX hq)
    clear hr1 hb1 hb2 hb02 hX hq ht1
    go_wp2_with fail
    refine HRX.out.mono ?_
    rintro e w4 ⟨rfl, hW⟩
    have HEND := Lib.hid (opened_end (R := redoS S (slotsOf S.n S.last count seq)) api HD0.out HX.out.1 HX.out.2 hs02 hW)
    have HO2 := Lib.hid (HO.out.trans (openTail_redo S seq (slotsOf S.n S.last count seq)))
    clear hW HRX HR HO
    generalize redoS S (slotsOf S.n S.last count seq) = R at HEND HO2 ⊢
    by_cases h0 : R.1 = 0
    · have H0 := Lib.hid h0
      have HO3 := Lib.hid (HO2.out.trans (if_neg (fun h => h h0)))
      rw [h0]
      clear h0 HO2
      go_wp2
      go_ret2
      rw [HO3.out]
      obtain ⟨_, F', q1⟩ := HEND.out
      exact .inr ⟨rfl, _, F', rfl, hs02, q1⟩
    · have H0 := Lib.hid h0
      have kne : (R.1 != 0) = true := by simpa using h0
      have HO3 := Lib.hid (HO2.out.trans (if_pos h0))
      clear h0 HO2
      go_wp2
      go_ret2
      rw [HO3.out]
      exact .inl ⟨H0.out, rfl, HEND.out.1⟩
  · have he4 : (unpackR (S.last 0)).2.2.2 = 4 := by
      rcases unpack_err (S.last 0) with e | e
      · exact absurd e he
      · exact e
    have HO := Lib.hid (show openS S = (4, 0, S) by unfold openS; rw [if_neg hd, if_pos he])
    have HE := Lib.hid he4
    clear he he4 hd hd' h hre ht hok
    go_enter Tryz.func23, Tryz.ntmps23
    go_wp2_with (go_at_call 62; refine (HM.out _).mono ?_; rintro e w3 ⟨rfl, rfl⟩)
    refine HRD.out.mono ?_
    rintro e w1 ⟨g, c, rfl, hc, hg, hr1, hb1⟩
    have ht1 := HT.out w1 hb1
    go_wp2_with fail
    refine (HUP.out (some ⟨g, 0, none⟩) 256 c _ _ w1 hr1 (Nat.le_refl _) hc (by omega) ht1.tab ht1.lt).mono ?_
    rw [HE.out]
    rintro e w2 ⟨A2, n2, c2, rfl, _, _, hb2⟩
    have HW := Lib.hid (HL.out w2 (hb1.trans (hb2.mono hb1.size)))
    clear hr1 hb1 hb2 ht1
    go_wp2
    go_ret2
    rw [HO.out]
    exact .inl ⟨by show ¬ (4 : Int) = 0; decide, rfl, HW.out⟩
end

end Go.Proofs.YtfbljmkjiaklfaaGreatDoor

/-
  Contract of the plain log's test of images, over the plain disk. Condition: at most 65,536 images.
-/
namespace Go.Proofs.YtfbljmkjiaklfaaGreatDoor
open Go.RowKit
set_option maxRecDepth 100000
set_option linter.unusedVariables false

theorem belowN {B : Nat} {w w' : World} (h : Below B w w') : ∀ n, Below B w (w'.drewN n) := fun n => ⟨h.os, h.tape, h.output, h.size, h.block⟩

section
variable {w : World} {G : Nat → Prop} {x : Addr} {S : DS} {q : Nat} {seq : Int}

end

end Go.Proofs.YtfbljmkjiaklfaaGreatDoor

/-
  Maps by whole numbers, as a function from numbers to what stands there, for any values: made, looked up, stored into, cleared; what keeps one. Condition of a store: fewer entries than 2^63 - 1.
-/
namespace Go.Proofs.YtfbljmkjiaklfaaGreatDoor
open Go.RowKit Go.Maps Go.ChangeMaps Go.MapKept
set_option maxRecDepth 100000
set_option linter.unusedVariables false

/-- An element as itself. -/
def asItself (v : Value) : Option (DataW Value × List MemPlace) := some (.held v, [])
theorem int_key : Keyed Tryz.prog 3 := int_keyed Tryz.underlying3
theorem key_of {i : Int} (h : -9223372036854775808 ≤ i ∧ i ≤ 9223372036854775807) : keyOf Tryz.prog 3 (.int .i64 i) = some (.int .i64 i) :=
  keyOf_int_mk Tryz.underlying3 (WalkArith.wf_i64 (by omega))

/-- Block b of w is a map of at most n entries: at i stands f i. -/
def IMap (w : World) (b n : Nat) (f : Int → Option Value) : Prop :=
  ∃ D : DataW Value, w.ownsMap Tryz.prog 3 asItself b n D ∧ ∀ i : Int, Maps.has D (.int .i64 i) = (f i).isSome ∧ ∀ v z, f i = some v → D.atKey (.int .i64 i) z = .held v

section
variable {w w' : World} {b n : Nat} {f : Int → Option Value}
theorem IMap.made (w : World) : IMap (w.alloc (.map #[] 0)) w.heap.size 0 (fun _ => none) :=
  ⟨_, World.ownsMap_made w _ _ _, fun i => ⟨rfl, fun v z h => by cases h⟩⟩
theorem IMap.lt (h : IMap w b n f) : b < w.heap.size := by
  obtain ⟨D, h1, _⟩ := h
  exact h1.lt
theorem IMap.block (h : IMap w b n f) : ∃ es c, w.heap[b]? = some (.map es c) := by
  obtain ⟨D, ⟨es, c, hb, _⟩, _⟩ := h
  exact ⟨es, c, hb⟩
theorem IMap.of_block (h : IMap w b n f) (e : w'.heap[b]? = w.heap[b]?) : IMap w' b n f := by
  obtain ⟨D, ⟨es, c, hb, rest⟩, hf⟩ := h
  exact ⟨D, ⟨es, c, e.trans hb, rest⟩, hf⟩
theorem IMap.mono (h : IMap w b n f) {m : Nat} (hm : n ≤ m) : IMap w b m f := by
  obtain ⟨D, h1, hf⟩ := h
  exact ⟨D, h1.mono hm, hf⟩
theorem IMap.congr (h : IMap w b n f) {g : Int → Option Value} (e : ∀ i, f i = g i) : IMap w b n g := by
  obtain ⟨D, h1, hf⟩ := h
  exact ⟨D, h1, fun i => by rw [← e i]; exact hf i⟩
theorem atKey_not {D : DataW Value} {k : Lit} (h : Maps.has D k = false) (z : DataW Value) : D.atKey k z = z := Maps.atKey_of_not_has h z

theorem IMap.look (h : IMap w b n f) {t e : TypeId} (ht : Tryz.prog.underlying t = some (.map 3 e)) {z : Value} (hz : (zeroValue e).run Tryz.prog w = .ok z w) {i : Int} (hi : -9223372036854775808 ≤ i ∧ i ≤ 9223372036854775807) :
    (Instr.lookup t (.map (some b)) (.int .i64 i) true).run Tryz.prog w = .ok (.tuple #[(f i).getD z, .bool (f i).isSome]) w := by
  obtain ⟨D, h1, hf⟩ := h
  obtain ⟨v, ps, hrun, hv⟩ := h1.look_ok int_key ht hz (show asItself z = some (.held z, []) from rfl) (key_of hi)
  obtain ⟨hh, ha⟩ := hf i
  rw [hrun, hh]
  have hv' : DataW.held v = D.atKey (.int .i64 i) (.held z) := by
    have := Option.some.inj hv
    exact congrArg Prod.fst this
  rcases hfi : f i with _ | u
  · rw [hfi] at hh
    rw [atKey_not hh] at hv'
    cases hv'; rfl
  · rw [ha u _ hfi] at hv'
    cases hv'; rfl
theorem IMap.get (h : IMap w b n f) {t e : TypeId} (ht : Tryz.prog.underlying t = some (.map 3 e)) {z : Value} (hz : (zeroValue e).run Tryz.prog w = .ok z w) {i : Int} (hi : -9223372036854775808 ≤ i ∧ i ≤ 9223372036854775807) {u : Value} (hu : f i = some u) :
    (Instr.lookup t (.map (some b)) (.int .i64 i) false).run Tryz.prog w = .ok u w := by
  obtain ⟨D, h1, hf⟩ := h
  obtain ⟨v, ps, hrun, hv⟩ := h1.lookup int_key ht hz (show asItself z = some (.held z, []) from rfl) (key_of hi)
  obtain ⟨hh, ha⟩ := hf i
  rw [hrun]
  have hv' : DataW.held v = D.atKey (.int .i64 i) (.held z) := by
    have := Option.some.inj hv
    exact congrArg Prod.fst this
  rw [ha u _ hu] at hv'
  cases hv'; rfl
theorem IMap.store (h : IMap w b n f) {t e : TypeId} (ht : Tryz.prog.underlying t = some (.map 3 e)) (hn : n < maxLen) {i : Int} (hi : -9223372036854775808 ≤ i ∧ i ≤ 9223372036854775807) (u : Value) :
    ∃ w', (Instr.mapUpdate t (.map (some b)) (.int .i64 i) u).run Tryz.prog w = .ok () w' ∧ IMap w' b (n + 1) (fun j => if j = i then some u else f j) ∧ w.grownBy w' (some b) := by
  obtain ⟨D, h1, hf⟩ := h
  obtain ⟨w', hrun, h2, h3⟩ := h1.update int_key ht hn (key_of hi) (show asItself u = some (.held u, []) from rfl)
  refine ⟨w', hrun, ⟨_, h2, fun j => ?_⟩, h3⟩
  by_cases e : j = i
  · subst e
    show Maps.has _ _ = (if j = j then some u else f j).isSome ∧ ∀ v z, (if j = j then some u else f j) = some v → _
    rw [if_pos rfl]
    refine ⟨has_put_same h1.isMap (by trivial) _, fun v z hv => ?_⟩
    cases hv
    exact atKey_put_same h1.isMap (by trivial) _ _
  · show Maps.has _ _ = (if j = i then some u else f j).isSome ∧ ∀ v z, (if j = i then some u else f j) = some v → _
    rw [if_neg e]
    have hne : (Lit.int IntKind.i64 j) ≠ Lit.int IntKind.i64 i := fun h => e (by injection h)
    rw [has_put_other hne]
    refine ⟨(hf j).1, fun v z hv => ?_⟩
    rw [atKey_put_other hne]
    exact (hf j).2 v z hv
theorem IMap.clear_ (h : IMap w b n f) {t e : TypeId} (ht : Tryz.prog.underlying t = some (.map 3 e)) (ty : TypeId) :
    ∃ w', (Builtin.clear_ #[t] ty #[.map (some b)]).run Tryz.prog w = .ok (.tuple #[]) w' ∧ IMap w' b 0 (fun _ => none) ∧ w.grownBy w' (some b) := by
  obtain ⟨D, ⟨es, c, hb, _⟩, _⟩ := h
  refine ⟨ChangeMaps.setBlock w b (.map #[] c), ?_, ⟨.map [], ⟨#[], c, heap_setBlock_same hb _, ⟨by simp, stamped_empty c, by simp⟩, Nat.le_refl _, rfl⟩, fun i => ⟨rfl, fun v z h => by cases h⟩⟩, ⟨rfl, rfl, rfl, by simp [ChangeMaps.setBlock], fun i _ hi => heap_setBlock_other hb _ (fun e => hi (by rw [e]))⟩⟩
  simp [Builtin.clear_, run_underlying ht, MapKept.run_getObj_map hb, MapKept.run_setObj_map _ hb, Result.andThen]
  rfl
end

end Go.Proofs.YtfbljmkjiaklfaaGreatDoor

/-
  How the program's disk lies in memory, and what its parts keep. Plain facts; no condition beyond what each says.
-/
namespace Go.Proofs.YtfbljmkjiaklfaaGreatDoor
open Go.RowKit
set_option maxRecDepth 100000
set_option linter.unusedVariables false

/-- A sector's bytes behind a value: 256 of a block of F's own. -/
def Cont (w : World) (F : Nat → Prop) (v : Value) (l : List Int) : Prop :=
  ∃ g c cur, v = .slice (some ⟨g, 0, none⟩) 256 c ∧ 256 ≤ c ∧ F g ∧ w.heap[g]? = some (.cells cur 5 (0, 0)) ∧ ∀ j, j < 256 → cur[j]? = some (.int .u8 (l[j]?.getD 0))
theorem Cont.keep {w w' : World} {F F' : Nat → Prop} {v : Value} {l : List Int} (h : Cont w F v l) (hF : ∀ k, F k → k < w.heap.size → F' k) (hk : ∀ g cur, F g → w.heap[g]? = some (.cells cur 5 (0, 0)) → w'.heap[g]? = w.heap[g]?) : Cont w' F' v l := by
  obtain ⟨g, c, cur, e, hc, hg, hb, hcell⟩ := h
  exact ⟨g, c, cur, e, hc, hF g hg (Array.getElem?_eq_some_iff.1 hb).1, (hk g cur hg hb).trans hb, hcell⟩
theorem Cont.rb {w : World} {F : Nat → Prop} {v : Value} {l : List Int} (h : Cont w F v l) (hl : l.length = 256 ∧ AllBytes l) : ∃ g c, v = .slice (some ⟨g, 0, none⟩) 256 c ∧ 256 ≤ c ∧ RB w w.heap.size (some ⟨g, 0, none⟩) 256 l := by
  obtain ⟨g, c, cur, e, hc, hg, hb, hcell⟩ := h
  refine ⟨g, c, e, hc, hl.1, hl.2, fun _ => ⟨g, 0, rfl, (Array.getElem?_eq_some_iff.1 hb).1, fun j hj => ?_⟩⟩
  rw [Nat.zero_add, cell_of_row w g j cur 5 (0, 0) hb]
  exact hcell j hj
theorem Cont.of_own {w : World} {F : Nat → Prop} {v : Value} {l : List Int} {base : Nat} (h : w.ownsRow base 5 1 v 256 (l.map (Value.int .u8))) (hF : ∀ k, base ≤ k → F k) : Cont w F v l := by
  have hlen : l.length = 256 := by simpa using h.1
  rcases h.2 with ⟨_, h0⟩ | ⟨g, cap, cur, hv, hbg, hg, hc, _, _, htake⟩
  · cases h0
  · refine ⟨g, cap, cur, hv, hc, hF g hbg, hg, fun j hj => ?_⟩
    have e1 : (l.map (Value.int .u8))[j]? = some (.int .u8 (l[j]?.getD 0)) := by simp [List.getElem?_eq_getElem (show j < l.length by omega)]
    rw [← e1, ← htake, List.getElem?_take, if_pos (by omega)]
    simp

/-- What a sector that may not be there has. -/
def CO (w : World) (F : Nat → Prop) (o : Option Value) (l : List Int) : Prop := match o with | none => l = nought | some v => Cont w F v l

def diskRow (left : Int) (down : Bool) (n sb fb : Nat) (pv : Value) (wr : Nat) : Nat → Value
  | 0 => .int .i64 left
  | 1 => .bool down
  | 2 => .int .i64 n
  | 3 => .map (some sb)
  | 4 => .map (some fb)
  | 5 => pv
  | _ => .int .i64 wr

/-- The disk's maps and list. -/
structure Rest (w : World) (F : Nat → Prop) (sb fb : Nat) (pv : Value) (n : Nat) (safe last : Nat → List Int) (pl : List Nat) (sN fN : Nat) (sf ff : Int → Option Value) : Prop where
  safeM : IMap w sb sN sf
  freshM : IMap w fb fN ff
  ne : sb ≠ fb
  pend : w.ownsRow 0 3 1 pv pl.length ((pl.map Int.ofNat).map (Value.int .i64))
  safeC : ∀ i : Nat, i < n → CO w F (sf i) (safe i)
  freshC : ∀ i : Nat, i < n → ∀ v, ff i = some v → Cont w F v (last i)
  Fs : F sb
  Ff : F fb
  Fp : ∀ g, pv.ownBlock = some g → F g

section
variable {w w' : World} {F F' : Nat → Prop} {b sb fb : Nat} {pv : Value} {n : Nat} {safe last : Nat → List Int} {pl : List Nat} {sN fN : Nat} {sf ff : Int → Option Value}

theorem own_row {base e size m : Nat} {v : Value} {xs : List Value} (h : w.ownsRow base e size v m xs) : ∀ g, v.ownBlock = some g → ∃ cur, w.heap[g]? = some (.cells cur e (0, 0)) := by
  intro g hg
  rcases h.2 with ⟨rfl, _⟩ | ⟨g', cap, cur, rfl, _, hb, _⟩
  · simp [Value.ownBlock] at hg
  · simp [Value.ownBlock] at hg
    subst hg
    exact ⟨cur, hb⟩
theorem own_keep {base e size m : Nat} {v : Value} {xs : List Value} (h : w.ownsRow base e size v m xs) (hk : ∀ g, v.ownBlock = some g → w'.heap[g]? = w.heap[g]?) : w'.ownsRow base e size v m xs := by
  rcases h.2 with h' | ⟨g, cap, cur, rfl, hg, hb, h3⟩
  · exact ⟨h.1, .inl h'⟩
  · exact ⟨h.1, .inr ⟨g, cap, cur, rfl, hg, (hk g (by simp [Value.ownBlock])).trans hb, h3⟩⟩
theorem CO.keep {o : Option Value} {l : List Int} (h : CO w F o l) (hF : ∀ k, F k → k < w.heap.size → F' k) (hk : ∀ g cur, F g → w.heap[g]? = some (.cells cur 5 (0, 0)) → w'.heap[g]? = w.heap[g]?) : CO w' F' o l := by
  rcases o with _ | v
  · exact h
  · exact Cont.keep h hF hk

/-- Nothing of it was written. -/
theorem Rest.keep (h : Rest w F sb fb pv n safe last pl sN fN sf ff) (hF : ∀ k, F k → k < w.heap.size → F' k) (hk : ∀ k, F k → k < w.heap.size → (∀ c, w.heap[k]? ≠ some (.cells c 116 (0, 0))) → w'.heap[k]? = w.heap[k]?) : Rest w' F' sb fb pv n safe last pl sN fN sf ff := by
  obtain ⟨es1, c1, hb1⟩ := h.safeM.block
  obtain ⟨es2, c2, hb2⟩ := h.freshM.block
  have hc : ∀ g cur, F g → w.heap[g]? = some (.cells cur 5 (0, 0)) → w'.heap[g]? = w.heap[g]? := fun g cur hg hb => hk g hg (Array.getElem?_eq_some_iff.1 hb).1 (fun c e => by rw [hb] at e; simp at e)
  refine ⟨h.safeM.of_block (hk _ h.Fs h.safeM.lt (fun c e => by rw [hb1] at e; cases e)), h.freshM.of_block (hk _ h.Ff h.freshM.lt (fun c e => by rw [hb2] at e; cases e)), h.ne, own_keep h.pend (fun g hg => ?_), fun i hi => (h.safeC i hi).keep hF hc, fun i hi v hv => (h.freshC i hi v hv).keep hF hc, hF _ h.Fs h.safeM.lt, hF _ h.Ff h.freshM.lt, fun g hg => ?_⟩
  · obtain ⟨cur, hb⟩ := own_row h.pend g hg
    exact hk g (h.Fp g hg) (Array.getElem?_eq_some_iff.1 hb).1 (fun c e => by rw [hb] at e; simp at e)
  · obtain ⟨cur, hb⟩ := own_row h.pend g hg
    exact hF _ (h.Fp g hg) (Array.getElem?_eq_some_iff.1 hb).1

/-- One number more is pending. -/
theorem Rest.pended (h : Rest w F sb fb pv n safe last pl sN fN sf ff) {v' : Value} {i : Nat} (hg : w.grownBy w' pv.ownBlock) (hp : w'.ownsRow 0 3 1 v' (pl ++ [i]).length (((pl ++ [i]).map Int.ofNat).map (Value.int .i64))) (hv : ∀ g, v'.ownBlock = some g → F g) : Rest w' F sb fb v' n safe last (pl ++ [i]) sN fN sf ff := by
  obtain ⟨es1, c1, hb1⟩ := h.safeM.block
  obtain ⟨es2, c2, hb2⟩ := h.freshM.block
  have hother : ∀ k, k < w.heap.size → (∀ cur, w.heap[k]? ≠ some (.cells cur 3 (0, 0))) → w'.heap[k]? = w.heap[k]? := fun k hk hne => hg.block k hk (fun e => by
    obtain ⟨cur, hb⟩ := own_row h.pend k e.symm
    exact hne cur hb)
  have hc : ∀ g cur, F g → w.heap[g]? = some (.cells cur 5 (0, 0)) → w'.heap[g]? = w.heap[g]? := fun g cur _ hb => hother g (Array.getElem?_eq_some_iff.1 hb).1 (fun c e => by rw [hb] at e; simp at e)
  exact ⟨h.safeM.of_block (hother _ h.safeM.lt (fun c e => by rw [hb1] at e; cases e)), h.freshM.of_block (hother _ h.freshM.lt (fun c e => by rw [hb2] at e; cases e)), h.ne, hp, fun i hi => (h.safeC i hi).keep (fun _ h _ => h) hc, fun i hi v hv => (h.freshC i hi v hv).keep (fun _ h _ => h) hc, h.Fs, h.Ff, hv⟩

theorem map_kept {x : Nat} (hx : ∃ es c, w.heap[x]? = some (.map es c)) (hg : w.grownBy w' (some x)) : (∀ k, k < w.heap.size → k ≠ x → w'.heap[k]? = w.heap[k]?) ∧ (∀ g cur, F g → w.heap[g]? = some (.cells cur 5 (0, 0)) → w'.heap[g]? = w.heap[g]?) ∧ (∀ (g : Nat) (cur : Array Value) (e : TypeId), w.heap[g]? = some (.cells cur e (0, 0)) → w'.heap[g]? = w.heap[g]?) := by
  obtain ⟨es, c, hb⟩ := hx
  have h1 : ∀ k, k < w.heap.size → k ≠ x → w'.heap[k]? = w.heap[k]? := fun k hk hne => hg.block k hk (fun e => hne (by injection e))
  have h3 : ∀ (g : Nat) (cur : Array Value) (e : TypeId), w.heap[g]? = some (.cells cur e (0, 0)) → w'.heap[g]? = w.heap[g]? := fun g cur e hg' => h1 g (Array.getElem?_eq_some_iff.1 hg').1 (fun e' => by rw [e', hb] at hg'; cases hg')
  exact ⟨h1, fun g cur _ hg' => h3 g cur _ hg', h3⟩

/-- The map of what was written last has turned. -/
theorem Rest.freshed (h : Rest w F sb fb pv n safe last pl sN fN sf ff) (hg : w.grownBy w' (some fb)) {fN' : Nat} {ff' : Int → Option Value} (hm : IMap w' fb fN' ff') {last' : Nat → List Int} (hc' : ∀ i : Nat, i < n → ∀ v, ff' i = some v → (ff i = some v ∧ last' i = last i) ∨ Cont w F v (last' i)) : Rest w' F sb fb pv n safe last' pl sN fN' sf ff' := by
  obtain ⟨h1, hc, h3⟩ := map_kept (F := F) h.freshM.block hg
  refine ⟨h.safeM.of_block (h1 _ h.safeM.lt h.ne), hm, h.ne, own_keep h.pend (fun g hg => ?_), fun i hi => (h.safeC i hi).keep (fun _ h _ => h) hc, fun i hi v hv => ?_, h.Fs, h.Ff, h.Fp⟩
  · obtain ⟨cur, hb⟩ := own_row h.pend g hg
    exact h3 g cur _ hb
  · rcases hc' i hi v hv with ⟨e1, e2⟩ | e
    · rw [e2]
      exact (h.freshC i hi v e1).keep (fun _ h _ => h) hc
    · exact e.keep (fun _ h _ => h) hc

/-- The map of what is safe has turned. -/
theorem Rest.safed (h : Rest w F sb fb pv n safe last pl sN fN sf ff) (hg : w.grownBy w' (some sb)) {sN' : Nat} {sf' : Int → Option Value} (hm : IMap w' sb sN' sf') {safe' : Nat → List Int} (hc' : ∀ i : Nat, i < n → (sf' i = sf i ∧ safe' i = safe i) ∨ CO w F (sf' i) (safe' i)) : Rest w' F sb fb pv n safe' last pl sN' fN sf' ff := by
  obtain ⟨h1, hc, h3⟩ := map_kept (F := F) h.safeM.block hg
  refine ⟨hm, h.freshM.of_block (h1 _ h.freshM.lt (Ne.symm h.ne)), h.ne, own_keep h.pend (fun g hg => ?_), fun i hi => ?_, fun i hi v hv => (h.freshC i hi v hv).keep (fun _ h _ => h) hc, h.Fs, h.Ff, h.Fp⟩
  · obtain ⟨cur, hb⟩ := own_row h.pend g hg
    exact h3 g cur _ hb
  · rcases hc' i hi with ⟨e1, e2⟩ | e
    · rw [e1, e2]
      exact (h.safeC i hi).keep (fun _ h _ => h) hc
    · exact e.keep (fun _ h _ => h) hc

/-- The list is empty again. -/
theorem Rest.emptied (h : Rest w F sb fb pv n safe last pl sN fN sf ff) {v' : Value} (hv : v' = .slice none 0 0 ∧ pv = .slice none 0 0 ∨ ∃ A m c, pv = .slice (some A) m c ∧ v' = .slice (some A) 0 c) : Rest w F sb fb v' n safe last [] sN fN sf ff := by
  rcases hv with ⟨rfl, rfl⟩ | ⟨A, m, c, rfl, rfl⟩
  · exact { h with pend := ⟨rfl, .inl ⟨rfl, rfl⟩⟩ }
  · have hp := h.pend
    rcases hp.2 with ⟨e, _⟩ | ⟨g, cap, cur, e, hb, hg, hc, hm, hs, _⟩
    · cases e
    · cases e
      exact { h with pend := ⟨rfl, .inr ⟨g, c, cur, rfl, hb, hg, Nat.zero_le _, hm, hs, rfl⟩⟩, Fp := fun g' hg' => h.Fp g' (by simpa [Value.ownBlock] using hg') }
end

/-- How many writes the fuse lets through. -/
def ArmIs (left : Int) (arm : Option Nat) : Prop := (-9223372036854775808 ≤ left ∧ left ≤ 9223372036854775807) ∧ (left < 0 ∧ arm = none ∨ ∃ k : Nat, left = k ∧ arm = some k)

/-- In w the program's disk S lies at p, in the blocks of F. -/
def DAt (w : World) (F : Nat → Prop) (p : Addr) (S : DS) : Prop :=
  ∃ b sb fb left pv sN fN sf ff, p = ⟨b, 0, none⟩ ∧ w.rowIs b 116 7 (diskRow left S.down S.n sb fb pv S.writes) ∧ Rest w F sb fb pv S.n S.safe S.last S.pend sN fN sf ff ∧ ArmIs left S.arm ∧ S.Ok ∧ (∀ i : Nat, i < S.n → ((ff i).isSome = true ↔ i ∈ S.pend)) ∧ (sN + fN ≤ S.writes ∧ S.pend.length ≤ fN ∧ S.writes ≤ 9223372036854775807) ∧ F b ∧ ∀ k, F k → k < w.heap.size

theorem lt_of_same {w w' : World} {k : Nat} (hlt : k < w.heap.size) (e : w'.heap[k]? = w.heap[k]?) : k < w'.heap.size := by
  rcases Nat.lt_or_ge k w'.heap.size with h | h
  · exact h
  · rw [Array.getElem?_eq_none h, Array.getElem?_eq_getElem hlt] at e
    cases e
theorem DAt.keep {w w' : World} {F : Nat → Prop} {p : Addr} {S : DS} (h : DAt w F p S) (hk : ∀ k, F k → w'.heap[k]? = w.heap[k]?) : DAt w' F p S := by
  obtain ⟨b, sb, fb, left, pv, sN, fN, sf, ff, rfl, hrow, hrest, harm, hok, hdom, hcnt, hFb, hlt⟩ := h
  exact ⟨b, sb, fb, left, pv, sN, fN, sf, ff, rfl, hrow.of_block (hk _ hFb), hrest.keep (fun _ h _ => h) (fun k hk' _ _ => hk k hk'), harm, hok, hdom, hcnt, hFb, fun k hk' => lt_of_same (hlt k hk') (hk k hk')⟩

/-- What a disk of F has become, its new blocks with it. -/
def After (F : Nat → Prop) (w w' : World) (p : Addr) (S' : DS) : Prop := ∃ F' : Nat → Prop, DAt w' F' p S' ∧ Touch F w w' ∧ ∀ k, F' k → F k ∨ w.heap.size ≤ k

/-- The blocks of F, and all new ones. -/
def FN (F : Nat → Prop) (w : World) : Nat → Prop := fun k => F k ∨ w.heap.size ≤ k

theorem Touch.grow {F : Nat → Prop} {w0 w w' : World} {row : Option Nat} (h : Touch F w0 w) (hg : w.grownBy w' row) (hr : ∀ x, row = some x → FN F w0 x) : Touch F w0 w' :=
  ⟨hg.os.trans h.os, hg.tape.trans h.tape, hg.output.trans h.output, Nat.le_trans h.size hg.size, fun k hk hF => (hg.block k (Nat.lt_of_lt_of_le hk h.size) (fun e => by
    rcases hr k e.symm with h1 | h1
    · exact hF h1
    · omega)).trans (h.block k hk hF)⟩
theorem grown_setCell (w : World) (b o : Nat) (v : Value) : w.grownBy (w.setCell ⟨b, o, none⟩ v) (some b) :=
  ⟨rfl, rfl, rfl, by simp, fun k _ hk => Below.heap_setCell w ⟨b, o, none⟩ v k (fun e => hk (by rw [e]))⟩
theorem grown_below {w w' : World} (h : Below w.heap.size w w') : w.grownBy w' none := ⟨h.os, h.tape, h.output, h.size, fun k hk _ => h.block k hk⟩

/-- The parts joined again. -/
theorem After.mk' {w0 w : World} {F : Nat → Prop} {b sb fb : Nat} {left : Int} {pv : Value} {sN fN : Nat} {sf ff : Int → Option Value} {S : DS} (hrow : w.rowIs b 116 7 (diskRow left S.down S.n sb fb pv S.writes)) (hrest : Rest w (FN F w0) sb fb pv S.n S.safe S.last S.pend sN fN sf ff) (harm : ArmIs left S.arm) (hok : S.Ok)
    (hdom : ∀ i : Nat, i < S.n → ((ff i).isSome = true ↔ i ∈ S.pend)) (hcnt : sN + fN ≤ S.writes ∧ S.pend.length ≤ fN ∧ S.writes ≤ 9223372036854775807) (hb : FN F w0 b) (ht : Touch F w0 w) : After F w0 w ⟨b, 0, none⟩ S :=
  ⟨fun k => FN F w0 k ∧ k < w.heap.size, ⟨b, sb, fb, left, pv, sN, fN, sf, ff, rfl, hrow, hrest.keep (fun k h1 h2 => ⟨h1, h2⟩) (fun _ _ _ _ => rfl), harm, hok, hdom, hcnt, ⟨hb, hrow.lt⟩, fun k hk => hk.2⟩, ht, fun k hk => hk.1⟩

end Go.Proofs.YtfbljmkjiaklfaaGreatDoor
