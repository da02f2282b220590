/-
  The document's plain view's Changes by contract. Conditions: fewer than 2^31 keys, texts and values of at most 2^47 bytes.
-/
import Derived.Test.YteogpohhnnjbmaaGreatRefB
namespace Go.Proofs.YteogpohhnnjbmaaGreat
open Go.RowKit Go.Maps
set_option maxRecDepth 100000
set_option linter.unusedVariables false

def refPutF (a b : TL) (p : Txt × List Int) : Option (Txt × List Int) := match lookT b p.1 with
  | some v => if lookT a p.1 = some v then none else some (p.1, v)
  | none => none
def refDelF (a b : TL) (p : Txt × List Int) : Option Txt := match lookT b p.1 with
  | some _ => none
  | none => if (lookT a p.1).isSome then some p.1 else none
def refPutsN (a b d : TL) (j : Nat) : List KV := ((d.take j).filterMap (refPutF a b)).map kvOf
def refDelsN (a b d : TL) (j : Nat) : List (List Int) := ((d.take j).filterMap (refDelF a b)).map by_
/-- Two lists under way, whose elements may lie in what was there before. -/
def CRows (w : World) (base : Nat) (pv dv : Value) (P : List KV) (T : List (List Int)) : Prop :=
  ∃ Y : Nat → Prop, GRow PairR 69 2 w Y base pv P ∧ GRow TextR 45 1 w Y base dv T ∧ (∀ k, Y k → base ≤ k ∧ k < w.heap.size) ∧ ∀ r, pv.ownBlock = some r → dv.ownBlock ≠ some r
section
variable {w w' : World} {base : Nat} {pv dv : Value} {P : List KV} {T : List (List Int)} {a b d : TL}
theorem refPutsN_len (j : Nat) : (refPutsN a b d j).length ≤ j := by
  unfold refPutsN
  rw [List.length_map]
  exact Nat.le_trans (List.length_filterMap_le _ _) (by rw [List.length_take]; exact Nat.min_le_left _ _)
theorem refDelsN_len (j : Nat) : (refDelsN a b d j).length ≤ j := by
  unfold refDelsN
  rw [List.length_map]
  exact Nat.le_trans (List.length_filterMap_le _ _) (by rw [List.length_take]; exact Nat.min_le_left _ _)
theorem refPutsN_step {j : Nat} {p : Txt × List Int} (hp : d[j]? = some p) : refPutsN a b d (j + 1) = refPutsN a b d j ++ (refPutF a b p).toList.map kvOf := by
  unfold refPutsN
  rw [fm_step hp, List.map_append]
theorem refDelsN_step {j : Nat} {p : Txt × List Int} (hp : d[j]? = some p) : refDelsN a b d (j + 1) = refDelsN a b d j ++ (refDelF a b p).toList.map by_ := by
  unfold refDelsN
  rw [fm_step hp, List.map_append]
theorem CRows.start (w : World) (base : Nat) : CRows w base (.slice none 0 0) (.slice none 0 0) [] [] :=
  ⟨fun _ => False, GRow.start _ _ _, GRow.start _ _ _, fun k h => h.elim, fun r h => by simp [Value.ownBlock] at h⟩
theorem CRows.below (h : CRows w base pv dv P T) (hb : Below w.heap.size w w') : CRows w' base pv dv P T := by
  obtain ⟨Y, h1, h2, h3, h4⟩ := h
  exact ⟨Y, h1.below @pairR_kept hb, h2.below @textR_kept hb, fun k hk => ⟨(h3 k hk).1, Nat.lt_of_lt_of_le (h3 k hk).2 hb.size⟩, h4⟩
theorem CRows.to (h : CRows w base pv dv P T) : ChRows w base pv dv P T := by
  obtain ⟨Y, h1, h2, h3, h4⟩ := h
  exact ⟨Y, h1, h2, fun k hk => (h3 k hk).2, h4⟩
theorem CRows.pushP {W : World} {u1 u2 : Value} {x : KV} {b : Nat} {TT : TypeId} (h : CRows W base pv dv P T) (hW : Below W.heap.size W w) (hu1 : SV w (fun k => base ≤ k ∧ k < W.heap.size) u1 x.1) (hu2 : SV w (fun k => base ≤ k ∧ k < W.heap.size) u2 x.2) (hb : w.heap[b]? = some (.cells #[u1, u2] TT)) (hn : P.length ≤ 4294967296) (hbase : base ≤ w.heap.size) (ty : TypeId) :
    ∃ v' w', (Builtin.append_ #[39, 39] ty #[pv, .slice (some ⟨b, 0, none⟩) 1 1]).run Tryz.prog w = .ok v' w' ∧ CRows w' base v' dv (P ++ [x]) T ∧ Below base w w' := by
  obtain ⟨Y, h1, h2, h3, h4⟩ := h
  have h1' := h1.below @pairR_kept hW
  have h2' := h2.below @textR_kept hW
  obtain ⟨v', w', hrun, g1, g2, g3, _⟩ := h1'.append_pair (hu1.far fun k hk => h3 k hk) (hu2.far fun k hk => h3 k hk) hb hn hbase ty
  refine ⟨v', w', hrun, ⟨_, g1, h2'.keep @textR_kept g2.size (fun k hk hy hh => ?_) (fun k hk hy => g2.block k hk fun e => hy (h1.own k e.symm)) (fun r hr => ⟨g2.block r (h2'.at_ r hr).2 (fun e => h4 r e.symm hr), .inl (h2.own r hr)⟩), fun k hk => ?_, fun r hr hd => ?_⟩, ?_⟩
  · rcases hh with a | a
    · exact hy a
    · rcases g3 with q | q
      · rw [q] at a; exact hy (h1.own k a)
      · rw [q] at a; injection a with a; omega
  · rcases hk with a | a
    · exact ⟨(h3 k a).1, Nat.lt_of_lt_of_le (h3 k a).2 (Nat.le_trans hW.size g2.size)⟩
    · exact g1.at_ k a
  · rcases g3 with q | q
    · rw [q] at hr; exact h4 r hr hd
    · rw [q] at hr
      injection hr with hr
      have := (h2'.at_ r hd).2
      omega
  · exact (Below.refl base w).grown g2 hbase (fun k hk => (h1.at_ k hk).1)
theorem CRows.pushT {W : World} {u1 : Value} {x : List Int} {b : Nat} {TT : TypeId} (h : CRows W base pv dv P T) (hW : Below W.heap.size W w) (hu1 : SV w (fun k => base ≤ k ∧ k < W.heap.size) u1 x) (hb : w.heap[b]? = some (.cells #[u1] TT)) (hn : T.length ≤ 4294967296) (hbase : base ≤ w.heap.size) (ty : TypeId) :
    ∃ v' w', (Builtin.append_ #[56, 56] ty #[dv, .slice (some ⟨b, 0, none⟩) 1 1]).run Tryz.prog w = .ok v' w' ∧ CRows w' base pv v' P (T ++ [x]) ∧ Below base w w' := by
  obtain ⟨Y, h1, h2, h3, h4⟩ := h
  have h1' := h1.below @pairR_kept hW
  have h2' := h2.below @textR_kept hW
  obtain ⟨v', w', hrun, g1, g2, g3, _⟩ := h2'.append_text (hu1.far fun k hk => h3 k hk) hb hn hbase ty
  refine ⟨v', w', hrun, ⟨_, h1'.keep @pairR_kept g2.size (fun k hk hy hh => ?_) (fun k hk hy => g2.block k hk fun e => hy (h2.own k e.symm)) (fun r hr => ⟨g2.block r (h1'.at_ r hr).2 (fun e => h4 r hr e.symm), .inl (h1.own r hr)⟩), g1, fun k hk => ?_, fun r hr hd => ?_⟩, ?_⟩
  · rcases hh with a | a
    · exact hy a
    · rcases g3 with q | q
      · rw [q] at a; exact hy (h2.own k a)
      · rw [q] at a; injection a with a; omega
  · rcases hk with a | a
    · exact ⟨(h3 k a).1, Nat.lt_of_lt_of_le (h3 k a).2 (Nat.le_trans hW.size g2.size)⟩
    · exact g1.at_ k a
  · rcases g3 with q | q
    · rw [q] at hd; exact h4 r hr hd
    · rw [q] at hd
      injection hd with hd
      have := (h1'.at_ r hr).2
      omega
  · exact (Below.refl base w).grown g2 hbase (fun k hk => (h2.at_ k hk).1)
end

section
variable {w w' : World} {X : Nat → Prop} {x p q r : Nat} {a b d : TL}
set_option maxHeartbeats 6400000 in
theorem refChanges_any (h : RefAt w X x p q r a b d) (ha : a.length ≤ 2147483647) (hb : b.length ≤ 2147483647) (hd : d.length ≤ 2147483647) :
    Calls Tryz.prog 23 #[.pointer (some ⟨x, 0, none⟩)] w fun e w' => ∃ A n k A' n' k', e = .returned (.tuple #[.slice A n k, .slice A' n' k']) ∧ n ≤ k ∧ RPairs w' w'.heap.size A n ((d.filterMap (refPutF a b)).map kvOf) ∧ n' ≤ k' ∧ RTexts w' w'.heap.size A' n' ((d.filterMap (refDelF a b)).map by_) ∧ Below w.heap.size w w' := by
  have HH := Lib.hid h
  have HLN := Lib.hid (And.intro ha hb)
  obtain ⟨TA, N, TC, ht, _, hs⟩ := h.told
  have hrl := h.told.lt
  have hc0 : w.cell? ⟨r, 0, none⟩ = some (.slice TA N TC) := by rw [cell_of_row w r 0 _ _ (0, 0) ht]; rfl
  have hNL : d.length = N := hs.2.1
  rw [hNL] at hd
  have HS := Lib.hid hs
  have HC := Lib.hid (And.intro hc0 (And.intro hrl hNL))
  clear h ha hb ht hs hrl hc0 hNL
  go_enter Tryz.func23, Tryz.ntmps23
  go_wp2_with fail
  go_loopw [4, 5, 6] (fun pv dv i wr => ∃ j : Nat, j ≤ N ∧ i = .int .i64 j ∧ Hid (CRows wr w.heap.size pv dv (refPutsN a b d j) (refDelsN a b d j)) ∧ Hid (RowKit.Below w.heap.size w wr)) (fun _ _ i _ => N - (intOf i).toNat)
  case atStart => exact ⟨0, Nat.zero_le _, rfl, Lib.hid (CRows.start _ _), Lib.hid (RowKit.Below.refl _ _)⟩
  case round =>
    obtain ⟨j, hj, rfl, HR, HB⟩ := hrel
    have hh := HH.out.below HB.out
    obtain ⟨d0, d1, d2⟩ := hh.cells
    have c0 := (HB.out.cell (p := ⟨r, 0, none⟩) HC.out.2.1).trans HC.out.1
    obtain ⟨PA, PK, DA, DK, rfl, rfl⟩ := HR.out.to.shapes
    by_cases hlt : j < N
    · obtain ⟨y, hy⟩ : ∃ y, d[j]? = some y := ⟨_, List.getElem?_eq_getElem (by rw [HC.out.2.2]; exact hlt)⟩
      obtain ⟨_, _, hp⟩ := HS.out
      obtain ⟨tb, off, rfl, hbl, _, hp⟩ := hp (by omega)
      obtain ⟨u1, u2, c1, c2, s1, s2⟩ := hp j y hy
      have c1' := (HB.out.cell (p := ⟨tb, off + j * 2, none⟩) hbl).trans c1
      obtain ⟨KA, KN, KC, rfl⟩ := s1.slice
      obtain ⟨z1, _, _⟩ := s1.parts
      have HS1 := Lib.hid s1
      have HG1 := Lib.hid (tabGet_any (k := KC) hh.was (by have := HLN.out.1; omega) (z1.below HB.out) HB.out.size)
      rw [tx_by] at HG1
      have HG2 := Lib.hid (show ∀ w1, RowKit.Below wr.heap.size wr w1 → RefAt w1 X x p q r a b d ∧ Calls Tryz.prog 32 #[.pointer (some ⟨q, 0, none⟩), .slice KA KN KC] w1 (fun e w' => ∃ u, e = .returned (.tuple #[u, .bool (lookT b y.1).isSome]) ∧ SV w' (fun k => k < w1.heap.size) u ((lookT b y.1).getD []) ∧ RowKit.Below w1.heap.size w1 w') from fun w1 hb1 => by
        have h1 := hh.below hb1
        have := tabGet_any (k := KC) h1.now (by have := HLN.out.2; omega) (z1.below (HB.out.trans (hb1.mono HB.out.size))) (Nat.le_trans HB.out.size hb1.size)
        rw [tx_by] at this
        exact ⟨h1, this⟩)
      have hpn : (refPutsN a b d j).length ≤ 4294967296 := by have := refPutsN_len (a := a) (b := b) (d := d) j; omega
      have hdn : (refDelsN a b d j).length ≤ 4294967296 := by have := refDelsN_len (a := a) (b := b) (d := d) j; omega
      have HPN := Lib.hid (And.intro hpn hdn)
      have hj64 : (j : Int) < (N : Int) := by omega
      have HY := Lib.hid hy
      clear hh hy hp s1 s2 c1 c2 z1 hpn hdn
      rcases ha : lookT a y.1 with _ | va
      · rcases hb : lookT b y.1 with _ | vb
        · skip
          have HA := Lib.hid ha
          have HBB := Lib.hid hb
          rw [ha] at HG1
          rw [hb] at HG2
          clear ha hb
          go_wp2_with fail
          refine HG1.out.mono ?_
          rintro e w1 ⟨ua, rfl, hsa, hb1⟩
          obtain ⟨h1, hc⟩ := HG2.out w1 hb1
          obtain ⟨e0, e1, e2⟩ := h1.cells
          have HC2 := Lib.hid hc
          have HSA := Lib.hid hsa
          obtain ⟨UA, UN, UC, rfl⟩ := hsa.slice
          have HB1 := Lib.hid hb1
          clear hsa hb1 h1 hc
          simp only [Option.isSome_none]
          go_wp2_with fail
          refine HC2.out.mono ?_
          rintro e w2 ⟨ub, rfl, hsb, hb2⟩
          have HSB := Lib.hid hsb
          obtain ⟨VA, VN, VC, rfl⟩ := hsb.slice
          have HB2 := Lib.hid (HB1.out.trans (hb2.mono HB1.out.size))
          have HB12 := Lib.hid hb2
          clear hsb hb2
          simp only [Option.isSome_none]
          have HPF := Lib.hid (show refPutF a b y = none by unfold refPutF; rw [HBB.out])
          have HDF := Lib.hid (show refDelF a b y = none by unfold refDelF; rw [HBB.out]; show (if (lookT a y.1).isSome = true then some y.1 else none) = none; rw [HA.out]; rfl)
          have HN6 := Lib.hid (show CRows w2 w.heap.size (.slice PA (refPutsN a b d j).length PK) (.slice DA (refDelsN a b d j).length DK) (refPutsN a b d (j + 1)) (refDelsN a b d (j + 1)) from by
            rw [refPutsN_step HY.out, refDelsN_step HY.out, HPF.out, HDF.out]
            simpa using HR.out.below HB2.out)
          have HB6 := Lib.hid (HB.out.trans (HB2.out.mono HB.out.size))
          go_wp2
          go_roundw
          case rel => exact ⟨j + 1, by omega, by go_num, HN6, HB6⟩
          case measure => simp [intOf]; omega
        · skip
          have HA := Lib.hid ha
          have HBB := Lib.hid hb
          rw [ha] at HG1
          rw [hb] at HG2
          clear ha hb
          go_wp2_with fail
          refine HG1.out.mono ?_
          rintro e w1 ⟨ua, rfl, hsa, hb1⟩
          obtain ⟨h1, hc⟩ := HG2.out w1 hb1
          obtain ⟨e0, e1, e2⟩ := h1.cells
          have HC2 := Lib.hid hc
          have HSA := Lib.hid hsa
          obtain ⟨UA, UN, UC, rfl⟩ := hsa.slice
          have HB1 := Lib.hid hb1
          clear hsa hb1 h1 hc
          simp only [Option.isSome_none]
          go_wp2_with fail
          refine HC2.out.mono ?_
          rintro e w2 ⟨ub, rfl, hsb, hb2⟩
          have HSB := Lib.hid hsb
          obtain ⟨VA, VN, VC, rfl⟩ := hsb.slice
          have HB2 := Lib.hid (HB1.out.trans (hb2.mono HB1.out.size))
          have HB12 := Lib.hid hb2
          clear hsb hb2
          simp only [Option.isSome_some]
          have HPF := Lib.hid (show refPutF a b y = some (y.1, vb) by unfold refPutF; rw [HBB.out]; show (if lookT a y.1 = some vb then none else some (y.1, vb)) = some (y.1, vb); rw [HA.out]; exact if_neg (fun e => by cases e))
          have HDF := Lib.hid (show refDelF a b y = none by unfold refDelF; rw [HBB.out])
          have hX5 : RowKit.Below w2.heap.size w2 (w2.alloc (.cells #[.slice KA KN KC, .slice VA VN VC] 69 (0, 0))) := (RowKit.Below.refl _ _).alloc (Nat.le_refl _) _
          have hr5 := HB2.out.trans (hX5.mono HB2.out.size)
          have hr0 := HB.out.trans (hr5.mono HB.out.size)
          have sk : SV (w2.alloc (.cells #[.slice KA KN KC, .slice VA VN VC] 69 (0, 0))) (fun k => w.heap.size ≤ k ∧ k < wr.heap.size) (.slice KA KN KC) (by_ y.1) := HS1.out.keep hr0.size (fun k hk _ hh => by omega) (fun k hk _ => hr0.block k hk)
          have svv : SV (w2.alloc (.cells #[.slice KA KN KC, .slice VA VN VC] 69 (0, 0))) (fun k => w.heap.size ≤ k ∧ k < wr.heap.size) (.slice VA VN VC) vb := (HSB.out.far (fun k hk => Nat.lt_of_lt_of_le hk.2 HB1.out.size)).keep hX5.size (fun _ _ h => h) (fun k hk _ => hX5.block k hk)
          obtain ⟨v', w6, hrun, hR6, hb6⟩ := HR.out.pushP (x := kvOf (y.1, vb)) hr5 sk svv (heap_alloc_new _ _) HPN.out.1 hr0.size 39
          have HN6 := Lib.hid (show CRows w6 w.heap.size v' (.slice DA (refDelsN a b d j).length DK) (refPutsN a b d (j + 1)) (refDelsN a b d (j + 1)) from by
            rw [refPutsN_step HY.out, refDelsN_step HY.out, HPF.out, HDF.out]
            simpa using hR6)
          have HB6 := Lib.hid (hr0.trans hb6)
          have HRUN := Lib.hid hrun
          clear hX5 hr5 hr0 sk svv hR6 hb6 hrun
          go_wp2_with (at_builtin; refine Lib.wpList_append_run _ rfl _ _ _ _ rfl _ _ rfl rfl _ _ HRUN.out ?_)
          go_roundw
          case rel => exact ⟨j + 1, by omega, by go_num, HN6, HB6⟩
          case measure => simp [intOf]; omega
      · rcases hb : lookT b y.1 with _ | vb
        · skip
          have HA := Lib.hid ha
          have HBB := Lib.hid hb
          rw [ha] at HG1
          rw [hb] at HG2
          clear ha hb
          go_wp2_with fail
          refine HG1.out.mono ?_
          rintro e w1 ⟨ua, rfl, hsa, hb1⟩
          obtain ⟨h1, hc⟩ := HG2.out w1 hb1
          obtain ⟨e0, e1, e2⟩ := h1.cells
          have HC2 := Lib.hid hc
          have HSA := Lib.hid hsa
          obtain ⟨UA, UN, UC, rfl⟩ := hsa.slice
          have HB1 := Lib.hid hb1
          clear hsa hb1 h1 hc
          simp only [Option.isSome_some]
          go_wp2_with fail
          refine HC2.out.mono ?_
          rintro e w2 ⟨ub, rfl, hsb, hb2⟩
          have HSB := Lib.hid hsb
          obtain ⟨VA, VN, VC, rfl⟩ := hsb.slice
          have HB2 := Lib.hid (HB1.out.trans (hb2.mono HB1.out.size))
          have HB12 := Lib.hid hb2
          clear hsb hb2
          simp only [Option.isSome_none]
          have HPF := Lib.hid (show refPutF a b y = none by unfold refPutF; rw [HBB.out])
          have HDF := Lib.hid (show refDelF a b y = some y.1 by unfold refDelF; rw [HBB.out]; show (if (lookT a y.1).isSome = true then some y.1 else none) = some y.1; rw [HA.out]; rfl)
          have hX5 : RowKit.Below w2.heap.size w2 (w2.alloc (.cells #[.slice KA KN KC] 45 (0, 0))) := (RowKit.Below.refl _ _).alloc (Nat.le_refl _) _
          have hr5 := HB2.out.trans (hX5.mono HB2.out.size)
          have hr0 := HB.out.trans (hr5.mono HB.out.size)
          have sk : SV (w2.alloc (.cells #[.slice KA KN KC] 45 (0, 0))) (fun k => w.heap.size ≤ k ∧ k < wr.heap.size) (.slice KA KN KC) (by_ y.1) := HS1.out.keep hr0.size (fun k hk _ hh => by omega) (fun k hk _ => hr0.block k hk)
          obtain ⟨v', w6, hrun, hR6, hb6⟩ := HR.out.pushT (x := by_ y.1) hr5 sk (heap_alloc_new _ _) HPN.out.2 hr0.size 56
          have HN6 := Lib.hid (show CRows w6 w.heap.size (.slice PA (refPutsN a b d j).length PK) v' (refPutsN a b d (j + 1)) (refDelsN a b d (j + 1)) from by
            rw [refPutsN_step HY.out, refDelsN_step HY.out, HPF.out, HDF.out]
            simpa using hR6)
          have HB6 := Lib.hid (hr0.trans hb6)
          have HRUN := Lib.hid hrun
          clear hX5 hr5 hr0 sk hR6 hb6 hrun
          go_wp2_with (at_builtin; refine Lib.wpList_append_run _ rfl _ _ _ _ rfl _ _ rfl rfl _ _ HRUN.out ?_)
          go_roundw
          case rel => exact ⟨j + 1, by omega, by go_num, HN6, HB6⟩
          case measure => simp [intOf]; omega
        · skip
          have HA := Lib.hid ha
          have HBB := Lib.hid hb
          rw [ha] at HG1
          rw [hb] at HG2
          clear ha hb
          go_wp2_with fail
          refine HG1.out.mono ?_
          rintro e w1 ⟨ua, rfl, hsa, hb1⟩
          obtain ⟨h1, hc⟩ := HG2.out w1 hb1
          obtain ⟨e0, e1, e2⟩ := h1.cells
          have HC2 := Lib.hid hc
          have HSA := Lib.hid hsa
          obtain ⟨UA, UN, UC, rfl⟩ := hsa.slice
          have HB1 := Lib.hid hb1
          clear hsa hb1 h1 hc
          simp only [Option.isSome_some]
          go_wp2_with fail
          refine HC2.out.mono ?_
          rintro e w2 ⟨ub, rfl, hsb, hb2⟩
          have HSB := Lib.hid hsb
          obtain ⟨VA, VN, VC, rfl⟩ := hsb.slice
          have HB2 := Lib.hid (HB1.out.trans (hb2.mono HB1.out.size))
          have HB12 := Lib.hid hb2
          clear hsb hb2
          simp only [Option.isSome_some]
          have ca : (convert 45 9 (.slice UA UN UC)).run Tryz.prog w2 = .ok (encStr (tx va)) w2 := (HSA.out.parts.1.below HB12.out).conv UC
          have cb : (convert 45 9 (.slice VA VN VC)).run Tryz.prog w2 = .ok (encStr (tx vb)) w2 := HSB.out.parts.1.conv VC
          have HBY := Lib.hid (And.intro HSA.out.bytes HSB.out.bytes)
          by_cases hv : va = vb
          · subst hv
            have HPF := Lib.hid (show refPutF a b y = none by unfold refPutF; rw [HBB.out]; show (if lookT a y.1 = some va then none else some (y.1, va)) = none; rw [HA.out]; exact if_pos rfl)
            have HDF := Lib.hid (show refDelF a b y = none by unfold refDelF; rw [HBB.out])
            have hq : (tx va == tx va) = true := by simp
            have hq2 : (tx va != tx va) = false := by simp
            have HN6 := Lib.hid (show CRows w2 w.heap.size (.slice PA (refPutsN a b d j).length PK) (.slice DA (refDelsN a b d j).length DK) (refPutsN a b d (j + 1)) (refDelsN a b d (j + 1)) from by
              rw [refPutsN_step HY.out, refDelsN_step HY.out, HPF.out, HDF.out]
              simpa using HR.out.below HB2.out)
            have HB6 := Lib.hid (HB.out.trans (HB2.out.mono HB.out.size))
            go_wp2
            go_roundw
            case rel => exact ⟨j + 1, by omega, by go_num, HN6, HB6⟩
            case measure => simp [intOf]; omega
          · have hne : ¬ tx va = tx vb := fun e => hv (((by_tx HBY.out.1).symm.trans (congrArg by_ e)).trans (by_tx HBY.out.2))
            have hq : (tx va == tx vb) = false := by simpa using hne
            have hq2 : (tx va != tx vb) = true := by simpa using hne
            have HPF := Lib.hid (show refPutF a b y = some (y.1, vb) by unfold refPutF; rw [HBB.out]; show (if lookT a y.1 = some vb then none else some (y.1, vb)) = some (y.1, vb); rw [HA.out]; exact if_neg (fun e => hv (by injection e)))
            have HDF := Lib.hid (show refDelF a b y = none by unfold refDelF; rw [HBB.out])
            clear hne hv
            have hX5 : RowKit.Below w2.heap.size w2 (w2.alloc (.cells #[.slice KA KN KC, .slice VA VN VC] 69 (0, 0))) := (RowKit.Below.refl _ _).alloc (Nat.le_refl _) _
            have hr5 := HB2.out.trans (hX5.mono HB2.out.size)
            have hr0 := HB.out.trans (hr5.mono HB.out.size)
            have sk : SV (w2.alloc (.cells #[.slice KA KN KC, .slice VA VN VC] 69 (0, 0))) (fun k => w.heap.size ≤ k ∧ k < wr.heap.size) (.slice KA KN KC) (by_ y.1) := HS1.out.keep hr0.size (fun k hk _ hh => by omega) (fun k hk _ => hr0.block k hk)
            have svv : SV (w2.alloc (.cells #[.slice KA KN KC, .slice VA VN VC] 69 (0, 0))) (fun k => w.heap.size ≤ k ∧ k < wr.heap.size) (.slice VA VN VC) vb := (HSB.out.far (fun k hk => Nat.lt_of_lt_of_le hk.2 HB1.out.size)).keep hX5.size (fun _ _ h => h) (fun k hk _ => hX5.block k hk)
            obtain ⟨v', w6, hrun, hR6, hb6⟩ := HR.out.pushP (x := kvOf (y.1, vb)) hr5 sk svv (heap_alloc_new _ _) HPN.out.1 hr0.size 39
            have HN6 := Lib.hid (show CRows w6 w.heap.size v' (.slice DA (refDelsN a b d j).length DK) (refPutsN a b d (j + 1)) (refDelsN a b d (j + 1)) from by
              rw [refPutsN_step HY.out, refDelsN_step HY.out, HPF.out, HDF.out]
              simpa using hR6)
            have HB6 := Lib.hid (hr0.trans hb6)
            have HRUN := Lib.hid hrun
            clear hX5 hr5 hr0 sk svv hR6 hb6 hrun
            go_wp2_with (at_builtin; refine Lib.wpList_append_run _ rfl _ _ _ _ rfl _ _ rfl rfl _ _ HRUN.out ?_)
            go_roundw
            case rel => exact ⟨j + 1, by omega, by go_num, HN6, HB6⟩
            case measure => simp [intOf]; omega
    · obtain rfl : j = N := by omega
      obtain ⟨r1, r2, r3, r4, r5, r6⟩ := HR.out.to.read
      have hp : refPutsN a b d j = (d.filterMap (refPutF a b)).map kvOf := by unfold refPutsN; rw [← HC.out.2.2, List.take_length]
      have hq : refDelsN a b d j = (d.filterMap (refDelF a b)).map by_ := by unfold refDelsN; rw [← HC.out.2.2, List.take_length]
      have HFIN := Lib.hid (And.intro r2 (And.intro r3 (And.intro r5 (And.intro r6 HB.out))))
      rw [hp, hq] at HFIN ⊢
      clear r1 r2 r3 r4 r5 r6 hp hq hh
      go_wp2
      go_ret2
      obtain ⟨f1, f2, f3, f4, f5⟩ := HFIN.out
      exact ⟨_, _, _, _, _, _, rfl, f1, f2, f3, f4, f5⟩
end

end Go.Proofs.YteogpohhnnjbmaaGreat
