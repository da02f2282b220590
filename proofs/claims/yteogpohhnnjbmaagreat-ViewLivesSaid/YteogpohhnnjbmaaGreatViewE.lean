/-
  Contracts of the view's changes, Changes, Commit over memory. Conditions: fewer than 32,768 changes, fewer than 2^40 pairs, texts and values of at most 2^47 bytes.
-/
import Derived.Test.YteogpohhnnjbmaaGreatViewD
import Derived.Lib.AppendZeros
namespace Go.Proofs.YteogpohhnnjbmaaGreat
open Go.RowKit Go.Maps
set_option maxRecDepth 100000
set_option linter.unusedVariables false

/-- Two lists under way: of pairs, and of texts, in rows of their own from block base on. -/
def ChRows (w : World) (base : Nat) (pv dv : Value) (P : List KV) (T : List (List Int)) : Prop :=
  ∃ Y : Nat → Prop, GRow PairR 69 2 w Y base pv P ∧ GRow TextR 45 1 w Y base dv T ∧ (∀ k, Y k → k < w.heap.size) ∧ ∀ r, pv.ownBlock = some r → dv.ownBlock ≠ some r
section
variable {w w' : World} {base : Nat} {pv dv : Value} {P : List KV} {T : List (List Int)}
theorem ChRows.start (w : World) (base : Nat) : ChRows w base (.slice none 0 0) (.slice none 0 0) [] [] :=
  ⟨fun _ => False, GRow.start _ _ _, GRow.start _ _ _, fun k h => h.elim, fun r h => by simp [Value.ownBlock] at h⟩
theorem ChRows.below (h : ChRows w base pv dv P T) (hb : Below w.heap.size w w') : ChRows w' base pv dv P T := by
  obtain ⟨Y, h1, h2, h3, h4⟩ := h
  exact ⟨Y, h1.below @pairR_kept hb, h2.below @textR_kept hb, fun k hk => Nat.lt_of_lt_of_le (h3 k hk) hb.size, h4⟩
theorem ChRows.shapes (h : ChRows w base pv dv P T) : ∃ A c A' c', pv = .slice A P.length c ∧ dv = .slice A' T.length c' := by
  obtain ⟨Y, h1, h2, _⟩ := h
  obtain ⟨A, c, e, _⟩ := h1.shape
  obtain ⟨A', c', e', _⟩ := h2.shape
  exact ⟨A, c, A', c', e, e'⟩
theorem ChRows.own_ge (h : ChRows w base pv dv P T) : (∀ r, pv.ownBlock = some r → base ≤ r) ∧ ∀ r, dv.ownBlock = some r → base ≤ r := by
  obtain ⟨Y, h1, h2, _⟩ := h
  exact ⟨fun r hr => (h1.at_ r hr).1, fun r hr => (h2.at_ r hr).1⟩
/-- One pair more, its cells in block b, its slices new since W. -/
theorem ChRows.pushP {W : World} {u1 u2 : Value} {x : KV} {b : Nat} {TT : TypeId} (h : ChRows W base pv dv P T) (hW : Below W.heap.size W w) (hu1 : SV w (fun k => k < W.heap.size) u1 x.1) (hu2 : SV w (fun k => k < W.heap.size) u2 x.2) (hb : w.heap[b]? = some (.cells #[u1, u2] TT)) (hn : P.length ≤ 4294967296) (hbase : base ≤ w.heap.size) (ty : TypeId) :
    ∃ v' w', (Builtin.append_ #[39, 39] ty #[pv, .slice (some ⟨b, 0, none⟩) 1 1]).run Tryz.prog w = .ok v' w' ∧ ChRows w' base v' dv (P ++ [x]) T ∧ Below base w w' := by
  obtain ⟨Y, h1, h2, h3, h4⟩ := h
  have h1' := h1.below @pairR_kept hW
  have h2' := h2.below @textR_kept hW
  obtain ⟨v', w', hrun, g1, g2, g3, _⟩ := h1'.append_pair (hu1.far fun k hk => h3 k hk) (hu2.far fun k hk => h3 k hk) hb hn hbase ty
  refine ⟨v', w', hrun, ⟨_, g1, h2'.keep @textR_kept g2.size (fun k hk hy hh => ?_) (fun k hk hy => g2.block k hk fun e => hy (h1.own k e.symm)) (fun r hr => ⟨g2.block r (h2'.at_ r hr).2 (fun e => h4 r e.symm hr), .inl (h2.own r hr)⟩), fun k hk => ?_, fun r hr hd => ?_⟩, ?_⟩
  · rcases hh with a | a
    · exact hy a
    · rcases g3 with q | q
      · rw [q] at a; exact hy (h1.own k a)
      · rw [q] at a; injection a with a; omega
  · rcases hk with a | a
    · exact Nat.lt_of_lt_of_le (h3 k a) (Nat.le_trans hW.size g2.size)
    · exact (g1.at_ k a).2
  · rcases g3 with q | q
    · rw [q] at hr; exact h4 r hr hd
    · rw [q] at hr
      injection hr with hr
      have := (h2'.at_ r hd).2
      omega
  · exact (Below.refl base w).grown g2 hbase (fun k hk => (h1.at_ k hk).1)
theorem ChRows.pushT {W : World} {u1 : Value} {x : List Int} {b : Nat} {TT : TypeId} (h : ChRows W base pv dv P T) (hW : Below W.heap.size W w) (hu1 : SV w (fun k => k < W.heap.size) u1 x) (hb : w.heap[b]? = some (.cells #[u1] TT)) (hn : T.length ≤ 4294967296) (hbase : base ≤ w.heap.size) (ty : TypeId) :
    ∃ v' w', (Builtin.append_ #[56, 56] ty #[dv, .slice (some ⟨b, 0, none⟩) 1 1]).run Tryz.prog w = .ok v' w' ∧ ChRows w' base pv v' P (T ++ [x]) ∧ Below base w w' := by
  obtain ⟨Y, h1, h2, h3, h4⟩ := h
  have h1' := h1.below @pairR_kept hW
  have h2' := h2.below @textR_kept hW
  obtain ⟨v', w', hrun, g1, g2, g3, _⟩ := h2'.append_text (hu1.far fun k hk => h3 k hk) hb hn hbase ty
  refine ⟨v', w', hrun, ⟨_, h1'.keep @pairR_kept g2.size (fun k hk hy hh => ?_) (fun k hk hy => g2.block k hk fun e => hy (h2.own k e.symm)) (fun r hr => ⟨g2.block r (h1'.at_ r hr).2 (fun e => h4 r hr e.symm), .inl (h1.own r hr)⟩), g1, fun k hk => ?_, fun r hr hd => ?_⟩, ?_⟩
  · rcases hh with a | a
    · exact hy a
    · rcases g3 with q | q
      · rw [q] at a; exact hy (h2.own k a)
      · rw [q] at a; injection a with a; omega
  · rcases hk with a | a
    · exact Nat.lt_of_lt_of_le (h3 k a) (Nat.le_trans hW.size g2.size)
    · exact (g1.at_ k a).2
  · rcases g3 with q | q
    · rw [q] at hd; exact h4 r hr hd
    · rw [q] at hd
      injection hd with hd
      have := (h1'.at_ r hr).2
      omega
  · exact (Below.refl base w).grown g2 hbase (fun k hk => (h2.at_ k hk).1)
/-- How they are read at the end. -/
theorem ChRows.read {A A' : Option Addr} {n c n' c' : Nat} (h : ChRows w base (.slice A n c) (.slice A' n' c') P T) : n = P.length ∧ n ≤ c ∧ RPairs w w.heap.size A n P ∧ n' = T.length ∧ n' ≤ c' ∧ RTexts w w.heap.size A' n' T := by
  obtain ⟨Y, h1, h2, _⟩ := h
  obtain ⟨a1, a2, a3⟩ := h1.pairs
  obtain ⟨b1, b2, b3⟩ := h2.texts
  exact ⟨a1, a2, a3, b1, b2, b3⟩
end

theorem fm_step {α β : Type} {f : α → Option β} {L : List α} {j : Nat} {p : α} (h : L[j]? = some p) : (L.take (j + 1)).filterMap f = (L.take j).filterMap f ++ (f p).toList := by
  obtain ⟨hi, rfl⟩ := List.getElem?_eq_some_iff.1 h
  rw [List.take_succ_eq_append_getElem hi, List.filterMap_append]
  congr 1

section
variable {w w' : World} {X : Nat → Prop} {v m c : Nat} {S : VS}

/-- The pairs, and the texts, of the first j changes. -/
def putsN (S : VS) (j : Nat) : List KV := ((S.C.take j).filterMap (VS.putsF S.W)).map kvOf
def delsN (S : VS) (j : Nat) : List (List Int) := ((S.C.take j).filterMap (VS.delsF S.W)).map by_
theorem putsN_len (S : VS) (j : Nat) : (putsN S j).length ≤ j := by
  unfold putsN
  rw [List.length_map]
  exact Nat.le_trans (List.length_filterMap_le _ _) (by rw [List.length_take]; exact Nat.min_le_left _ _)
theorem delsN_len (S : VS) (j : Nat) : (delsN S j).length ≤ j := by
  unfold delsN
  rw [List.length_map]
  exact Nat.le_trans (List.length_filterMap_le _ _) (by rw [List.length_take]; exact Nat.min_le_left _ _)

theorem putsN_step {S : VS} {j : Nat} {p : Txt × Option (List Int)} (hp : S.C[j]? = some p) : putsN S (j + 1) = putsN S j ++ (VS.putsF S.W p).toList.map kvOf := by
  unfold putsN
  rw [fm_step hp, List.map_append]
theorem delsN_step {S : VS} {j : Nat} {p : Txt × Option (List Int)} (hp : S.C[j]? = some p) : delsN S (j + 1) = delsN S j ++ (VS.delsF S.W p).toList.map by_ := by
  unfold delsN
  rw [fm_step hp, List.map_append]
theorem putsF_some {W : TL} {p : Txt × Option (List Int)} {val : List Int} (hc : p.2 = some val) : VS.putsF W p = if lookT W p.1 = some val then none else some (p.1, val) := by
  unfold VS.putsF
  rw [hc]
theorem putsF_none {W : TL} {p : Txt × Option (List Int)} (hc : p.2 = none) : VS.putsF W p = none := by
  unfold VS.putsF
  rw [hc]
theorem delsF_some {W : TL} {p : Txt × Option (List Int)} {val : List Int} (hc : p.2 = some val) : VS.delsF W p = none := by
  unfold VS.delsF
  rw [hc]
theorem delsF_none {W : TL} {p : Txt × Option (List Int)} (hc : p.2 = none) : VS.delsF W p = if (lookT W p.1).isSome then some p.1 else none := by
  unfold VS.delsF
  rw [hc]

set_option maxHeartbeats 6400000 in
theorem vChanges_any (h : ViewAt w X v m c S) (hfew : S.C.length ≤ 32767) (hkeys : ∀ p ∈ S.C, p.1.length ≤ 140737488355328) :
    Calls Tryz.prog 45 #[.pointer (some ⟨v, 0, none⟩)] w fun e w' => ∃ A n k A' n' k', e = .returned (.tuple #[.slice A n k, .slice A' n' k', .int .i64 0]) ∧ n ≤ k ∧ RPairs w' w'.heap.size A n (S.puts.map kvOf) ∧ n' ≤ k' ∧ RTexts w' w'.heap.size A' n' (S.dels.map by_) ∧ Below w.heap.size w w' := by
  obtain ⟨c0, c1, c2, hv⟩ := h.cells
  have HM := Lib.hid (vMade_any h)
  have HK := Lib.hid (chKeys_any (some c) w)
  have HSo := Lib.hid (chSorted_any h.chg h.ok.c hfew)
  have HH := Lib.hid h
  have HKL := Lib.hid hkeys
  clear h hkeys
  have hm : ∀ n (w : World), (method (n + 1) 32 (.map (some m)) "Get").run Tryz.prog w = .ok (253, .map (some m)) w := fun n w => by kernel_rfl
  go_enter Tryz.func45, Tryz.ntmps45
  go_wp2_with fail
  refine HM.out.mono ?_
  rintro e w' ⟨rfl, rfl⟩
  go_wp2_with fail
  refine HK.out.mono ?_
  rintro e w' ⟨rfl, rfl⟩
  go_wp2_with fail
  refine HSo.out.mono ?_
  rintro e wK ⟨AK, cK, rfl, hcK, hrowK, hbK⟩
  have HROW := Lib.hid hrowK
  have HBK := Lib.hid hbK
  have hfew' : S.C.length ≤ 2 ^ 63 - 1 := by omega
  clear hrowK hbK c0 c1 c2
  obtain ⟨N, hN⟩ : ∃ N, N = S.C.length := ⟨_, rfl⟩
  rw [← hN] at hfew' hcK hfew HROW
  have HN := Lib.hid hN
  rw [← hN]
  clear hN
  go_wp2_with fail
  go_loopw [2, 3, 21] (fun pv dv i wr => ∃ j : Nat, j ≤ N ∧ i = .int .i64 j ∧ Hid (ChRows wr wK.heap.size pv dv (putsN S j) (delsN S j)) ∧ Hid (Below wK.heap.size wK wr)) (fun _ _ i _ => N - (intOf i).toNat)
  case atStart => exact ⟨0, Nat.zero_le _, rfl, Lib.hid (ChRows.start _ _), Lib.hid (Below.refl _ _)⟩
  case round =>
    obtain ⟨j, hj, rfl, HR, HB⟩ := hrel
    by_cases hlt : j < N
    · obtain ⟨p, hp⟩ : ∃ p, S.C[j]? = some p := ⟨_, List.getElem?_eq_getElem (by rw [← HN.out]; exact hlt)⟩
      have hpm : (p.1, p.2) ∈ S.C := List.mem_of_getElem? hp
      have hpl : lookT S.C p.1 = some p.2 := HH.out.ok.c.look hpm
      have hkl := HKL.out p hpm
      have hcell : ∃ g, AK = some ⟨g, 0, none⟩ ∧ wr.cell? ⟨g, j, none⟩ = some (encStr p.1) := by
        have h1 := HROW.out
        rcases h1.2 with ⟨e, h0⟩ | ⟨g, cap, cur, e, _, hg, _, _, _, htake⟩
        · omega
        · cases e
          refine ⟨g, rfl, ?_⟩
          rw [HB.out.cell (p := ⟨g, j, none⟩) (Array.getElem?_eq_some_iff.1 hg).1, cell_of_row wK g j cur _ (0, 0) hg]
          have h2 : (List.map encStr (List.map (fun x => x.fst) S.C))[j]? = some (encStr p.1) := by rw [List.getElem?_map, List.getElem?_map, hp]; rfl
          rw [← htake, List.getElem?_take, if_pos (by omega)] at h2
          simpa using h2
      obtain ⟨g, rfl, hcell⟩ := hcell
      have hbr := HBK.out.trans (HB.out.mono HBK.out.size)
      have hvr := HH.out.below hbr
      obtain ⟨d0, d1, d2, _⟩ := hvr.cells
      obtain ⟨u1, w1, hconv, hs1, hb1⟩ := conv_txt wr p.1 hkl
      have hv1 := hvr.below hb1
      obtain ⟨A1, n1, k1, rfl, e1, e2, e3, _⟩ := hs1
      have HG := Lib.hid (memGet_any hv1.mem hv1.lt (k := k1) e3 (by unfold maxLen; omega))
      rw [tx_by] at HG
      have HVR := Lib.hid hvr
      have HV1 := Lib.hid hv1
      have HB1 := Lib.hid hb1
      have HP := Lib.hid (And.intro hp (And.intro hpl hkl))
      have hpn : (putsN S j).length ≤ 4294967296 := by have := putsN_len S j; omega
      have hdn : (delsN S j).length ≤ 4294967296 := by have := delsN_len S j; omega
      have hj64 : (j : Int) < (N : Int) := by omega
      have HPN := Lib.hid (And.intro hpn hdn)
      obtain ⟨PA, PK, DA, DK, rfl, rfl⟩ := HR.out.shapes
      generalize hst : encStr p.1 = st at hcell hconv
      have HST := Lib.hid hst
      clear hp hpm hpl hvr hv1 hb1 hbr e1 e2 e3 hpn hdn hst
      go_wp2_with fail
      refine HG.out.mono ?_
      rintro e w2 ⟨u2, rfl, hs2, hb2⟩
      have hv2 := HV1.out.below hb2
      have HMe := Lib.hid (vMeet_any hv2)
      have HV2 := Lib.hid hv2
      have hr2 := HB1.out.trans (hb2.mono HB1.out.size)
      have HB2 := Lib.hid hr2
      have HS2 := Lib.hid hs2
      obtain ⟨A2, n2, k2, rfl, _, _, g3, _⟩ := hs2
      have HG3 := Lib.hid g3
      obtain ⟨u3, hget, hch⟩ := hv2.chg.get Tryz.underlying33 (zero_change w2) (x := p.1) (by unfold maxLen; omega) HP.out.2.1
      rw [HST.out] at hget
      obtain ⟨f0, f1, f2, _⟩ := hv2.cells
      clear hv2 hb2 hr2 g3 hconv d0 d1 d2 hcell
      go_wp2_with fail
      refine HMe.out.mono ?_
      rintro e w2' ⟨rfl, rfl⟩
      cases hc : p.2 with
      | some val =>
        rw [hc] at hch
        obtain ⟨u, rfl, A3, n3, k3, rfl, t1, t2, t3, _⟩ := hch
        cases hw : lookT S.W p.1 with
        | none =>
          have hb : (lookT S.W p.1).isSome = false := by rw [hw]; rfl
          have hPF : VS.putsF S.W p = some (p.1, val) := by rw [putsF_some hc, hw]; rfl
          simp only [Option.isSome_none]
          have hX3 : Below w2.heap.size w2 (w2.alloc (.cells #[.bool true, .slice A3 n3 k3] 63 (0, 0))) := (Below.refl _ _).alloc (Nat.le_refl _) _
          have HPO := Lib.hid (pairOf_any (w2.alloc (.cells #[.bool true, .slice A3 n3 k3] 63 (0, 0))) p.1 hkl (k := k3) (t3.below hX3) hX3.size t2)
          rw [HST.out] at HPO
          have HX3 := Lib.hid hX3
          clear t3 hX3
          go_wp2_with fail
          refine HPO.out.mono ?_
          rintro e w4 ⟨x1, x2, rfl, hx1, hx2, hb4⟩
          have hX5 : Below w4.heap.size w4 (w4.alloc (.cells #[x1, x2] 69 (0, 0))) := (Below.refl _ _).alloc (Nat.le_refl _) _
          have hb24 := HX3.out.trans (hb4.mono HX3.out.size)
          have hr4 := HB2.out.trans (hb24.mono HB2.out.size)
          have hr5 := hr4.trans (hX5.mono hr4.size)
          have hz : ∀ k, k < wr.heap.size → k < (w2.alloc (.cells #[.bool true, .slice A3 n3 k3] 63 (0, 0))).heap.size := fun k hk => Nat.lt_of_lt_of_le hk (Nat.le_trans HB2.out.size HX3.out.size)
          obtain ⟨v', w6, hrun, hR6, hb6⟩ := HR.out.pushP (x := kvOf (p.1, val)) hr5 ((hx1.far hz).keep hX5.size (fun _ _ h => h) (fun k hk _ => hX5.block k hk)) ((hx2.far hz).keep hX5.size (fun _ _ h => h) (fun k hk _ => hX5.block k hk)) (heap_alloc_new _ _) HPN.out.1 (Nat.le_trans HB.out.size hr5.size) 39
          have HN6 := Lib.hid (show ChRows w6 wK.heap.size v' (.slice DA (delsN S j).length DK) (putsN S (j + 1)) (delsN S (j + 1)) from by
            rw [putsN_step HP.out.1, delsN_step HP.out.1, hPF, delsF_some hc]
            simpa using hR6)
          have HB6 := Lib.hid ((HB.out.trans (hr5.mono HB.out.size)).trans hb6)
          obtain ⟨B1, m1, l1, rfl, _⟩ := hx1
          obtain ⟨B2, m2, l2, rfl, _⟩ := hx2
          have HRUN := Lib.hid hrun
          clear hX5 hb24 hr4 hr5 hz hR6 hb6 hb4 hrun
          go_wp2_with (at_builtin; refine Lib.wpList_append_run _ rfl _ _ _ _ rfl _ _ rfl rfl _ _ HRUN.out ?_)
          go_roundw
          case rel => exact ⟨j + 1, by omega, by go_num, HN6, HB6⟩
          case measure => simp [intOf]; omega
        | some wv =>
          rw [hw] at HG3
          have hX3e : Below w2.heap.size w2 (w2.alloc (.cells #[.bool true, .slice A3 n3 k3] 63 (0, 0))) := (Below.refl _ _).alloc (Nat.le_refl _) _
          have HE := Lib.hid (Equal_any k2 k3 (HG3.out.below hX3e) (t3.below hX3e))
          simp only [Option.getD_some] at HE
          simp only [Option.isSome_some]
          by_cases heq : wv = val
          · have hd : decide (wv = val) = true := by simpa using heq
            rw [hd] at HE
            clear hd t3 hX3e
            have HN6 := Lib.hid (show ∀ w6, Below wr.heap.size wr w6 → ChRows w6 wK.heap.size (.slice PA (putsN S j).length PK) (.slice DA (delsN S j).length DK) (putsN S (j + 1)) (delsN S (j + 1)) ∧ Below wK.heap.size wK w6 from fun w6 hb => ⟨by
              rw [putsN_step HP.out.1, delsN_step HP.out.1, putsF_some hc, hw, if_pos (by rw [heq]), delsF_some hc]
              simpa using HR.out.below hb, HB.out.trans (hb.mono HB.out.size)⟩)
            have hX3 : Below w2.heap.size w2 (w2.alloc (.cells #[.bool true, .slice A3 n3 k3] 63 (0, 0))) := (Below.refl _ _).alloc (Nat.le_refl _) _
            have HX3 := Lib.hid (HB2.out.trans (hX3.mono HB2.out.size))
            clear hX3
            go_wp2_with fail
            refine HE.out.mono ?_
            rintro e w4 ⟨rfl, rfl⟩
            go_wp2
            go_roundw
            case rel => exact ⟨j + 1, by omega, by go_num, Lib.hid (HN6.out _ HX3.out).1, Lib.hid (HN6.out _ HX3.out).2⟩
            case measure => simp [intOf]; omega
          · have hd : decide (wv = val) = false := by simpa using heq
            have hPF : VS.putsF S.W p = some (p.1, val) := by rw [putsF_some hc, hw, if_neg (fun e => heq (by injection e))]
            rw [hd] at HE
            clear hd hX3e
            have hX3 : Below w2.heap.size w2 (w2.alloc (.cells #[.bool true, .slice A3 n3 k3] 63 (0, 0))) := (Below.refl _ _).alloc (Nat.le_refl _) _
            have HPO := Lib.hid (pairOf_any (w2.alloc (.cells #[.bool true, .slice A3 n3 k3] 63 (0, 0))) p.1 hkl (k := k3) (t3.below hX3) hX3.size t2)
            rw [HST.out] at HPO
            have HX3 := Lib.hid hX3
            clear t3 hX3
            go_wp2_with fail
            refine HE.out.mono ?_
            rintro e w4 ⟨rfl, rfl⟩
            go_wp2_with fail
            refine HPO.out.mono ?_
            rintro e w4 ⟨x1, x2, rfl, hx1, hx2, hb4⟩
            have hX5 : Below w4.heap.size w4 (w4.alloc (.cells #[x1, x2] 69 (0, 0))) := (Below.refl _ _).alloc (Nat.le_refl _) _
            have hb24 := HX3.out.trans (hb4.mono HX3.out.size)
            have hr4 := HB2.out.trans (hb24.mono HB2.out.size)
            have hr5 := hr4.trans (hX5.mono hr4.size)
            have hz : ∀ k, k < wr.heap.size → k < (w2.alloc (.cells #[.bool true, .slice A3 n3 k3] 63 (0, 0))).heap.size := fun k hk => Nat.lt_of_lt_of_le hk (Nat.le_trans HB2.out.size HX3.out.size)
            obtain ⟨v', w6, hrun, hR6, hb6⟩ := HR.out.pushP (x := kvOf (p.1, val)) hr5 ((hx1.far hz).keep hX5.size (fun _ _ h => h) (fun k hk _ => hX5.block k hk)) ((hx2.far hz).keep hX5.size (fun _ _ h => h) (fun k hk _ => hX5.block k hk)) (heap_alloc_new _ _) HPN.out.1 (Nat.le_trans HB.out.size hr5.size) 39
            have HN6 := Lib.hid (show ChRows w6 wK.heap.size v' (.slice DA (delsN S j).length DK) (putsN S (j + 1)) (delsN S (j + 1)) from by
              rw [putsN_step HP.out.1, delsN_step HP.out.1, hPF, delsF_some hc]
              simpa using hR6)
            have HB6 := Lib.hid ((HB.out.trans (hr5.mono HB.out.size)).trans hb6)
            obtain ⟨B1, m1, l1, rfl, _⟩ := hx1
            obtain ⟨B2, m2, l2, rfl, _⟩ := hx2
            have HRUN := Lib.hid hrun
            clear hX5 hb24 hr4 hr5 hz hR6 hb6 hb4 hrun
            go_wp2_with (at_builtin; refine Lib.wpList_append_run _ rfl _ _ _ _ rfl _ _ rfl rfl _ _ HRUN.out ?_)
            go_roundw
            case rel => exact ⟨j + 1, by omega, by go_num, HN6, HB6⟩
            case measure => simp [intOf]; omega
      | none =>
        rw [hc] at hch
        obtain ⟨A3, n3, k3, h3⟩ : ∃ (A3 : Option Addr) (n3 k3 : Nat), u3 = .agg #[.bool false, .slice A3 n3 k3] := ⟨none, 0, 0, hch⟩
        subst h3
        clear hch
        cases hw : lookT S.W p.1 with
        | none =>
          simp only [Option.isSome_none]
          have HN6 := Lib.hid (show ∀ w6, Below wr.heap.size wr w6 → ChRows w6 wK.heap.size (.slice PA (putsN S j).length PK) (.slice DA (delsN S j).length DK) (putsN S (j + 1)) (delsN S (j + 1)) ∧ Below wK.heap.size wK w6 from fun w6 hb => ⟨by
            rw [putsN_step HP.out.1, delsN_step HP.out.1, putsF_none hc, delsF_none hc, hw]
            simpa using HR.out.below hb, HB.out.trans (hb.mono HB.out.size)⟩)
          have hX3 : Below w2.heap.size w2 (w2.alloc (.cells #[.bool false, .slice A3 n3 k3] 63 (0, 0))) := (Below.refl _ _).alloc (Nat.le_refl _) _
          have HX3 := Lib.hid (HB2.out.trans (hX3.mono HB2.out.size))
          clear hX3
          go_wp2
          go_roundw
          case rel => exact ⟨j + 1, by omega, by go_num, Lib.hid (HN6.out _ HX3.out).1, Lib.hid (HN6.out _ HX3.out).2⟩
          case measure => simp [intOf]; omega
        | some wv =>
          simp only [Option.isSome_some]
          have hX3 : Below w2.heap.size w2 (w2.alloc (.cells #[.bool false, .slice A3 n3 k3] 63 (0, 0))) := (Below.refl _ _).alloc (Nat.le_refl _) _
          obtain ⟨x1, w4, hconv4, hx1, hb4⟩ := conv_txt (w2.alloc (.cells #[.bool false, .slice A3 n3 k3] 63 (0, 0))) p.1 hkl
          rw [HST.out] at hconv4
          have hX5 : Below w4.heap.size w4 (w4.alloc (.cells #[x1] 45 (0, 0))) := (Below.refl _ _).alloc (Nat.le_refl _) _
          have hb24 := hX3.trans (hb4.mono hX3.size)
          have hr4 := HB2.out.trans (hb24.mono HB2.out.size)
          have hr5 := hr4.trans (hX5.mono hr4.size)
          have hz : ∀ k, k < wr.heap.size → k < (w2.alloc (.cells #[.bool false, .slice A3 n3 k3] 63 (0, 0))).heap.size := fun k hk => Nat.lt_of_lt_of_le hk (Nat.le_trans HB2.out.size hX3.size)
          obtain ⟨v', w6, hrun, hR6, hb6⟩ := HR.out.pushT (x := by_ p.1) hr5 ((hx1.far hz).keep hX5.size (fun _ _ h => h) (fun k hk _ => hX5.block k hk)) (heap_alloc_new _ _) HPN.out.2 (Nat.le_trans HB.out.size hr5.size) 56
          have HN6 := Lib.hid (show ChRows w6 wK.heap.size (.slice PA (putsN S j).length PK) v' (putsN S (j + 1)) (delsN S (j + 1)) from by
            rw [putsN_step HP.out.1, delsN_step HP.out.1, putsF_none hc, delsF_none hc, hw]
            simpa using hR6)
          have HB6 := Lib.hid ((HB.out.trans (hr5.mono HB.out.size)).trans hb6)
          obtain ⟨B1, m1, l1, rfl, _⟩ := hx1
          have HRUN := Lib.hid hrun
          clear hX5 hb24 hr4 hr5 hz hR6 hb6 hb4 hrun hX3
          go_wp2_with (at_builtin; refine Lib.wpList_append_run _ rfl _ _ _ _ rfl _ _ rfl rfl _ _ HRUN.out ?_)
          go_roundw
          case rel => exact ⟨j + 1, by omega, by go_num, HN6, HB6⟩
          case measure => simp [intOf]; omega
    · obtain rfl : j = N := by omega
      obtain ⟨A, k, A', k', rfl, rfl⟩ := HR.out.shapes
      obtain ⟨r1, r2, r3, r4, r5, r6⟩ := HR.out.read
      have hp : putsN S j = S.puts.map kvOf := by unfold putsN; rw [HN.out, List.take_length]; rfl
      have hd : delsN S j = S.dels.map by_ := by unfold delsN; rw [HN.out, List.take_length]; rfl
      have HFIN := Lib.hid (And.intro r2 (And.intro r3 (And.intro r5 (And.intro r6 (HBK.out.trans (HB.out.mono HBK.out.size))))))
      rw [hp, hd] at HFIN ⊢
      clear r1 r2 r3 r4 r5 r6 hp hd
      go_wp2
      go_ret3
      obtain ⟨f1, f2, f3, f4, f5⟩ := HFIN.out
      exact ⟨_, _, _, _, _, _, rfl, f1, f2, f3, f4, f5⟩
end

end Go.Proofs.YteogpohhnnjbmaaGreat
