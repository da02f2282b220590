/-
  The document's tree by contract: a year's nodes, those below one, the path above one. Conditions: which numbers are ints; fewer than 2^31 pairs.
-/
import Derived.Test.YtilhcchnlbdlhaaGreatTreR
import Derived.Lib.AppendZeros
namespace Go.Proofs.YtilhcchnlbdlhaaGreat
open Go.RowKit Go.Maps
set_option maxRecDepth 100000
set_option linter.unusedVariables false

/-- The node of that year that a pair is. -/
def ndY (y : Int) (p : KV) : Option Nd := match ndK p with
  | some x => if x.y = y then some x else none
  | none => none
def nodesY (y : Int) (ps : List KV) : List Nd := ps.filterMap (ndY y)
theorem nodesY_len (y : Int) (ps : List KV) : (nodesY y ps).length ≤ ps.length := List.length_filterMap_le _ _
theorem nodesY_step {y : Int} {ps : List KV} {k : Nat} {x : KV} (h : ps[k]? = some x) : nodesY y (ps.take (k + 1)) = nodesY y (ps.take k) ++ (ndY y x).toList := by
  obtain ⟨hk, rfl⟩ := List.getElem?_eq_some_iff.1 h
  unfold nodesY
  rw [List.take_succ_eq_append_getElem hk, List.filterMap_append]
  congr 1
theorem nodesY_ok {y : Int} {ps : List KV} (h : PairsN ps) : ∀ l ∈ nodesY y ps, NdOk l := by
  intro l hl
  obtain ⟨q, hq, e⟩ := List.mem_filterMap.1 hl
  unfold ndY at e
  split at e
  · rename_i x hx
    split at e
    · cases e; exact ndK_ok (h q hq).1 (h q hq).2 hx
    · cases e
  · cases e
section
variable {w w' : World} {X : Nat → Prop} {x p q r : Nat} {a b d : TL} {S : VS}
set_option maxHeartbeats 6400000 in
theorem rAllN_any (h : RefAt w X x p q r a b d) (hl : Link S a b d) (hN : b.length ≤ 2147483647) (y : Int) (hy : Nd64 y) :
    Calls Tryz.prog 31 #[.pointer (some ⟨x, 0, none⟩), .int .i64 y] w fun e w' => ∃ u, e = .returned u ∧ NodesR w w' u (allN S y) := by
  have hk1 : Below w.heap.size w (w.alloc (.cells #[.int .i64 y] 3)) := (Below.refl _ _).alloc (Nat.le_refl _) _
  have HK1 := Lib.hid (rkey_at 78 [y] 1 5 u8_78 (fun z hz => by obtain rfl := List.mem_singleton.1 hz; exact hy) rfl (by omega) rfl (w.alloc (.cells #[.int .i64 y] 3)) w.heap.size (RowN.a' (l := [y]) w 3))
  have hall : allN S y = nodesY y ((b.filter fun z => (tx (keyL 78 [y])).isPrefixOf z.1).map kvOf) := by
    rw [allN_ref hl.ok, hl.nowL]
    rfl
  rw [hall]
  have HSC := Lib.hid (show ∀ W A k, Below w.heap.size w W → RB W W.heap.size A 5 (keyL 78 [y]) → 5 ≤ k → Calls Tryz.prog 60 #[.pointer (some ⟨x, 0, none⟩), .slice A 5 k] W fun e w' => ∃ A' n' k', e = .returned (.slice A' n' k') ∧ n' ≤ k' ∧ RPairs w' w'.heap.size A' n' ((b.filter fun z => (tx (keyL 78 [y])).isPrefixOf z.1).map kvOf) ∧ Below W.heap.size W w' from fun W A k hb hr h5 => (refScan_any (h.below hb) hN hr (Nat.le_refl _) (by decide) h5).mono fun e w' z => by
    obtain ⟨A', n', k', e1, hs, hb⟩ := z
    exact ⟨A', n', k', e1, hs.1, hs.pairs, hb⟩)
  have HL := Lib.hid (show ((b.filter fun z => (tx (keyL 78 [y])).isPrefixOf z.1).map kvOf).length ≤ 2147483647 by rw [List.length_map]; exact Nat.le_trans (List.length_filter_le _ b) hN)
  generalize (b.filter fun z => (tx (keyL 78 [y])).isPrefixOf z.1).map kvOf = ps at HSC HL ⊢
  have HKB := Lib.hid hk1
  clear h hl hN hk1 hall
  go_enter Tryz.func31, Tryz.ntmps31
  go_wp2_with fail
  refine HK1.out.mono ?_
  rintro e w2 ⟨A, k, rfl, ho⟩
  have hb2 := HKB.out.trans (ho.2.mono HKB.out.size)
  have hrk := ho.read (tagL_bytes u8_78 _)
  rw [nYearLen] at hrk
  obtain ⟨A9, k9, e9, hk9, hr9⟩ := hrk
  injection e9 with q1 q2 q3
  subst q1 q3
  have HCS := Lib.hid (HSC.out w2 A k hb2 hr9 hk9)
  have HB2 := Lib.hid hb2
  clear ho hr9 HK1 HKB HSC q2 hb2 hk9
  go_wp2_with fail
  refine HCS.out.mono ?_
  rintro e w3 ⟨A2, n, k2, rfl, hnk, hp, hb3'⟩
  have hb3 := HB2.out.trans (hb3'.mono HB2.out.size)
  have HP := Lib.hid hp
  have HB3 := Lib.hid hb3
  have hn : n ≤ 2147483647 := by rw [← hp.len]; exact HL.out
  clear hp hb3 hb3' HL HCS HB2
  go_wp2_with fail
  go_loopw [5, 7] (fun u i wr => ∃ k : Nat, k ≤ n ∧ i = .int .i64 k ∧ Hid (NdE.Own 50 wr w3.heap.size u (nodesY y (ps.take k)) ∧ PairsN (ps.take k)) ∧ Hid (Below w3.heap.size w3 wr)) (fun _ i _ => n - (intOf i).toNat)
  case atStart => exact ⟨0, Nat.zero_le _, rfl, Lib.hid ⟨Enc.Own.start _ _ _, fun x hx => by cases hx⟩, Lib.hid (Below.refl _ _)⟩
  case round =>
    obtain ⟨k, hk, rfl, hown, hbw⟩ := hrel
    by_cases hlt : k < n
    · have hlt' : (k : Int) < (n : Int) := by omega
      obtain ⟨bb, off, rfl, hbb, hat⟩ := HP.out.2 (by omega)
      obtain ⟨z, hx⟩ : ∃ z, ps[k]? = some z := ⟨_, List.getElem?_eq_getElem (by rw [HP.out.len]; exact hlt)⟩
      obtain ⟨ka, kn, kc, va, vn, vc, h0, h1, h2, ⟨h3a, h3b⟩, h4, ⟨h5a, h5b⟩⟩ := (hat k z hx).keep hbb (fun b o hbb => hbw.out.cell (p := ⟨b, o, none⟩) hbb)
      have hst := nodesY_step (y := y) hx
      have hlen : (nodesY y (ps.take k)).length ≤ k := Nat.le_trans (nodesY_len _ _) (by rw [List.length_take]; exact Nat.min_le_left _ _)
      have hPB := Lib.hid (show PairsN (ps.take (k + 1)) from by
        obtain ⟨hk', e⟩ := List.getElem?_eq_some_iff.1 hx
        rw [List.take_succ_eq_append_getElem hk', e]
        intro z hz
        rcases List.mem_append.1 hz with hz | hz
        · exact hown.out.2 z hz
        · obtain rfl := List.mem_singleton.1 hz
          exact ⟨h2.bytes, h4.bytes⟩)
      have hxok := Lib.hid (show ∀ l, ndK z = some l → NdOk l from fun l h => ndK_ok h2.bytes h4.bytes h)
      have HG := refNodeOf_any ka kn kc va vn vc z w3.heap.size wr (h2) (h4) hbw.out.size h3a h5a h3b h5b
      rw [nodeV_w, ndK_some] at HG
      have HG := Lib.hid HG
      have HA := Lib.hid hbw.out
      have HO := Lib.hid hown.out.1
      unfold ndY at hst
      generalize ndK z = L at HG hst hxok
      have HST := Lib.hid hst
      clear hat hx h2 h4 hown hbw hst
      go_wp2_with fail
      refine HG.out.mono ?_
      rintro e w5 ⟨rfl, hb5⟩
      have ha5 := HA.out.trans (hb5.mono HA.out.size)
      have ho5 := HO.out.below hb5
      clear HA HO HG hb5 h3a h3b h5a h5b h0 h1
      cases L with
      | none =>
        have hX : Below w5.heap.size w5 (w5.alloc (.cells #[.int .i64 0, .int .i64 0, .int .i64 0, .int .i64 0, .int .i64 0, .bool false, .int .i64 0, .int .i64 0, .int .i64 0, .int .i64 0, .int .i64 0, .int .i64 0] 50 (0, 0))) := (Below.refl _ _).alloc (Nat.le_refl _) _
        have HE := Lib.hid (show NdE.Own 50 (w5.alloc (.cells #[.int .i64 0, .int .i64 0, .int .i64 0, .int .i64 0, .int .i64 0, .bool false, .int .i64 0, .int .i64 0, .int .i64 0, .int .i64 0, .int .i64 0, .int .i64 0] 50 (0, 0))) w3.heap.size _ (nodesY y (ps.take (k + 1))) ∧ PairsN (ps.take (k + 1)) from ⟨by rw [HST.out]; show NdE.Own _ _ _ _ (_ ++ []); rw [List.append_nil]; exact ho5.below hX, hPB.out⟩)
        have HBX := Lib.hid (ha5.trans (hX.mono ha5.size))
        clear hX ha5 ho5
        simp only [ndW, ndO, Option.getD_none, ndNil]
        go_wp2_with fail
        go_roundw
        case rel => exact ⟨k + 1, by omega, by go_num, HE, HBX⟩
        case measure => simp [intOf]; omega
      | some l =>
        have hok := hxok.out l rfl
        obtain ⟨a0, a1, a2, a3, a4, a5, a6, a7, a8, a9, a10, a11⟩ := l
        have hX : Below w5.heap.size w5 (w5.alloc (.cells #[.int .i64 a0, .int .i64 a1, .int .i64 a2, .int .i64 a3, .int .i64 a4, .bool a5, .int .i64 a6, .int .i64 a7, .int .i64 a8, .int .i64 a9, .int .i64 a10, .int .i64 a11] 50 (0, 0))) := (Below.refl _ _).alloc (Nat.le_refl _) _
        obtain ⟨wx, hwx⟩ : ∃ wx, wx = w5.alloc (.cells #[.int .i64 a0, .int .i64 a1, .int .i64 a2, .int .i64 a3, .int .i64 a4, .bool a5, .int .i64 a6, .int .i64 a7, .int .i64 a8, .int .i64 a9, .int .i64 a10, .int .i64 a11] 50 (0, 0)) := ⟨_, rfl⟩
        have hblk : wx.heap[w5.heap.size]? = some (.cells #[.int .i64 a0, .int .i64 a1, .int .i64 a2, .int .i64 a3, .int .i64 a4, .bool a5, .int .i64 a6, .int .i64 a7, .int .i64 a8, .int .i64 a9, .int .i64 a10, .int .i64 a11] 50 (0, 0)) := by rw [hwx]; exact heap_alloc_new w5 _
        have hsz : wx.heap.size = w5.heap.size + 1 := by rw [hwx]; simp
        rw [← hwx] at hX
        obtain ⟨r0, r1, r2, r3, r4, r5, r6, r7, r8, r9, r10, r11⟩ := node_cells hblk
        by_cases hye : a0 = y
        · have hyb : (a0 == y) = true := by simp [hye]
          have hY : Below wx.heap.size wx (wx.alloc (.cells #[.int .i64 a0, .int .i64 a1, .int .i64 a2, .int .i64 a3, .int .i64 a4, .bool a5, .int .i64 a6, .int .i64 a7, .int .i64 a8, .int .i64 a9, .int .i64 a10, .int .i64 a11] 50 (0, 0))) := (Below.refl _ _).alloc (Nat.le_refl _) _
          have hXY := hX.trans (hY.mono hX.size)
          obtain ⟨v', w6, hrun, hown6, hb6, _⟩ := (ho5.below hXY).append1 NdT (x := ⟨a0, a1, a2, a3, a4, a5, a6, a7, a8, a9, a10, a11⟩) (heap_alloc_new wx _) rfl hok (by omega) (Nat.le_trans ha5.size hXY.size) 40
          rw [hsz] at hrun
          have HE := Lib.hid (show NdE.Own 50 w6 w3.heap.size v' (nodesY y (ps.take (k + 1))) ∧ PairsN (ps.take (k + 1)) from ⟨by rw [HST.out]; simp only [if_pos hye]; exact hown6, hPB.out⟩)
          have HBX := Lib.hid ((ha5.trans (hXY.mono ha5.size)).trans hb6)
          subst hwx
          have HRUN := Lib.hid hrun
          clear hX hY hXY ha5 ho5 hrun hown6 hb6 hblk hok hsz hye
          simp only [ndW, ndO, Option.getD_some]
          go_wp2_with (at_builtin; refine Lib.wpList_append_run _ rfl _ _ _ _ rfl _ _ rfl rfl _ _ HRUN.out ?_)
          go_roundw
          case rel => exact ⟨k + 1, by omega, by go_num, HE, HBX⟩
          case measure => simp [intOf]; omega
        · have hyb : (a0 == y) = false := by simp [hye]
          have HE := Lib.hid (show NdE.Own 50 wx w3.heap.size _ (nodesY y (ps.take (k + 1))) ∧ PairsN (ps.take (k + 1)) from ⟨by rw [HST.out]; simp only [if_neg hye]; show NdE.Own _ _ _ _ (_ ++ []); rw [List.append_nil]; exact ho5.below hX, hPB.out⟩)
          have HBX := Lib.hid (ha5.trans (hX.mono ha5.size))
          subst hwx
          clear hX ha5 ho5 hblk hok hsz hye
          simp only [ndW, ndO, Option.getD_some]
          go_wp2_with fail
          go_roundw
          case rel => exact ⟨k + 1, by omega, by go_num, HE, HBX⟩
          case measure => simp [intOf]; omega
    · obtain rfl : k = n := by omega
      have HE := Lib.hid (show NodesR w wr _ (nodesY y ps) from by
        have h := hown.out
        rw [List.take_of_length_le (by rw [HP.out.len]; exact Nat.le_refl _)] at h
        exact ⟨h.1.base_le HB3.out.size, nodesY_ok h.2, HB3.out.trans (hbw.out.mono HB3.out.size)⟩)
      clear hown
      go_wp2
      go_ret
      exact ⟨_, rfl, HE.out⟩
set_option maxHeartbeats 3200000 in
theorem rKidsN_any (h : RefAt w X x p q r a b d) (hl : Link S a b d) (hN : b.length ≤ 2147483647) (hNs : S.nowL.length ≤ 2147483647) (y i : Int) (hy : Nd64 y) :
    Calls Tryz.prog 27 #[.pointer (some ⟨x, 0, none⟩), .int .i64 y, .int .i64 i] w fun e w' => ∃ u, e = .returned u ∧ NodesR w w' u (kidsN S y i) := by
  have HL := Lib.hid (rAllN_any h hl hN y hy)
  have hlen : (allN S y).length ≤ 2147483647 := by
    unfold allN
    split
    · refine Nat.le_trans (nodesK_len _) ?_
      rw [List.length_map]
      exact Nat.le_trans (List.length_filter_le _ _) hNs
    · exact Nat.zero_le _
  unfold kidsN
  generalize allN S y = L at HL hlen ⊢
  clear h hl hN hNs hy
  go_enter Tryz.func27, Tryz.ntmps27
  go_wp2_with fail
  refine HL.out.mono ?_
  rintro e w2 ⟨u, rfl, hown, hok, hb2⟩
  obtain ⟨A, kc, rfl, hkc⟩ := hown.shape
  have HR := Lib.hid (hown.read hok).2.2
  have HB2 := Lib.hid hb2
  have HOK := Lib.hid hok
  have HLEN := Lib.hid hlen
  obtain ⟨n, hn⟩ : ∃ n, n = L.length := ⟨_, rfl⟩
  rw [← hn] at HR HLEN hkc ⊢
  have HNE := Lib.hid hn
  have hn31 : n ≤ 2147483647 := HLEN.out
  clear hown hok hb2 hlen HL hn
  go_wp2_with fail
  go_loopw [7, 9] (fun u iv wr => ∃ k : Nat, k ≤ n ∧ iv = .int .i64 k ∧ Hid (NdE.Own 50 wr w2.heap.size u ((L.take k).filter fun z => z.p == i)) ∧ Hid (Below w2.heap.size w2 wr)) (fun _ iv _ => n - (intOf iv).toNat)
  case atStart => exact ⟨0, Nat.zero_le _, rfl, Lib.hid (Enc.Own.start _ _ _), Lib.hid (Below.refl _ _)⟩
  case round =>
    obtain ⟨k, hk, rfl, hown, hbw⟩ := hrel
    by_cases hlt : k < n
    · have hlt' : (k : Int) < (n : Int) := by omega
      obtain ⟨z, hz⟩ : ∃ z, L[k]? = some z := ⟨_, List.getElem?_eq_getElem (by rw [← HNE.out]; exact hlt)⟩
      have hok := HOK.out z (List.mem_of_getElem? hz)
      obtain ⟨bb, off, rfl, hbb, hat⟩ := nd_at (HR.out.below hbw.out) hz
      obtain ⟨c0, c1, c2, c3, c4, c5, c6, c7, c8, c9, c10, c11⟩ := ndAt hat
      have hst : (L.take (k + 1)).filter (fun z => z.p == i) = (L.take k).filter (fun z => z.p == i) ++ (if z.p == i then [z] else []) := by
        obtain ⟨hk', e⟩ := List.getElem?_eq_some_iff.1 hz
        rw [List.take_succ_eq_append_getElem hk', e, List.filter_append]
        congr 1
        rw [List.filter_cons]
        split <;> rfl
      have hlen : ((L.take k).filter fun z => z.p == i).length ≤ k := Nat.le_trans (List.length_filter_le _ _) (by rw [List.length_take]; exact Nat.min_le_left _ _)
      obtain ⟨a0, a1, a2, a3, a4, a5, a6, a7, a8, a9, a10, a11⟩ := z
      simp only at hst
      by_cases hpi : a2 = i
      · have hpb : (a2 == i) = true := by simp [hpi]
        rw [hpb, if_pos rfl] at hst
        have hY : Below wr.heap.size wr (wr.alloc (.cells #[.int .i64 a0, .int .i64 a1, .int .i64 a2, .int .i64 a3, .int .i64 a4, .bool a5, .int .i64 a6, .int .i64 a7, .int .i64 a8, .int .i64 a9, .int .i64 a10, .int .i64 a11] 50 (0, 0))) := (Below.refl _ _).alloc (Nat.le_refl _) _
        obtain ⟨v', w6, hrun, hown6, hb6, _⟩ := (hown.out.below hY).append1 NdT (x := ⟨a0, a1, a2, a3, a4, a5, a6, a7, a8, a9, a10, a11⟩) (heap_alloc_new wr _) rfl hok (by omega) (Nat.le_trans hbw.out.size hY.size) 40
        have HE := Lib.hid (show NdE.Own 50 w6 w2.heap.size v' ((L.take (k + 1)).filter fun z => z.p == i) from by rw [hst]; exact hown6)
        have HBX := Lib.hid ((hbw.out.trans (hY.mono hbw.out.size)).trans hb6)
        have HRUN := Lib.hid hrun
        clear hY hrun hown6 hb6 hok hpi hat hz hst hown hbw
        go_wp2_with (at_builtin; refine Lib.wpList_append_run _ rfl _ _ _ _ rfl _ _ rfl rfl _ _ HRUN.out ?_)
        go_roundw
        case rel => exact ⟨k + 1, by omega, by go_num, HE, HBX⟩
        case measure => simp [intOf]; omega
      · have hpb : (a2 == i) = false := by simp [hpi]
        rw [hpb, if_neg (by decide), List.append_nil] at hst
        have HE := Lib.hid (show NdE.Own 50 wr w2.heap.size _ ((L.take (k + 1)).filter fun z => z.p == i) from by rw [hst]; exact hown.out)
        clear hok hpi hat hz hst hown
        go_wp2_with fail
        go_roundw
        case rel => exact ⟨k + 1, by omega, by go_num, HE, hbw⟩
        case measure => simp [intOf]; omega
    · obtain rfl : k = n := by omega
      have HE := Lib.hid (show NodesR w wr _ (L.filter fun z => z.p == i) from by
        have h := hown.out
        rw [List.take_of_length_le (by rw [← HNE.out]; exact Nat.le_refl _)] at h
        exact ⟨h.base_le HB2.out.size, (fun z hz => HOK.out z (List.mem_filter.1 hz).1), HB2.out.trans (hbw.out.mono HB2.out.size)⟩)
      clear hown
      go_wp2
      go_ret
      exact ⟨_, rfl, HE.out⟩
set_option maxHeartbeats 6400000 in
theorem rPathN_any (h : RefAt w X x p q r a b d) (hl : ∀ z, lookT b z = S.now z) (hN : b.length ≤ 2147483647) (y i : Int) (hy : Nd64 y) (hi : Nd64 i) :
    Calls Tryz.prog 29 #[.pointer (some ⟨x, 0, none⟩), .int .i64 y, .int .i64 i] w fun e w' => ∃ u, e = .returned u ∧ NodesR w w' u (pathN S y 8 i) := by
  obtain ⟨w1, hw1⟩ : ∃ w1, w1 = w := ⟨_, rfl⟩
  have HB := Lib.hid (show Below w.heap.size w w1 by rw [hw1]; exact Below.refl _ _)
  have HV := Lib.hid (show ∀ W, Below w1.heap.size w1 W → RefAt W X x p q r a b d from fun W hW => h.below (by rw [hw1] at hW; exact hW))
  have HY := Lib.hid hy
  have HS1 := Lib.hid (show w1.heap.size = w.heap.size by rw [hw1])
  have HI := Lib.hid hi
  have HN := Lib.hid hN
  have HLK := Lib.hid hl
  clear h hy hi hN hl
  rw [show Calls Tryz.prog 29 #[.pointer (some ⟨x, 0, none⟩), .int .i64 y, .int .i64 i] w = Calls Tryz.prog 29 #[.pointer (some ⟨x, 0, none⟩), .int .i64 y, .int .i64 i] w1 by rw [hw1]]
  clear hw1
  go_enter Tryz.func29, Tryz.ntmps29
  go_wp2_with fail
  go_loopw [2, 7] (fun iv u wr => ∃ (j : Int) (l : List Nd) (A : Option Addr) (k : Nat), iv = .int .i64 j ∧ u = .slice A l.length k ∧ l.length ≤ 8 ∧ Hid (NdE.Own 50 wr w1.heap.size (.slice A l.length k) l ∧ (∀ x ∈ l, NdOk x) ∧ Nd64 j ∧ pathN S y 8 i = l ++ pathN S y (8 - l.length) j) ∧ Hid (Below w1.heap.size w1 wr)) (fun _ u _ => 8 - sliceLen u)
  case atStart => exact ⟨i, [], none, 0, rfl, rfl, by simp, Lib.hid ⟨Enc.Own.start _ _ _, (fun x hx => by cases hx), HI.out, rfl⟩, Lib.hid (Below.refl _ _)⟩
  case round =>
    obtain ⟨j, l, A, k, rfl, rfl, hl8, hown, hbw⟩ := hrel
    obtain ⟨ho, hlok, hj, hp⟩ := hown.out
    by_cases hlt : l.length < 8
    · have hlt' : (l.length : Int) < 8 := by omega
      obtain ⟨k8, hk8⟩ : ∃ k8, 8 - l.length = k8 + 1 := ⟨7 - l.length, by omega⟩
      have HG := Lib.hid (rGetN_any (HV.out wr hbw.out) HLK.out HN.out y j HY.out hj)
      rw [hk8] at hp
      have HPN := Lib.hid (fun (q : nodeAt S y j = none) => show pathN S y 8 i = l from by rw [hp, pathN_none q, List.append_nil])
      have HPZ := Lib.hid (fun (n : Nd) (q : nodeAt S y j = some n) (q0 : n.p = 0) => show pathN S y 8 i = l ++ [n] from by rw [hp, pathN_zero q q0])
      have HPM := Lib.hid (fun (n : Nd) (q : nodeAt S y j = some n) (q0 : n.p ≠ 0) => show pathN S y 8 i = (l ++ [n]) ++ pathN S y (8 - (l ++ [n]).length) n.p from by
        rw [hp, pathN_more q q0, List.append_assoc, List.length_append, List.length_singleton, show 8 - (l.length + 1) = k8 by omega]; rfl)
      have HOW := Lib.hid (And.intro ho hlok)
      have hBW := hbw.out
      generalize nodeAt S y j = o at HG HPN HPZ HPM
      clear ho hlok hp hown hk8
      go_wp2_with fail
      refine HG.out.mono ?_
      rintro e w5 ⟨rfl, hno, hb5⟩
      have ha5 := hBW.trans (hb5.mono hBW.size)
      have ho5 := HOW.out.1.below hb5
      cases o with
      | none =>
        have hX : Below w5.heap.size w5 (w5.alloc (.cells #[.int .i64 0, .int .i64 0, .int .i64 0, .int .i64 0, .int .i64 0, .bool false, .int .i64 0, .int .i64 0, .int .i64 0, .int .i64 0, .int .i64 0, .int .i64 0] 50 (0, 0))) := (Below.refl _ _).alloc (Nat.le_refl _) _
        have HE := Lib.hid (show NodesR w (w5.alloc (.cells #[.int .i64 0, .int .i64 0, .int .i64 0, .int .i64 0, .int .i64 0, .bool false, .int .i64 0, .int .i64 0, .int .i64 0, .int .i64 0, .int .i64 0, .int .i64 0] 50 (0, 0))) (.slice A l.length k) (pathN S y 8 i) from by
          rw [HPN.out rfl]
          exact ⟨(ho5.below hX).base_le (by have := HS1.out; omega), HOW.out.2, HB.out.trans ((ha5.trans (hX.mono ha5.size)).mono HB.out.size)⟩)
        clear hX ha5 ho5 HPN HPZ HPM HG hno hb5 hbw hBW
        simp only [ndW, ndO, Option.getD_none, ndNil]
        go_wp2_with fail
        go_ret
        exact ⟨_, rfl, HE.out⟩
      | some n =>
        have hok := hno n rfl
        have hcl : NdOk n := hok
        obtain ⟨a0, a1, a2, a3, a4, a5, a6, a7, a8, a9, a10, a11⟩ := n
        have hX : Below w5.heap.size w5 (w5.alloc (.cells #[.int .i64 a0, .int .i64 a1, .int .i64 a2, .int .i64 a3, .int .i64 a4, .bool a5, .int .i64 a6, .int .i64 a7, .int .i64 a8, .int .i64 a9, .int .i64 a10, .int .i64 a11] 50 (0, 0))) := (Below.refl _ _).alloc (Nat.le_refl _) _
        obtain ⟨wx, hwx⟩ : ∃ wx, wx = w5.alloc (.cells #[.int .i64 a0, .int .i64 a1, .int .i64 a2, .int .i64 a3, .int .i64 a4, .bool a5, .int .i64 a6, .int .i64 a7, .int .i64 a8, .int .i64 a9, .int .i64 a10, .int .i64 a11] 50 (0, 0)) := ⟨_, rfl⟩
        have hblk : wx.heap[w5.heap.size]? = some (.cells #[.int .i64 a0, .int .i64 a1, .int .i64 a2, .int .i64 a3, .int .i64 a4, .bool a5, .int .i64 a6, .int .i64 a7, .int .i64 a8, .int .i64 a9, .int .i64 a10, .int .i64 a11] 50 (0, 0)) := by rw [hwx]; exact heap_alloc_new w5 _
        have hsz : wx.heap.size = w5.heap.size + 1 := by rw [hwx]; simp
        rw [← hwx] at hX
        obtain ⟨r0, r1, r2, r3, r4, r5, r6, r7, r8, r9, r10, r11⟩ := node_cells hblk
        have hY : Below wx.heap.size wx (wx.alloc (.cells #[.int .i64 a0, .int .i64 a1, .int .i64 a2, .int .i64 a3, .int .i64 a4, .bool a5, .int .i64 a6, .int .i64 a7, .int .i64 a8, .int .i64 a9, .int .i64 a10, .int .i64 a11] 50 (0, 0))) := (Below.refl _ _).alloc (Nat.le_refl _) _
        have hXY := hX.trans (hY.mono hX.size)
        obtain ⟨v', w6, hrun, hown6, hb6, hg, hgr⟩ := (ho5.below hXY).append1 NdT (x := ⟨a0, a1, a2, a3, a4, a5, a6, a7, a8, a9, a10, a11⟩) (heap_alloc_new wx _) rfl hok (by omega) (Nat.le_trans ha5.size hXY.size) 40
        rw [hsz] at hrun
        obtain ⟨A6, k6, rfl, hk6⟩ := hown6.shape
        have hlen6 : (l ++ [(⟨a0, a1, a2, a3, a4, a5, a6, a7, a8, a9, a10, a11⟩ : Nd)]).length = l.length + 1 := by rw [List.length_append]; rfl
        rw [hlen6] at hrun hown6
        have HBX := Lib.hid ((ha5.trans (hXY.mono ha5.size)).trans hb6)
        have hcell2 : w6.cell? ⟨w5.heap.size, 2, none⟩ = some (.int .i64 a2) := by
          have hno : (Value.slice A l.length k).ownBlock ≠ some w5.heap.size := fun q => Nat.lt_irrefl _ ((ho5.at_ _ q).2)
          have hb := (hg.block w5.heap.size (by show w5.heap.size < (wx.alloc _).heap.size; have := hY.size; omega) (fun q => hno q.symm)).trans (hY.block _ (by omega))
          exact (World.cell?_of_block (a := ⟨w5.heap.size, 2, none⟩) hb).trans r2
        have hl' : ∀ x ∈ l ++ [(⟨a0, a1, a2, a3, a4, a5, a6, a7, a8, a9, a10, a11⟩ : Nd)], NdOk x := fun x hx => by
          rcases List.mem_append.1 hx with hx | hx
          · exact HOW.out.2 x hx
          · obtain rfl := List.mem_singleton.1 hx
            exact hok
        have HL' := Lib.hid hl'
        have HO6 := Lib.hid hown6
        have HA2 := Lib.hid (show Nd64 a2 from hcl _ (by simp))
        by_cases h0 : a2 = 0
        · have h0' : (a2 == 0) = true := by simp [h0]
          have HE := Lib.hid (show NodesR w w6 (.slice A6 (l.length + 1) k6) (pathN S y 8 i) from by
            rw [HPZ.out _ rfl h0]
            have q := HO6.out
            exact ⟨q.base_le (by have := HS1.out; omega), HL'.out, HB.out.trans (HBX.out.mono HB.out.size)⟩)
          have HRUN := Lib.hid hrun
          subst hwx
          clear hX hY hXY ha5 ho5 HPN HPZ HPM HG hno hb5 hbw hBW hrun hown6 hb6 hblk hok hcl hsz hl' hgr hk6 hlen6 h0
          simp only [ndW, ndO, Option.getD_some]
          go_wp2_with (at_builtin; refine Lib.wpList_append_run _ rfl _ _ _ _ rfl _ _ rfl rfl _ _ HRUN.out ?_)
          go_ret
          exact ⟨_, rfl, HE.out⟩
        · have h0' : (a2 == 0) = false := by simp [h0]
          have HE := Lib.hid (show NdE.Own 50 w6 w1.heap.size (.slice A6 (l ++ [(⟨a0, a1, a2, a3, a4, a5, a6, a7, a8, a9, a10, a11⟩ : Nd)]).length k6) (l ++ [⟨a0, a1, a2, a3, a4, a5, a6, a7, a8, a9, a10, a11⟩]) ∧ (∀ x ∈ l ++ [(⟨a0, a1, a2, a3, a4, a5, a6, a7, a8, a9, a10, a11⟩ : Nd)], NdOk x) ∧ Nd64 a2 ∧ pathN S y 8 i = (l ++ [⟨a0, a1, a2, a3, a4, a5, a6, a7, a8, a9, a10, a11⟩]) ++ pathN S y (8 - (l ++ [(⟨a0, a1, a2, a3, a4, a5, a6, a7, a8, a9, a10, a11⟩ : Nd)]).length) a2 from
            ⟨by rw [hlen6]; exact HO6.out, HL'.out, HA2.out, HPM.out _ rfl h0⟩)
          have HLEN := Lib.hid hlen6
          have HRUN := Lib.hid hrun
          subst hwx
          clear hX hY hXY ha5 ho5 HPN HPZ HPM HG hno hb5 hbw hBW hrun hown6 hb6 hblk hok hcl hsz hl' hgr hk6 hlen6 h0
          simp only [ndW, ndO, Option.getD_some]
          go_wp2_with (at_builtin; refine Lib.wpList_append_run _ rfl _ _ _ _ rfl _ _ rfl rfl _ _ HRUN.out ?_)
          go_roundw
          case rel => exact ⟨a2, _, A6, k6, rfl, by rw [HLEN.out], by rw [HLEN.out]; omega, HE, HBX⟩
          case measure => simp [sliceLen]; omega
    · have hl : l.length = 8 := by omega
      have HE := Lib.hid (show NodesR w wr (.slice A l.length k) (pathN S y 8 i) from by
        rw [hp, hl]
        show NodesR _ _ _ (l ++ pathN S y 0 j)
        unfold pathN
        rw [List.append_nil, ← hl]
        exact ⟨ho.base_le (by have := HS1.out; omega), hlok, HB.out.trans (hbw.out.mono HB.out.size)⟩)
      clear ho hlok hp hown
      go_wp2
      go_ret
      exact ⟨_, rfl, HE.out⟩
end
end Go.Proofs.YtilhcchnlbdlhaaGreat
