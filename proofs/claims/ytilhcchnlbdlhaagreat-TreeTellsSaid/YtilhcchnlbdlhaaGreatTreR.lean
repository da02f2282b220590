/-
  The document's tree by contract: the node, Put, a year's nodes, those below one, the path above one, Used, Given. Conditions: which numbers are ints.
-/
import Derived.Test.YtilhcchnlbdlhaaGreatTreD
import Derived.Test.YtilhcchnlbdlhaaGreatRefF
import Derived.Test.YtilhcchnlbdlhaaGreatRecG
import Derived.Test.YtilhcchnlbdlhaaGreatSeqG
namespace Go.Proofs.YtilhcchnlbdlhaaGreat
open Go.RowKit Go.Maps
set_option maxRecDepth 100000
set_option linter.unusedVariables false

section
variable {w w' : World} {X : Nat → Prop} {x p q r : Nat} {a b d : TL} {S : VS}
set_option maxHeartbeats 6400000 in
theorem rGetN_any (h : RefAt w X x p q r a b d) (hl : ∀ z, lookT b z = S.now z) (hN : b.length ≤ 2147483647) (y i : Int) (hy : Nd64 y) (hi : Nd64 i) :
    Calls Tryz.prog 24 #[.pointer (some ⟨x, 0, none⟩), .int .i64 y, .int .i64 i] w fun e w' => e = .returned (.tuple #[ndW (nodeAt S y i), .bool (nodeAt S y i).isSome]) ∧ NodeIs (nodeAt S y i) ∧ Below w.heap.size w w' := by
  obtain ⟨w1, hw1⟩ : ∃ w1, w1 = w.alloc (.cells #[.int .i64 0, .int .i64 0, .int .i64 0, .int .i64 0, .int .i64 0, .bool false, .int .i64 0, .int .i64 0, .int .i64 0, .int .i64 0, .int .i64 0, .int .i64 0] 50) := ⟨_, rfl⟩
  have hb1 : Below w.heap.size w w1 := by rw [hw1]; exact (Below.refl _ _).alloc (Nat.le_refl _) _
  have hz1 : w1.heap[w.heap.size]? = some (.cells #[.int .i64 0, .int .i64 0, .int .i64 0, .int .i64 0, .int .i64 0, .bool false, .int .i64 0, .int .i64 0, .int .i64 0, .int .i64 0, .int .i64 0, .int .i64 0] 50 (0, 0)) := by rw [hw1]; exact heap_alloc_new w _
  have hs1 : w1.heap.size = w.heap.size + 1 := by rw [hw1]; simp
  have HS1 := Lib.hid hs1
  have HZ := Lib.hid (show ∀ W, Below w1.heap.size w1 W → W.heap[w.heap.size]? = some (.cells #[.int .i64 0, .int .i64 0, .int .i64 0, .int .i64 0, .int .i64 0, .bool false, .int .i64 0, .int .i64 0, .int .i64 0, .int .i64 0, .int .i64 0, .int .i64 0] 50 (0, 0)) from fun W hW => (hW.block _ (by omega)).trans hz1)
  have HB := Lib.hid hb1
  have HV := Lib.hid (show ∀ W, Below w1.heap.size w1 W → RefAt W X x p q r a b d from fun W hW => h.below (hb1.trans (hW.mono hb1.size)))
  have HN := Lib.hid hN
  have HL := Lib.hid hl
  have hk1 : Below w1.heap.size w1 (w1.alloc (.cells #[.int .i64 y, .int .i64 i] 3)) := (Below.refl _ _).alloc (Nat.le_refl _) _
  have HK1 := Lib.hid (rkey_at 78 [y, i] 2 9 u8_78 (fun z hz => by
    simp only [List.mem_cons, List.not_mem_nil, or_false] at hz
    rcases hz with rfl | rfl
    · exact hy
    · exact hi) rfl (by omega) rfl (w1.alloc (.cells #[.int .i64 y, .int .i64 i] 3)) w1.heap.size (RowN.a' (l := [y, i]) w1 3))
  have HKB := Lib.hid hk1
  clear hk1 hb1 hs1 hN hl
  cases e0 : S.now (nKy y i) with
  | none =>
    have HE0 := Lib.hid e0
    have HE1 := Lib.hid (show ndK (keyL 78 [y, i], (none : Option (List Int)).getD []) = none from ndK_nil y i)
    rw [show nodeAt S y i = none by rw [nodeAt_ref, e0]]
    clear e0
    clear hz1 h
    go_enter Tryz.func24, Tryz.ntmps24
    go_wp2_with fail
    rw [← hw1, ← HS1.out]
    clear hw1
    refine HK1.out.mono ?_
    rintro e w3 ⟨A, k, rfl, ho⟩
    have hb3 := HKB.out.trans (ho.2.mono HKB.out.size)
    obtain ⟨A', k', e', hk', hr⟩ := ho.read (tagL_bytes u8_78 _)
    rw [nKyLen] at e' hr hk'
    injection e' with q1 q2 q3
    subst q1 q3
    have HGT := rvGet_any (k := k) (HV.out w3 hb3) HN.out hr (Nat.le_refl _)
    rw [HL.out (nKy y i), HE0.out] at HGT
    have HGT := Lib.hid HGT
    have HR := Lib.hid hr
    have HB3 := Lib.hid hb3
    clear ho hb3 hr HK1 HKB q2
    go_wp2_with fail
    refine HGT.out.mono ?_
    rintro e w4 ⟨u, rfl, hs, hb4⟩
    obtain ⟨Au, nu, ku, rfl, hu1, hu2, hu3, _⟩ := hs
    have HO := refNodeOf_any A 9 k Au nu ku (keyL 78 [y, i], (none).getD []) _ w4 ((HR.out.below hb4).more hb4.size) hu3 (Nat.le_refl _) hk' hu1 (by decide) (Nat.le_trans hu2 (by unfold maxLen; omega))
    rw [nodeV_w, ndK_some, HE1.out] at HO
    have HO := Lib.hid HO
    have HB4 := Lib.hid (HB3.out.trans (hb4.mono HB3.out.size))
    clear hu1 hu2 hu3 hb4 HGT HR HB3 HV
    simp only [Option.isSome_none]
    go_wp2_with fail
    refine HO.out.mono ?_
    rintro e w5 ⟨rfl, hb5⟩
    have hb25 := HB4.out.trans (hb5.mono HB4.out.size)
    obtain ⟨wx, hwx⟩ : ∃ wx, wx = w5.alloc (.cells #[.int .i64 0, .int .i64 0, .int .i64 0, .int .i64 0, .int .i64 0, .bool false, .int .i64 0, .int .i64 0, .int .i64 0, .int .i64 0, .int .i64 0, .int .i64 0] 50 (0, 0)) := ⟨_, rfl⟩
    have hbx : Below w5.heap.size w5 wx := by rw [hwx]; exact (Below.refl _ _).alloc (Nat.le_refl _) _
    have gx : wx.heap[w5.heap.size]? = some (.cells #[.int .i64 0, .int .i64 0, .int .i64 0, .int .i64 0, .int .i64 0, .bool false, .int .i64 0, .int .i64 0, .int .i64 0, .int .i64 0, .int .i64 0, .int .i64 0] 50 (0, 0)) := by rw [hwx]; exact heap_alloc_new w5 _
    obtain ⟨n0, n1, n2, n3, n4, n5, n6, n7, n8, n9, n10, n11⟩ := node_cells gx
    have hbe := hb25.trans (hbx.mono hb25.size)
    have dz := HZ.out wx hbe
    obtain ⟨G1, G2⟩ := ndBox dz rfl (HB.out.trans (hbe.mono HB.out.size)) (Nat.le_refl _) ndNil
    have HG := Lib.hid G1
    have HE := Lib.hid G2
    obtain ⟨z0, z1, z2, z3, z4, z5, z6, z7, z8, z9, z10, z11⟩ := node_cells dz
    have f0 := ndFree dz 0
    have f1 := ndFree dz 1
    have f2 := ndFree dz 2
    have f3 := ndFree dz 3
    have f4 := ndFree dz 4
    have f5 := ndFree dz 5
    have f6 := ndFree dz 6
    have f7 := ndFree dz 7
    have f8 := ndFree dz 8
    have f9 := ndFree dz 9
    have f10 := ndFree dz 10
    have f11 := ndFree dz 11
    clear G1 G2 dz hb5 hb25 HO HB4 hbx gx hbe HE0 HE1 HL HN HZ HB
    simp only [ndW, ndO, Option.getD_none, ndNil]
    rw [hwx] at n0 n1 n2 n3 n4 n5 n6 n7 n8 n9 n10 n11 z0 z1 z2 z3 z4 z5 z6 z7 z8 z9 z10 z11 f0 f1 f2 f3 f4 f5 f6 f7 f8 f9 f10 f11 HG HE
    clear hwx
    go_wp2_with fail
    refine bodyPost_ret (results_ct rfl _ w.heap.size _ rfl (run_loadVar_row _ _ _ _ _ (0, 0) _ HG.out Tryz.underlying50 rfl node_size)) rfl ?_
    exact ⟨rfl, (fun n h => by cases h), HE.out⟩
  | some bb =>
    have HE0 := Lib.hid e0
    cases e1 : ndK (keyL 78 [y, i], bb) with
    | none =>
      have HE1 := Lib.hid (show ndK (keyL 78 [y, i], (some bb).getD []) = none from e1)
      rw [show nodeAt S y i = none by rw [nodeAt_ref, e0]; simp only [e1]]
      clear e0 e1
      clear hz1 h
      go_enter Tryz.func24, Tryz.ntmps24
      go_wp2_with fail
      rw [← hw1, ← HS1.out]
      clear hw1
      refine HK1.out.mono ?_
      rintro e w3 ⟨A, k, rfl, ho⟩
      have hb3 := HKB.out.trans (ho.2.mono HKB.out.size)
      obtain ⟨A', k', e', hk', hr⟩ := ho.read (tagL_bytes u8_78 _)
      rw [nKyLen] at e' hr hk'
      injection e' with q1 q2 q3
      subst q1 q3
      have HGT := rvGet_any (k := k) (HV.out w3 hb3) HN.out hr (Nat.le_refl _)
      rw [HL.out (nKy y i), HE0.out] at HGT
      have HGT := Lib.hid HGT
      have HR := Lib.hid hr
      have HB3 := Lib.hid hb3
      clear ho hb3 hr HK1 HKB q2
      go_wp2_with fail
      refine HGT.out.mono ?_
      rintro e w4 ⟨u, rfl, hs, hb4⟩
      obtain ⟨Au, nu, ku, rfl, hu1, hu2, hu3, _⟩ := hs
      have HO := refNodeOf_any A 9 k Au nu ku (keyL 78 [y, i], (some bb).getD []) _ w4 ((HR.out.below hb4).more hb4.size) hu3 (Nat.le_refl _) hk' hu1 (by decide) (Nat.le_trans hu2 (by unfold maxLen; omega))
      rw [nodeV_w, ndK_some, HE1.out] at HO
      have HO := Lib.hid HO
      have HB4 := Lib.hid (HB3.out.trans (hb4.mono HB3.out.size))
      clear hu1 hu2 hu3 hb4 HGT HR HB3 HV
      simp only [Option.isSome_some]
      go_wp2_with fail
      refine HO.out.mono ?_
      rintro e w5 ⟨rfl, hb5⟩
      have hb25 := HB4.out.trans (hb5.mono HB4.out.size)
      obtain ⟨wx, hwx⟩ : ∃ wx, wx = w5.alloc (.cells #[.int .i64 0, .int .i64 0, .int .i64 0, .int .i64 0, .int .i64 0, .bool false, .int .i64 0, .int .i64 0, .int .i64 0, .int .i64 0, .int .i64 0, .int .i64 0] 50 (0, 0)) := ⟨_, rfl⟩
      have hbx : Below w5.heap.size w5 wx := by rw [hwx]; exact (Below.refl _ _).alloc (Nat.le_refl _) _
      have gx : wx.heap[w5.heap.size]? = some (.cells #[.int .i64 0, .int .i64 0, .int .i64 0, .int .i64 0, .int .i64 0, .bool false, .int .i64 0, .int .i64 0, .int .i64 0, .int .i64 0, .int .i64 0, .int .i64 0] 50 (0, 0)) := by rw [hwx]; exact heap_alloc_new w5 _
      obtain ⟨n0, n1, n2, n3, n4, n5, n6, n7, n8, n9, n10, n11⟩ := node_cells gx
      have hbe := hb25.trans (hbx.mono hb25.size)
      have dz := HZ.out wx hbe
      obtain ⟨G1, G2⟩ := ndBox dz rfl (HB.out.trans (hbe.mono HB.out.size)) (Nat.le_refl _) ndNil
      have HG := Lib.hid G1
      have HE := Lib.hid G2
      obtain ⟨z0, z1, z2, z3, z4, z5, z6, z7, z8, z9, z10, z11⟩ := node_cells dz
      have f0 := ndFree dz 0
      have f1 := ndFree dz 1
      have f2 := ndFree dz 2
      have f3 := ndFree dz 3
      have f4 := ndFree dz 4
      have f5 := ndFree dz 5
      have f6 := ndFree dz 6
      have f7 := ndFree dz 7
      have f8 := ndFree dz 8
      have f9 := ndFree dz 9
      have f10 := ndFree dz 10
      have f11 := ndFree dz 11
      clear G1 G2 dz hb5 hb25 HO HB4 hbx gx hbe HE0 HE1 HL HN HZ HB
      simp only [ndW, ndO, Option.getD_none, ndNil]
      rw [hwx] at n0 n1 n2 n3 n4 n5 n6 n7 n8 n9 n10 n11 z0 z1 z2 z3 z4 z5 z6 z7 z8 z9 z10 z11 f0 f1 f2 f3 f4 f5 f6 f7 f8 f9 f10 f11 HG HE
      clear hwx
      go_wp2_with fail
      refine bodyPost_ret (results_ct rfl _ w.heap.size _ rfl (run_loadVar_row _ _ _ _ _ (0, 0) _ HG.out Tryz.underlying50 rfl node_size)) rfl ?_
      exact ⟨rfl, (fun n h => by cases h), HE.out⟩
    | some n =>
      have HE1 := Lib.hid (show ndK (keyL 78 [y, i], (some bb).getD []) = some n from e1)
      have hre : nodeAt S y i = if n.y = y ∧ n.i = i then some n else none := by rw [nodeAt_ref, e0]; simp only [e1]
      rw [hre]
      clear e0 e1 hre
      by_cases h1 : n.y = y
      · have k1 : (n.y != y) = false := by simp [h1]
        by_cases h2 : n.i = i
        · have k2 : (n.i != i) = false := by simp [h2]
          rw [if_pos ⟨h1, h2⟩]
          clear h1 h2
          clear hz1 h
          go_enter Tryz.func24, Tryz.ntmps24
          go_wp2_with fail
          rw [← hw1, ← HS1.out]
          clear hw1
          refine HK1.out.mono ?_
          rintro e w3 ⟨A, k, rfl, ho⟩
          have hb3 := HKB.out.trans (ho.2.mono HKB.out.size)
          obtain ⟨A', k', e', hk', hr⟩ := ho.read (tagL_bytes u8_78 _)
          rw [nKyLen] at e' hr hk'
          injection e' with q1 q2 q3
          subst q1 q3
          have HGT := rvGet_any (k := k) (HV.out w3 hb3) HN.out hr (Nat.le_refl _)
          rw [HL.out (nKy y i), HE0.out] at HGT
          have HGT := Lib.hid HGT
          have HR := Lib.hid hr
          have HB3 := Lib.hid hb3
          clear ho hb3 hr HK1 HKB q2
          go_wp2_with fail
          refine HGT.out.mono ?_
          rintro e w4 ⟨u, rfl, hs, hb4⟩
          obtain ⟨Au, nu, ku, rfl, hu1, hu2, hu3, _⟩ := hs
          have HO := refNodeOf_any A 9 k Au nu ku (keyL 78 [y, i], (some bb).getD []) _ w4 ((HR.out.below hb4).more hb4.size) hu3 (Nat.le_refl _) hk' hu1 (by decide) (Nat.le_trans hu2 (by unfold maxLen; omega))
          rw [nodeV_w, ndK_some, HE1.out] at HO
          have HO := Lib.hid HO
          have HB4 := Lib.hid (HB3.out.trans (hb4.mono HB3.out.size))
          have HOK := Lib.hid (show NdOk n from ndK_ok (tagL_bytes u8_78 _) hu3.bytes HE1.out)
          clear hu1 hu2 hu3 hb4 HGT HR HB3 HV
          simp only [Option.isSome_some]
          go_wp2_with fail
          refine HO.out.mono ?_
          rintro e w5 ⟨rfl, hb5⟩
          have hb25 := HB4.out.trans (hb5.mono HB4.out.size)
          obtain ⟨wx, hwx⟩ : ∃ wx, wx = w5.alloc (.cells #[.int .i64 n.y, .int .i64 n.i, .int .i64 n.p, .int .i64 n.f, .int .i64 n.o, .bool n.ab, .int .i64 n.li, .int .i64 n.pr, .int .i64 n.en, .int .i64 n.ex, .int .i64 n.la, .int .i64 n.ca] 50 (0, 0)) := ⟨_, rfl⟩
          have hbx : Below w5.heap.size w5 wx := by rw [hwx]; exact (Below.refl _ _).alloc (Nat.le_refl _) _
          have gx : wx.heap[w5.heap.size]? = some (.cells #[.int .i64 n.y, .int .i64 n.i, .int .i64 n.p, .int .i64 n.f, .int .i64 n.o, .bool n.ab, .int .i64 n.li, .int .i64 n.pr, .int .i64 n.en, .int .i64 n.ex, .int .i64 n.la, .int .i64 n.ca] 50 (0, 0)) := by rw [hwx]; exact heap_alloc_new w5 _
          obtain ⟨n0, n1, n2, n3, n4, n5, n6, n7, n8, n9, n10, n11⟩ := node_cells gx
          have hbe := hb25.trans (hbx.mono hb25.size)
          have dz := HZ.out wx hbe
          obtain ⟨G1, G2⟩ := ndBox dz rfl (HB.out.trans (hbe.mono HB.out.size)) (Nat.le_refl _) n
          have HG := Lib.hid G1
          have HE := Lib.hid G2
          obtain ⟨z0, z1, z2, z3, z4, z5, z6, z7, z8, z9, z10, z11⟩ := node_cells dz
          have f0 := ndFree dz 0
          have f1 := ndFree dz 1
          have f2 := ndFree dz 2
          have f3 := ndFree dz 3
          have f4 := ndFree dz 4
          have f5 := ndFree dz 5
          have f6 := ndFree dz 6
          have f7 := ndFree dz 7
          have f8 := ndFree dz 8
          have f9 := ndFree dz 9
          have f10 := ndFree dz 10
          have f11 := ndFree dz 11
          clear G1 G2 dz hb5 hb25 HO HB4 hbx gx hbe HE0 HE1 HL HN HZ HB
          simp only [ndW, ndO, Option.getD_some]
          rw [hwx] at n0 n1 n2 n3 n4 n5 n6 n7 n8 n9 n10 n11 z0 z1 z2 z3 z4 z5 z6 z7 z8 z9 z10 z11 f0 f1 f2 f3 f4 f5 f6 f7 f8 f9 f10 f11 HG HE
          clear hwx
          go_wp2_with fail
          refine bodyPost_ret (results_ct rfl _ w.heap.size _ rfl (run_loadVar_row _ _ _ _ _ (0, 0) _ HG.out Tryz.underlying50 rfl node_size)) rfl ?_
          exact ⟨rfl, (fun z h => by cases h; exact HOK.out), HE.out⟩
        · have k2 : (n.i != i) = true := by simp [h2]
          rw [if_neg (fun hh => h2 hh.2)]
          clear h1 h2
          clear hz1 h
          go_enter Tryz.func24, Tryz.ntmps24
          go_wp2_with fail
          rw [← hw1, ← HS1.out]
          clear hw1
          refine HK1.out.mono ?_
          rintro e w3 ⟨A, k, rfl, ho⟩
          have hb3 := HKB.out.trans (ho.2.mono HKB.out.size)
          obtain ⟨A', k', e', hk', hr⟩ := ho.read (tagL_bytes u8_78 _)
          rw [nKyLen] at e' hr hk'
          injection e' with q1 q2 q3
          subst q1 q3
          have HGT := rvGet_any (k := k) (HV.out w3 hb3) HN.out hr (Nat.le_refl _)
          rw [HL.out (nKy y i), HE0.out] at HGT
          have HGT := Lib.hid HGT
          have HR := Lib.hid hr
          have HB3 := Lib.hid hb3
          clear ho hb3 hr HK1 HKB q2
          go_wp2_with fail
          refine HGT.out.mono ?_
          rintro e w4 ⟨u, rfl, hs, hb4⟩
          obtain ⟨Au, nu, ku, rfl, hu1, hu2, hu3, _⟩ := hs
          have HO := refNodeOf_any A 9 k Au nu ku (keyL 78 [y, i], (some bb).getD []) _ w4 ((HR.out.below hb4).more hb4.size) hu3 (Nat.le_refl _) hk' hu1 (by decide) (Nat.le_trans hu2 (by unfold maxLen; omega))
          rw [nodeV_w, ndK_some, HE1.out] at HO
          have HO := Lib.hid HO
          have HB4 := Lib.hid (HB3.out.trans (hb4.mono HB3.out.size))
          clear hu1 hu2 hu3 hb4 HGT HR HB3 HV
          simp only [Option.isSome_some]
          go_wp2_with fail
          refine HO.out.mono ?_
          rintro e w5 ⟨rfl, hb5⟩
          have hb25 := HB4.out.trans (hb5.mono HB4.out.size)
          obtain ⟨wx, hwx⟩ : ∃ wx, wx = w5.alloc (.cells #[.int .i64 n.y, .int .i64 n.i, .int .i64 n.p, .int .i64 n.f, .int .i64 n.o, .bool n.ab, .int .i64 n.li, .int .i64 n.pr, .int .i64 n.en, .int .i64 n.ex, .int .i64 n.la, .int .i64 n.ca] 50 (0, 0)) := ⟨_, rfl⟩
          have hbx : Below w5.heap.size w5 wx := by rw [hwx]; exact (Below.refl _ _).alloc (Nat.le_refl _) _
          have gx : wx.heap[w5.heap.size]? = some (.cells #[.int .i64 n.y, .int .i64 n.i, .int .i64 n.p, .int .i64 n.f, .int .i64 n.o, .bool n.ab, .int .i64 n.li, .int .i64 n.pr, .int .i64 n.en, .int .i64 n.ex, .int .i64 n.la, .int .i64 n.ca] 50 (0, 0)) := by rw [hwx]; exact heap_alloc_new w5 _
          obtain ⟨n0, n1, n2, n3, n4, n5, n6, n7, n8, n9, n10, n11⟩ := node_cells gx
          have hbe := hb25.trans (hbx.mono hb25.size)
          have dz := HZ.out wx hbe
          obtain ⟨G1, G2⟩ := ndBox dz rfl (HB.out.trans (hbe.mono HB.out.size)) (Nat.le_refl _) ndNil
          have HG := Lib.hid G1
          have HE := Lib.hid G2
          obtain ⟨z0, z1, z2, z3, z4, z5, z6, z7, z8, z9, z10, z11⟩ := node_cells dz
          have f0 := ndFree dz 0
          have f1 := ndFree dz 1
          have f2 := ndFree dz 2
          have f3 := ndFree dz 3
          have f4 := ndFree dz 4
          have f5 := ndFree dz 5
          have f6 := ndFree dz 6
          have f7 := ndFree dz 7
          have f8 := ndFree dz 8
          have f9 := ndFree dz 9
          have f10 := ndFree dz 10
          have f11 := ndFree dz 11
          clear G1 G2 dz hb5 hb25 HO HB4 hbx gx hbe HE0 HE1 HL HN HZ HB
          simp only [ndW, ndO, Option.getD_some]
          rw [hwx] at n0 n1 n2 n3 n4 n5 n6 n7 n8 n9 n10 n11 z0 z1 z2 z3 z4 z5 z6 z7 z8 z9 z10 z11 f0 f1 f2 f3 f4 f5 f6 f7 f8 f9 f10 f11 HG HE
          clear hwx
          go_wp2_with fail
          refine bodyPost_ret (results_ct rfl _ w.heap.size _ rfl (run_loadVar_row _ _ _ _ _ (0, 0) _ HG.out Tryz.underlying50 rfl node_size)) rfl ?_
          exact ⟨rfl, (fun n h => by cases h), HE.out⟩
      · have k1 : (n.y != y) = true := by simp [h1]
        rw [if_neg (fun hh => h1 hh.1)]
        clear h1
        clear hz1 h
        go_enter Tryz.func24, Tryz.ntmps24
        go_wp2_with fail
        rw [← hw1, ← HS1.out]
        clear hw1
        refine HK1.out.mono ?_
        rintro e w3 ⟨A, k, rfl, ho⟩
        have hb3 := HKB.out.trans (ho.2.mono HKB.out.size)
        obtain ⟨A', k', e', hk', hr⟩ := ho.read (tagL_bytes u8_78 _)
        rw [nKyLen] at e' hr hk'
        injection e' with q1 q2 q3
        subst q1 q3
        have HGT := rvGet_any (k := k) (HV.out w3 hb3) HN.out hr (Nat.le_refl _)
        rw [HL.out (nKy y i), HE0.out] at HGT
        have HGT := Lib.hid HGT
        have HR := Lib.hid hr
        have HB3 := Lib.hid hb3
        clear ho hb3 hr HK1 HKB q2
        go_wp2_with fail
        refine HGT.out.mono ?_
        rintro e w4 ⟨u, rfl, hs, hb4⟩
        obtain ⟨Au, nu, ku, rfl, hu1, hu2, hu3, _⟩ := hs
        have HO := refNodeOf_any A 9 k Au nu ku (keyL 78 [y, i], (some bb).getD []) _ w4 ((HR.out.below hb4).more hb4.size) hu3 (Nat.le_refl _) hk' hu1 (by decide) (Nat.le_trans hu2 (by unfold maxLen; omega))
        rw [nodeV_w, ndK_some, HE1.out] at HO
        have HO := Lib.hid HO
        have HB4 := Lib.hid (HB3.out.trans (hb4.mono HB3.out.size))
        clear hu1 hu2 hu3 hb4 HGT HR HB3 HV
        simp only [Option.isSome_some]
        go_wp2_with fail
        refine HO.out.mono ?_
        rintro e w5 ⟨rfl, hb5⟩
        have hb25 := HB4.out.trans (hb5.mono HB4.out.size)
        obtain ⟨wx, hwx⟩ : ∃ wx, wx = w5.alloc (.cells #[.int .i64 n.y, .int .i64 n.i, .int .i64 n.p, .int .i64 n.f, .int .i64 n.o, .bool n.ab, .int .i64 n.li, .int .i64 n.pr, .int .i64 n.en, .int .i64 n.ex, .int .i64 n.la, .int .i64 n.ca] 50 (0, 0)) := ⟨_, rfl⟩
        have hbx : Below w5.heap.size w5 wx := by rw [hwx]; exact (Below.refl _ _).alloc (Nat.le_refl _) _
        have gx : wx.heap[w5.heap.size]? = some (.cells #[.int .i64 n.y, .int .i64 n.i, .int .i64 n.p, .int .i64 n.f, .int .i64 n.o, .bool n.ab, .int .i64 n.li, .int .i64 n.pr, .int .i64 n.en, .int .i64 n.ex, .int .i64 n.la, .int .i64 n.ca] 50 (0, 0)) := by rw [hwx]; exact heap_alloc_new w5 _
        obtain ⟨n0, n1, n2, n3, n4, n5, n6, n7, n8, n9, n10, n11⟩ := node_cells gx
        have hbe := hb25.trans (hbx.mono hb25.size)
        have dz := HZ.out wx hbe
        obtain ⟨G1, G2⟩ := ndBox dz rfl (HB.out.trans (hbe.mono HB.out.size)) (Nat.le_refl _) ndNil
        have HG := Lib.hid G1
        have HE := Lib.hid G2
        obtain ⟨z0, z1, z2, z3, z4, z5, z6, z7, z8, z9, z10, z11⟩ := node_cells dz
        have f0 := ndFree dz 0
        have f1 := ndFree dz 1
        have f2 := ndFree dz 2
        have f3 := ndFree dz 3
        have f4 := ndFree dz 4
        have f5 := ndFree dz 5
        have f6 := ndFree dz 6
        have f7 := ndFree dz 7
        have f8 := ndFree dz 8
        have f9 := ndFree dz 9
        have f10 := ndFree dz 10
        have f11 := ndFree dz 11
        clear G1 G2 dz hb5 hb25 HO HB4 hbx gx hbe HE0 HE1 HL HN HZ HB
        simp only [ndW, ndO, Option.getD_some]
        rw [hwx] at n0 n1 n2 n3 n4 n5 n6 n7 n8 n9 n10 n11 z0 z1 z2 z3 z4 z5 z6 z7 z8 z9 z10 z11 f0 f1 f2 f3 f4 f5 f6 f7 f8 f9 f10 f11 HG HE
        clear hwx
        go_wp2_with fail
        refine bodyPost_ret (results_ct rfl _ w.heap.size _ rfl (run_loadVar_row _ _ _ _ _ (0, 0) _ HG.out Tryz.underlying50 rfl node_size)) rfl ?_
        exact ⟨rfl, (fun n h => by cases h), HE.out⟩
theorem rUsed_any (n : Nd) (w : World) : Calls Tryz.prog 22 #[.agg #[.int .i64 n.y, .int .i64 n.i, .int .i64 n.p, .int .i64 n.f, .int .i64 n.o, .bool n.ab, .int .i64 n.li, .int .i64 n.pr, .int .i64 n.en, .int .i64 n.ex, .int .i64 n.la, .int .i64 n.ca]] w fun e w' => e = .returned (.int .i64 (usedN n)) ∧ Below w.heap.size w w' := by
  have hb : Below w.heap.size w (w.alloc (.cells #[.int .i64 n.y, .int .i64 n.i, .int .i64 n.p, .int .i64 n.f, .int .i64 n.o, .bool n.ab, .int .i64 n.li, .int .i64 n.pr, .int .i64 n.en, .int .i64 n.ex, .int .i64 n.la, .int .i64 n.ca] 50)) := (Below.refl _ _).alloc (Nat.le_refl _) _
  have HB := Lib.hid hb
  unfold usedN
  obtain ⟨y, i, p, f, o, ab, li, pr, en, ex, la, ca⟩ := n
  simp only at HB ⊢
  clear hb
  go_enter Tryz.func22, Tryz.ntmps22
  go_wp2_with fail
  go_ret
  exact ⟨rfl, HB.out⟩
set_option maxHeartbeats 1600000 in
theorem rGiven_any {A : Option Addr} {n c B : Nat} {l : List Nd} (hr : NdE.R w B A n l) (hB : B ≤ w.heap.size) (hn : n ≤ maxLen) :
    Calls Tryz.prog 33 #[.slice A n c] w fun e w' => e = .returned (.int .i64 (givenN l)) ∧ Below w.heap.size w w' := by
  unfold maxLen at hn
  have HR := Lib.hid hr
  clear hr
  go_enter Tryz.func33, Tryz.ntmps33
  go_wp2_with fail
  go_loopw [3, 4] (fun s i wr => ∃ k : Nat, k ≤ n ∧ i = .int .i64 k ∧ s = .int .i64 (givenN (l.take k)) ∧ Hid (Below w.heap.size w wr)) (fun _ i _ => n - (intOf i).toNat)
  case atStart => exact ⟨0, Nat.zero_le _, rfl, rfl, Lib.hid (Below.refl _ _)⟩
  case round =>
    obtain ⟨k, hk, rfl, rfl, hbw⟩ := hrel
    by_cases hlt : k < n
    · have hlt' : (k : Int) < (n : Int) := by omega
      obtain ⟨z, hz⟩ : ∃ z, l[k]? = some z := ⟨_, List.getElem?_eq_getElem (by rw [HR.out.len]; exact hlt)⟩
      obtain ⟨b, off, rfl, hb, hcell⟩ := HR.out.2.2 (by omega)
      have hat := (hcell k z hz).keep hb (fun b o hbb => hbw.out.cell (p := ⟨b, o, none⟩) (Nat.lt_of_lt_of_le hbb hB))
      rw [show NdE.K = 12 from rfl] at hat
      obtain ⟨c0, c1, c2, c3, c4, c5, c6, c7, c8, c9, c10, c11⟩ := ndAt hat
      have hst : givenN (l.take (k + 1)) = wrap64 (givenN (l.take k) + z.li) := by
        obtain ⟨hk', e⟩ := List.getElem?_eq_some_iff.1 hz
        rw [List.take_succ_eq_append_getElem hk', e, givenN_snoc]
      obtain ⟨a0, a1, a2, a3, a4, a5, a6, a7, a8, a9, a10, a11⟩ := z
      have HST := Lib.hid hst
      generalize givenN (l.take k) = s at HST
      clear hcell hz hat hst
      go_wp2_with fail
      go_roundw
      case rel => exact ⟨k + 1, by omega, by go_num, by rw [HST.out], hbw⟩
      case measure => simp [intOf]; omega
    · obtain rfl : k = n := by omega
      have HE := Lib.hid (show l.take k = l from List.take_of_length_le (by rw [HR.out.len]; exact Nat.le_refl _))
      go_wp2
      go_ret
      rw [HE.out]
      exact ⟨rfl, hbw.out⟩
set_option maxHeartbeats 3200000 in
theorem rPutN_any (h : RefAt w X x p q r a b d) (hN : b.length ≤ 2147483647) (hD : d.length ≤ 2147483647) (n : Nd) (hn : NdOk n) :
    Calls Tryz.prog 20 #[.pointer (some ⟨x, 0, none⟩), .agg #[.int .i64 n.y, .int .i64 n.i, .int .i64 n.p, .int .i64 n.f, .int .i64 n.o, .bool n.ab, .int .i64 n.li, .int .i64 n.pr, .int .i64 n.en, .int .i64 n.ex, .int .i64 n.la, .int .i64 n.ca]] w fun e w' => e = .returned (.int .i64 0) ∧ RefAt w' X x p q r a (setT b (nKy n.y n.i) (ndVal n)) (setT d (nKy n.y n.i) []) ∧ Touch (fun k => k = q ∨ k = r) w w' := by
  obtain ⟨w1, hw1⟩ : ∃ w1, w1 = w.alloc (.cells #[.int .i64 n.y, .int .i64 n.i, .int .i64 n.p, .int .i64 n.f, .int .i64 n.o, .bool n.ab, .int .i64 n.li, .int .i64 n.pr, .int .i64 n.en, .int .i64 n.ex, .int .i64 n.la, .int .i64 n.ca] 50) := ⟨_, rfl⟩
  have hb1 : Below w.heap.size w w1 := by rw [hw1]; exact (Below.refl _ _).alloc (Nat.le_refl _) _
  have HN := Lib.hid (refNode_any n.y n.i n.p n.f n.o n.ab n.li n.pr n.en n.ex n.la n.ca w1 hn)
  have HB := Lib.hid hb1
  have HV := Lib.hid (show ∀ W, Below w1.heap.size w1 W → RefAt W X x p q r a b d from fun W hW => h.below (hb1.trans (hW.mono hb1.size)))
  have HCC := Lib.hid (And.intro hN hD)
  clear h hb1 hN hD
  go_enter Tryz.func20, Tryz.ntmps20
  go_wp2_with fail
  rw [← hw1]
  clear hw1
  refine HN.out.mono ?_
  rintro e w2 hp
  obtain ⟨kv, vv, rfl, hk, hv⟩ := hp
  obtain ⟨kA, kc, rfl, hkc, hrk⟩ := hk.read (tagL_bytes u8_78 _)
  obtain ⟨vA, vc, rfl, hvc, hrv⟩ := hv.read (packN_bytes _ _)
  have hb2 := hk.2
  obtain ⟨w3, hw3⟩ : ∃ w3, w3 = w2.alloc (.cells #[.slice kA (keyL 78 [n.y, n.i]).length kc, .slice vA (packN 8 [n.p, n.f, n.o, bitI n.ab, n.li, n.pr, n.en, n.ex, n.la, n.ca]).length vc] 46 (0, 0)) := ⟨_, rfl⟩
  have hb3 : Below w2.heap.size w2 w3 := by rw [hw3]; exact (Below.refl _ _).alloc (Nat.le_refl _) _
  have hp3 : w3.heap[w2.heap.size]? = some (.cells #[.slice kA (keyL 78 [n.y, n.i]).length kc, .slice vA (packN 8 [n.p, n.f, n.o, bitI n.ab, n.li, n.pr, n.en, n.ex, n.la, n.ca]).length vc] 46 (0, 0)) := by rw [hw3]; exact heap_alloc_new w2 _
  have hX1 : ∀ k, X k → k < w1.heap.size := fun k hk => (HV.out w1 (Below.refl _ _)).old k hk
  have sk := apart_of (own_sv hk (tagL_bytes u8_78 _) (by rw [nKyLen]; decide)) hX1 hb3
  have sv := apart_of (own_sv hv (packN_bytes _ _) (by rw [packN_length]; simp)) hX1 hb3
  have p0 := box_cell0 hp3
  have p1 := box_cell1 hp3
  have HP := rvPut_any (HV.out w3 (hb2.trans (hb3.mono hb2.size))) HCC.out.1 HCC.out.2 sk sv
  rw [show putE (keyL 78 [n.y, n.i]) (packN 8 [n.p, n.f, n.o, bitI n.ab, n.li, n.pr, n.en, n.ex, n.la, n.ca]) = 0 from putE_node n, if_pos rfl, if_pos rfl] at HP
  have HP := Lib.hid HP
  have HT := Lib.hid (Touch.of_below (F := fun k => k = q ∨ k = r) (HB.out.trans ((hb2.trans (hb3.mono hb2.size)).mono HB.out.size)))
  rw [hw3] at p0 p1
  have e80 : (packN 8 [n.p, n.f, n.o, bitI n.ab, n.li, n.pr, n.en, n.ex, n.la, n.ca]).length = 80 := by rw [packN_length]; rfl
  simp only [nKyLen, e80] at p0 p1 HP hw3 ⊢
  clear e80
  clear HN hk hv hb2 hb3 hp3 sk sv hX1 hrk hrv hkc hvc
  go_wp2_with fail
  rw [← hw3]
  clear hw3
  refine HP.out.mono ?_
  rintro e w4 ⟨rfl, h4, t4⟩
  have HE := Lib.hid (And.intro h4 (HT.out.trans t4))
  clear h4 t4 HP p0 p1
  go_wp2_with fail
  go_ret
  exact ⟨rfl, HE.out⟩
end
end Go.Proofs.YtilhcchnlbdlhaaGreat
