/-
  The texts TreR, TreS joined. Conditions: those that each part says at its head.
-/
import Derived.Test.YtlcbmobdokicaaaGreatCtlM
import Derived.Test.YtlcbmobdokicaaaGreatRefF
import Derived.Test.YtlcbmobdokicaaaGreatRecG
import Derived.Test.YtlcbmobdokicaaaGreatSeqS
import Derived.Lib.AppendZeros

/-
  The document's tree by contract: the node, Put, a year's nodes, those below one, the path above one, Used, Given. Conditions: which numbers are ints.
-/
namespace Go.Proofs.YtlcbmobdokicaaaGreat
open Go.RowKit Go.Maps
set_option maxRecDepth 100000
set_option linter.unusedVariables false

section
variable {w w' : World} {X : Nat → Prop} {x p q r : Nat} {a b d : TL} {S : VS}
set_option maxHeartbeats 6400000 in
theorem rGetN_any (h : RefAt w X x p q r a b d) (hl : ∀ z, lookT b z = S.now z) (hN : b.length ≤ 2147483647) (y i : Int) (hy : Nd64 y) (hi : Nd64 i) :
    Calls Tryz.prog 151 #[.pointer (some ⟨x, 0, none⟩), .int .i64 y, .int .i64 i] w fun e w' => e = .returned (.tuple #[ndW (nodeAt S y i), .bool (nodeAt S y i).isSome]) ∧ NodeIs (nodeAt S y i) ∧ Below w.heap.size w w' := by
  obtain ⟨w1, hw1⟩ : ∃ w1, w1 = w.alloc (.cells #[.int .i64 0, .int .i64 0, .int .i64 0, .int .i64 0, .int .i64 0, .bool false, .int .i64 0, .int .i64 0, .int .i64 0, .int .i64 0, .int .i64 0, .int .i64 0] 41) := ⟨_, rfl⟩
  have hb1 : Below w.heap.size w w1 := by rw [hw1]; exact (Below.refl _ _).alloc (Nat.le_refl _) _
  have hz1 : w1.heap[w.heap.size]? = some (.cells #[.int .i64 0, .int .i64 0, .int .i64 0, .int .i64 0, .int .i64 0, .bool false, .int .i64 0, .int .i64 0, .int .i64 0, .int .i64 0, .int .i64 0, .int .i64 0] 41 (0, 0)) := by rw [hw1]; exact heap_alloc_new w _
  have hs1 : w1.heap.size = w.heap.size + 1 := by rw [hw1]; simp
  have HS1 := Lib.hid hs1
  have HZ := Lib.hid (show ∀ W, Below w1.heap.size w1 W → W.heap[w.heap.size]? = some (.cells #[.int .i64 0, .int .i64 0, .int .i64 0, .int .i64 0, .int .i64 0, .bool false, .int .i64 0, .int .i64 0, .int .i64 0, .int .i64 0, .int .i64 0, .int .i64 0] 41 (0, 0)) from fun W hW => (hW.block _ (by omega)).trans hz1)
  have HB := Lib.hid hb1
  have HV := Lib.hid (show ∀ W, Below w1.heap.size w1 W → RefAt W X x p q r a b d from fun W hW => h.below (hb1.trans (hW.mono hb1.size)))
  have HN := Lib.hid hN
  have HL := Lib.hid hl
  have hk1 : Below w1.heap.size w1 (w1.alloc (.cells #[.int .i64 y, .int .i64 i] 3)) := (Below.refl _ _).alloc (Nat.le_refl _) _
  have HK1 := Lib.hid (rkey_at 78 [y, i] 2 9 u8_78 (fun z hz => by
    simp only [List.mem_cons, List.not_mem_nil, or_false] at hz
    rcases hz with rfl | rfl
    · exact hy
    · exact hi) rfl (by omega) rfl (w1.alloc (.cells #[.int .i64 y, .int .i64 i] 3)) w1.heap.size (RowN.a' (l := [y, i]) w1 3))
  have HKB := Lib.hid hk1
  clear hk1 hb1 hs1 hN hl
  cases e0 : S.now (nKy y i) with
  | none =>
    have HE0 := Lib.hid e0
    have HE1 := Lib.hid (show ndK (keyL 78 [y, i], (none : Option (List Int)).getD []) = none from ndK_nil y i)
    rw [show nodeAt S y i = none by rw [nodeAt_ref, e0]]
    clear e0
    clear hz1 h
    go_enter Tryz.func151, Tryz.ntmps151
    go_wp2_with fail
    rw [← hw1, ← HS1.out]
    clear hw1
    refine HK1.out.mono ?_
    rintro e w3 ⟨A, k, rfl, ho⟩
    have hb3 := HKB.out.trans (ho.2.mono HKB.out.size)
    obtain ⟨A', k', e', hk', hr⟩ := ho.read (tagL_bytes u8_78 _)
    rw [nKyLen] at e' hr hk'
    injection e' with q1 q2 q3
    subst q1 q3
    have HGT := rvGet_any (k := k) (HV.out w3 hb3) HN.out hr (Nat.le_refl _)
    rw [HL.out (nKy y i), HE0.out] at HGT
    have HGT := Lib.hid HGT
    have HR := Lib.hid hr
    have HB3 := Lib.hid hb3
    clear ho hb3 hr HK1 HKB q2
    go_wp2_with fail
    refine HGT.out.mono ?_
    rintro e w4 ⟨u, rfl, hs, hb4⟩
    obtain ⟨Au, nu, ku, rfl, hu1, hu2, hu3, _⟩ := hs
    have HO := refNodeOf_any A 9 k Au nu ku (keyL 78 [y, i], (none).getD []) _ w4 ((HR.out.below hb4).more hb4.size) hu3 (Nat.le_refl _) hk' hu1 (by decide) (Nat.le_trans hu2 (by unfold maxLen; omega))
    rw [nodeV_w, ndK_some, HE1.out] at HO
    have HO := Lib.hid HO
    have HB4 := Lib.hid (HB3.out.trans (hb4.mono HB3.out.size))
    clear hu1 hu2 hu3 hb4 HGT HR HB3 HV
    simp only [Option.isSome_none]
    go_wp2_with fail
    refine HO.out.mono ?_
    rintro e w5 ⟨rfl, hb5⟩
    have hb25 := HB4.out.trans (hb5.mono HB4.out.size)
    obtain ⟨wx, hwx⟩ : ∃ wx, wx = w5.alloc (.cells #[.int .i64 0, .int .i64 0, .int .i64 0, .int .i64 0, .int .i64 0, .bool false, .int .i64 0, .int .i64 0, .int .i64 0, .int .i64 0, .int .i64 0, .int .i64 0] 41 (0, 0)) := ⟨_, rfl⟩
    have hbx : Below w5.heap.size w5 wx := by rw [hwx]; exact (Below.refl _ _).alloc (Nat.le_refl _) _
    have gx : wx.heap[w5.heap.size]? = some (.cells #[.int .i64 0, .int .i64 0, .int .i64 0, .int .i64 0, .int .i64 0, .bool false, .int .i64 0, .int .i64 0, .int .i64 0, .int .i64 0, .int .i64 0, .int .i64 0] 41 (0, 0)) := by rw [hwx]; exact heap_alloc_new w5 _
    obtain ⟨n0, n1, n2, n3, n4, n5, n6, n7, n8, n9, n10, n11⟩ := node_cells gx
    have hbe := hb25.trans (hbx.mono hb25.size)
    have dz := HZ.out wx hbe
    obtain ⟨G1, G2⟩ := ndBox dz rfl (HB.out.trans (hbe.mono HB.out.size)) (Nat.le_refl _) ndNil
    have HG := Lib.hid G1
    have HE := Lib.hid G2
    obtain ⟨z0, z1, z2, z3, z4, z5, z6, z7, z8, z9, z10, z11⟩ := node_cells dz
    have f0 := ndFree dz 0
    have f1 := ndFree dz 1
    have f2 := ndFree dz 2
    have f3 := ndFree dz 3
    have f4 := ndFree dz 4
    have f5 := ndFree dz 5
    have f6 := ndFree dz 6
    have f7 := ndFree dz 7
    have f8 := ndFree dz 8
    have f9 := ndFree dz 9
    have f10 := ndFree dz 10
    have f11 := ndFree dz 11
    clear G1 G2 dz hb5 hb25 HO HB4 hbx gx hbe HE0 HE1 HL HN HZ HB
    simp only [ndW, ndO, Option.getD_none, ndNil]
    rw [hwx] at n0 n1 n2 n3 n4 n5 n6 n7 n8 n9 n10 n11 z0 z1 z2 z3 z4 z5 z6 z7 z8 z9 z10 z11 f0 f1 f2 f3 f4 f5 f6 f7 f8 f9 f10 f11 HG HE
    clear hwx
    go_wp2_with fail
    refine bodyPost_ret (results_ct rfl _ w.heap.size _ rfl (run_loadVar_row _ _ _ _ _ (0, 0) _ HG.out Tryz.underlying41 rfl node_size)) rfl ?_
    exact ⟨rfl, (fun n h => by cases h), HE.out⟩
  | some bb =>
    have HE0 := Lib.hid e0
    cases e1 : ndK (keyL 78 [y, i], bb) with
    | none =>
      have HE1 := Lib.hid (show ndK (keyL 78 [y, i], (some bb).getD []) = none from e1)
      rw [show nodeAt S y i = none by rw [nodeAt_ref, e0]; simp only [e1]]
      clear e0 e1
      clear hz1 h
      go_enter Tryz.func151, Tryz.ntmps151
      go_wp2_with fail
      rw [← hw1, ← HS1.out]
      clear hw1
      refine HK1.out.mono ?_
      rintro e w3 ⟨A, k, rfl, ho⟩
      have hb3 := HKB.out.trans (ho.2.mono HKB.out.size)
      obtain ⟨A', k', e', hk', hr⟩ := ho.read (tagL_bytes u8_78 _)
      rw [nKyLen] at e' hr hk'
      injection e' with q1 q2 q3
      subst q1 q3
      have HGT := rvGet_any (k := k) (HV.out w3 hb3) HN.out hr (Nat.le_refl _)
      rw [HL.out (nKy y i), HE0.out] at HGT
      have HGT := Lib.hid HGT
      have HR := Lib.hid hr
      have HB3 := Lib.hid hb3
      clear ho hb3 hr HK1 HKB q2
      go_wp2_with fail
      refine HGT.out.mono ?_
      rintro e w4 ⟨u, rfl, hs, hb4⟩
      obtain ⟨Au, nu, ku, rfl, hu1, hu2, hu3, _⟩ := hs
      have HO := refNodeOf_any A 9 k Au nu ku (keyL 78 [y, i], (some bb).getD []) _ w4 ((HR.out.below hb4).more hb4.size) hu3 (Nat.le_refl _) hk' hu1 (by decide) (Nat.le_trans hu2 (by unfold maxLen; omega))
      rw [nodeV_w, ndK_some, HE1.out] at HO
      have HO := Lib.hid HO
      have HB4 := Lib.hid (HB3.out.trans (hb4.mono HB3.out.size))
      clear hu1 hu2 hu3 hb4 HGT HR HB3 HV
      simp only [Option.isSome_some]
      go_wp2_with fail
      refine HO.out.mono ?_
      rintro e w5 ⟨rfl, hb5⟩
      have hb25 := HB4.out.trans (hb5.mono HB4.out.size)
      obtain ⟨wx, hwx⟩ : ∃ wx, wx = w5.alloc (.cells #[.int .i64 0, .int .i64 0, .int .i64 0, .int .i64 0, .int .i64 0, .bool false, .int .i64 0, .int .i64 0, .int .i64 0, .int .i64 0, .int .i64 0, .int .i64 0] 41 (0, 0)) := ⟨_, rfl⟩
      have hbx : Below w5.heap.size w5 wx := by rw [hwx]; exact (Below.refl _ _).alloc (Nat.le_refl _) _
      have gx : wx.heap[w5.heap.size]? = some (.cells #[.int .i64 0, .int .i64 0, .int .i64 0, .int .i64 0, .int .i64 0, .bool false, .int .i64 0, .int .i64 0, .int .i64 0, .int .i64 0, .int .i64 0, .int .i64 0] 41 (0, 0)) := by rw [hwx]; exact heap_alloc_new w5 _
      obtain ⟨n0, n1, n2, n3, n4, n5, n6, n7, n8, n9, n10, n11⟩ := node_cells gx
      have hbe := hb25.trans (hbx.mono hb25.size)
      have dz := HZ.out wx hbe
      obtain ⟨G1, G2⟩ := ndBox dz rfl (HB.out.trans (hbe.mono HB.out.size)) (Nat.le_refl _) ndNil
      have HG := Lib.hid G1
      have HE := Lib.hid G2
      obtain ⟨z0, z1, z2, z3, z4, z5, z6, z7, z8, z9, z10, z11⟩ := node_cells dz
      have f0 := ndFree dz 0
      have f1 := ndFree dz 1
      have f2 := ndFree dz 2
      have f3 := ndFree dz 3
      have f4 := ndFree dz 4
      have f5 := ndFree dz 5
      have f6 := ndFree dz 6
      have f7 := ndFree dz 7
      have f8 := ndFree dz 8
      have f9 := ndFree dz 9
      have f10 := ndFree dz 10
      have f11 := ndFree dz 11
      clear G1 G2 dz hb5 hb25 HO HB4 hbx gx hbe HE0 HE1 HL HN HZ HB
      simp only [ndW, ndO, Option.getD_none, ndNil]
      rw [hwx] at n0 n1 n2 n3 n4 n5 n6 n7 n8 n9 n10 n11 z0 z1 z2 z3 z4 z5 z6 z7 z8 z9 z10 z11 f0 f1 f2 f3 f4 f5 f6 f7 f8 f9 f10 f11 HG HE
      clear hwx
      go_wp2_with fail
      refine bodyPost_ret (results_ct rfl _ w.heap.size _ rfl (run_loadVar_row _ _ _ _ _ (0, 0) _ HG.out Tryz.underlying41 rfl node_size)) rfl ?_
      exact ⟨rfl, (fun n h => by cases h), HE.out⟩
    | some n =>
      have HE1 := Lib.hid (show ndK (keyL 78 [y, i], (some bb).getD []) = some n from e1)
      have hre : nodeAt S y i = if n.y = y ∧ n.i = i then some n else none := by rw [nodeAt_ref, e0]; simp only [e1]
      rw [hre]
      clear e0 e1 hre
      by_cases h1 : n.y = y
      · have k1 : (n.y != y) = false := by simp [h1]
        by_cases h2 : n.i = i
        · have k2 : (n.i != i) = false := by simp [h2]
          rw [if_pos ⟨h1, h2⟩]
          clear h1 h2
          clear hz1 h
          go_enter Tryz.func151, Tryz.ntmps151
          go_wp2_with fail
          rw [← hw1, ← HS1.out]
          clear hw1
          refine HK1.out.mono ?_
          rintro e w3 ⟨A, k, rfl, ho⟩
          have hb3 := HKB.out.trans (ho.2.mono HKB.out.size)
          obtain ⟨A', k', e', hk', hr⟩ := ho.read (tagL_bytes u8_78 _)
          rw [nKyLen] at e' hr hk'
          injection e' with q1 q2 q3
          subst q1 q3
          have HGT := rvGet_any (k := k) (HV.out w3 hb3) HN.out hr (Nat.le_refl _)
          rw [HL.out (nKy y i), HE0.out] at HGT
          have HGT := Lib.hid HGT
          have HR := Lib.hid hr
          have HB3 := Lib.hid hb3
          clear ho hb3 hr HK1 HKB q2
          go_wp2_with fail
          refine HGT.out.mono ?_
          rintro e w4 ⟨u, rfl, hs, hb4⟩
          obtain ⟨Au, nu, ku, rfl, hu1, hu2, hu3, _⟩ := hs
          have HO := refNodeOf_any A 9 k Au nu ku (keyL 78 [y, i], (some bb).getD []) _ w4 ((HR.out.below hb4).more hb4.size) hu3 (Nat.le_refl _) hk' hu1 (by decide) (Nat.le_trans hu2 (by unfold maxLen; omega))
          rw [nodeV_w, ndK_some, HE1.out] at HO
          have HO := Lib.hid HO
          have HB4 := Lib.hid (HB3.out.trans (hb4.mono HB3.out.size))
          have HOK := Lib.hid (show NdOk n from ndK_ok (tagL_bytes u8_78 _) hu3.bytes HE1.out)
          clear hu1 hu2 hu3 hb4 HGT HR HB3 HV
          simp only [Option.isSome_some]
          go_wp2_with fail
          refine HO.out.mono ?_
          rintro e w5 ⟨rfl, hb5⟩
          have hb25 := HB4.out.trans (hb5.mono HB4.out.size)
          obtain ⟨wx, hwx⟩ : ∃ wx, wx = w5.alloc (.cells #[.int .i64 n.y, .int .i64 n.i, .int .i64 n.p, .int .i64 n.f, .int .i64 n.o, .bool n.ab, .int .i64 n.li, .int .i64 n.pr, .int .i64 n.en, .int .i64 n.ex, .int .i64 n.la, .int .i64 n.ca] 41 (0, 0)) := ⟨_, rfl⟩
          have hbx : Below w5.heap.size w5 wx := by rw [hwx]; exact (Below.refl _ _).alloc (Nat.le_refl _) _
          have gx : wx.heap[w5.heap.size]? = some (.cells #[.int .i64 n.y, .int .i64 n.i, .int .i64 n.p, .int .i64 n.f, .int .i64 n.o, .bool n.ab, .int .i64 n.li, .int .i64 n.pr, .int .i64 n.en, .int .i64 n.ex, .int .i64 n.la, .int .i64 n.ca] 41 (0, 0)) := by rw [hwx]; exact heap_alloc_new w5 _
          obtain ⟨n0, n1, n2, n3, n4, n5, n6, n7, n8, n9, n10, n11⟩ := node_cells gx
          have hbe := hb25.trans (hbx.mono hb25.size)
          have dz := HZ.out wx hbe
          obtain ⟨G1, G2⟩ := ndBox dz rfl (HB.out.trans (hbe.mono HB.out.size)) (Nat.le_refl _) n
          have HG := Lib.hid G1
          have HE := Lib.hid G2
          obtain ⟨z0, z1, z2, z3, z4, z5, z6, z7, z8, z9, z10, z11⟩ := node_cells dz
          have f0 := ndFree dz 0
          have f1 := ndFree dz 1
          have f2 := ndFree dz 2
          have f3 := ndFree dz 3
          have f4 := ndFree dz 4
          have f5 := ndFree dz 5
          have f6 := ndFree dz 6
          have f7 := ndFree dz 7
          have f8 := ndFree dz 8
          have f9 := ndFree dz 9
          have f10 := ndFree dz 10
          have f11 := ndFree dz 11
          clear G1 G2 dz hb5 hb25 HO HB4 hbx gx hbe HE0 HE1 HL HN HZ HB
          simp only [ndW, ndO, Option.getD_some]
          rw [hwx] at n0 n1 n2 n3 n4 n5 n6 n7 n8 n9 n10 n11 z0 z1 z2 z3 z4 z5 z6 z7 z8 z9 z10 z11 f0 f1 f2 f3 f4 f5 f6 f7 f8 f9 f10 f11 HG HE
          clear hwx
          go_wp2_with fail
          refine bodyPost_ret (results_ct rfl _ w.heap.size _ rfl (run_loadVar_row _ _ _ _ _ (0, 0) _ HG.out Tryz.underlying41 rfl node_size)) rfl ?_
          exact ⟨rfl, (fun z h => by cases h; exact HOK.out), HE.out⟩
        · have k2 : (n.i != i) = true := by simp [h2]
          rw [if_neg (fun hh => h2 hh.2)]
          clear h1 h2
          clear hz1 h
          go_enter Tryz.func151, Tryz.ntmps151
          go_wp2_with fail
          rw [← hw1, ← HS1.out]
          clear hw1
          refine HK1.out.mono ?_
          rintro e w3 ⟨A, k, rfl, ho⟩
          have hb3 := HKB.out.trans (ho.2.mono HKB.out.size)
          obtain ⟨A', k', e', hk', hr⟩ := ho.read (tagL_bytes u8_78 _)
          rw [nKyLen] at e' hr hk'
          injection e' with q1 q2 q3
          subst q1 q3
          have HGT := rvGet_any (k := k) (HV.out w3 hb3) HN.out hr (Nat.le_refl _)
          rw [HL.out (nKy y i), HE0.out] at HGT
          have HGT := Lib.hid HGT
          have HR := Lib.hid hr
          have HB3 := Lib.hid hb3
          clear ho hb3 hr HK1 HKB q2
          go_wp2_with fail
          refine HGT.out.mono ?_
          rintro e w4 ⟨u, rfl, hs, hb4⟩
          obtain ⟨Au, nu, ku, rfl, hu1, hu2, hu3, _⟩ := hs
          have HO := refNodeOf_any A 9 k Au nu ku (keyL 78 [y, i], (some bb).getD []) _ w4 ((HR.out.below hb4).more hb4.size) hu3 (Nat.le_refl _) hk' hu1 (by decide) (Nat.le_trans hu2 (by unfold maxLen; omega))
          rw [nodeV_w, ndK_some, HE1.out] at HO
          have HO := Lib.hid HO
          have HB4 := Lib.hid (HB3.out.trans (hb4.mono HB3.out.size))
          clear hu1 hu2 hu3 hb4 HGT HR HB3 HV
          simp only [Option.isSome_some]
          go_wp2_with fail
          refine HO.out.mono ?_
          rintro e w5 ⟨rfl, hb5⟩
          have hb25 := HB4.out.trans (hb5.mono HB4.out.size)
          obtain ⟨wx, hwx⟩ : ∃ wx, wx = w5.alloc (.cells #[.int .i64 n.y, .int .i64 n.i, .int .i64 n.p, .int .i64 n.f, .int .i64 n.o, .bool n.ab, .int .i64 n.li, .int .i64 n.pr, .int .i64 n.en, .int .i64 n.ex, .int .i64 n.la, .int .i64 n.ca] 41 (0, 0)) := ⟨_, rfl⟩
          have hbx : Below w5.heap.size w5 wx := by rw [hwx]; exact (Below.refl _ _).alloc (Nat.le_refl _) _
          have gx : wx.heap[w5.heap.size]? = some (.cells #[.int .i64 n.y, .int .i64 n.i, .int .i64 n.p, .int .i64 n.f, .int .i64 n.o, .bool n.ab, .int .i64 n.li, .int .i64 n.pr, .int .i64 n.en, .int .i64 n.ex, .int .i64 n.la, .int .i64 n.ca] 41 (0, 0)) := by rw [hwx]; exact heap_alloc_new w5 _
          obtain ⟨n0, n1, n2, n3, n4, n5, n6, n7, n8, n9, n10, n11⟩ := node_cells gx
          have hbe := hb25.trans (hbx.mono hb25.size)
          have dz := HZ.out wx hbe
          obtain ⟨G1, G2⟩ := ndBox dz rfl (HB.out.trans (hbe.mono HB.out.size)) (Nat.le_refl _) ndNil
          have HG := Lib.hid G1
          have HE := Lib.hid G2
          obtain ⟨z0, z1, z2, z3, z4, z5, z6, z7, z8, z9, z10, z11⟩ := node_cells dz
          have f0 := ndFree dz 0
          have f1 := ndFree dz 1
          have f2 := ndFree dz 2
          have f3 := ndFree dz 3
          have f4 := ndFree dz 4
          have f5 := ndFree dz 5
          have f6 := ndFree dz 6
          have f7 := ndFree dz 7
          have f8 := ndFree dz 8
          have f9 := ndFree dz 9
          have f10 := ndFree dz 10
          have f11 := ndFree dz 11
          clear G1 G2 dz hb5 hb25 HO HB4 hbx gx hbe HE0 HE1 HL HN HZ HB
          simp only [ndW, ndO, Option.getD_some]
          rw [hwx] at n0 n1 n2 n3 n4 n5 n6 n7 n8 n9 n10 n11 z0 z1 z2 z3 z4 z5 z6 z7 z8 z9 z10 z11 f0 f1 f2 f3 f4 f5 f6 f7 f8 f9 f10 f11 HG HE
          clear hwx
          go_wp2_with fail
          refine bodyPost_ret (results_ct rfl _ w.heap.size _ rfl (run_loadVar_row _ _ _ _ _ (0, 0) _ HG.out Tryz.underlying41 rfl node_size)) rfl ?_
          exact ⟨rfl, (fun n h => by cases h), HE.out⟩
      · have k1 : (n.y != y) = true := by simp [h1]
        rw [if_neg (fun hh => h1 hh.1)]
        clear h1
        clear hz1 h
        go_enter Tryz.func151, Tryz.ntmps151
        go_wp2_with fail
        rw [← hw1, ← HS1.out]
        clear hw1
        refine HK1.out.mono ?_
        rintro e w3 ⟨A, k, rfl, ho⟩
        have hb3 := HKB.out.trans (ho.2.mono HKB.out.size)
        obtain ⟨A', k', e', hk', hr⟩ := ho.read (tagL_bytes u8_78 _)
        rw [nKyLen] at e' hr hk'
        injection e' with q1 q2 q3
        subst q1 q3
        have HGT := rvGet_any (k := k) (HV.out w3 hb3) HN.out hr (Nat.le_refl _)
        rw [HL.out (nKy y i), HE0.out] at HGT
        have HGT := Lib.hid HGT
        have HR := Lib.hid hr
        have HB3 := Lib.hid hb3
        clear ho hb3 hr HK1 HKB q2
        go_wp2_with fail
        refine HGT.out.mono ?_
        rintro e w4 ⟨u, rfl, hs, hb4⟩
        obtain ⟨Au, nu, ku, rfl, hu1, hu2, hu3, _⟩ := hs
        have HO := refNodeOf_any A 9 k Au nu ku (keyL 78 [y, i], (some bb).getD []) _ w4 ((HR.out.below hb4).more hb4.size) hu3 (Nat.le_refl _) hk' hu1 (by decide) (Nat.le_trans hu2 (by unfold maxLen; omega))
        rw [nodeV_w, ndK_some, HE1.out] at HO
        have HO := Lib.hid HO
        have HB4 := Lib.hid (HB3.out.trans (hb4.mono HB3.out.size))
        clear hu1 hu2 hu3 hb4 HGT HR HB3 HV
        simp only [Option.isSome_some]
        go_wp2_with fail
        refine HO.out.mono ?_
        rintro e w5 ⟨rfl, hb5⟩
        have hb25 := HB4.out.trans (hb5.mono HB4.out.size)
        obtain ⟨wx, hwx⟩ : ∃ wx, wx = w5.alloc (.cells #[.int .i64 n.y, .int .i64 n.i, .int .i64 n.p, .int .i64 n.f, .int .i64 n.o, .bool n.ab, .int .i64 n.li, .int .i64 n.pr, .int .i64 n.en, .int .i64 n.ex, .int .i64 n.la, .int .i64 n.ca] 41 (0, 0)) := ⟨_, rfl⟩
        have hbx : Below w5.heap.size w5 wx := by rw [hwx]; exact (Below.refl _ _).alloc (Nat.le_refl _) _
        have gx : wx.heap[w5.heap.size]? = some (.cells #[.int .i64 n.y, .int .i64 n.i, .int .i64 n.p, .int .i64 n.f, .int .i64 n.o, .bool n.ab, .int .i64 n.li, .int .i64 n.pr, .int .i64 n.en, .int .i64 n.ex, .int .i64 n.la, .int .i64 n.ca] 41 (0, 0)) := by rw [hwx]; exact heap_alloc_new w5 _
        obtain ⟨n0, n1, n2, n3, n4, n5, n6, n7, n8, n9, n10, n11⟩ := node_cells gx
        have hbe := hb25.trans (hbx.mono hb25.size)
        have dz := HZ.out wx hbe
        obtain ⟨G1, G2⟩ := ndBox dz rfl (HB.out.trans (hbe.mono HB.out.size)) (Nat.le_refl _) ndNil
        have HG := Lib.hid G1
        have HE := Lib.hid G2
        obtain ⟨z0, z1, z2, z3, z4, z5, z6, z7, z8, z9, z10, z11⟩ := node_cells dz
        have f0 := ndFree dz 0
        have f1 := ndFree dz 1
        have f2 := ndFree dz 2
        have f3 := ndFree dz 3
        have f4 := ndFree dz 4
        have f5 := ndFree dz 5
        have f6 := ndFree dz 6
        have f7 := ndFree dz 7
        have f8 := ndFree dz 8
        have f9 := ndFree dz 9
        have f10 := ndFree dz 10
        have f11 := ndFree dz 11
        clear G1 G2 dz hb5 hb25 HO HB4 hbx gx hbe HE0 HE1 HL HN HZ HB
        simp only [ndW, ndO, Option.getD_some]
        rw [hwx] at n0 n1 n2 n3 n4 n5 n6 n7 n8 n9 n10 n11 z0 z1 z2 z3 z4 z5 z6 z7 z8 z9 z10 z11 f0 f1 f2 f3 f4 f5 f6 f7 f8 f9 f10 f11 HG HE
        clear hwx
        go_wp2_with fail
        refine bodyPost_ret (results_ct rfl _ w.heap.size _ rfl (run_loadVar_row _ _ _ _ _ (0, 0) _ HG.out Tryz.underlying41 rfl node_size)) rfl ?_
        exact ⟨rfl, (fun n h => by cases h), HE.out⟩
theorem rUsed_any (n : Nd) (w : World) : Calls Tryz.prog 152 #[.agg #[.int .i64 n.y, .int .i64 n.i, .int .i64 n.p, .int .i64 n.f, .int .i64 n.o, .bool n.ab, .int .i64 n.li, .int .i64 n.pr, .int .i64 n.en, .int .i64 n.ex, .int .i64 n.la, .int .i64 n.ca]] w fun e w' => e = .returned (.int .i64 (usedN n)) ∧ Below w.heap.size w w' := by
  have hb : Below w.heap.size w (w.alloc (.cells #[.int .i64 n.y, .int .i64 n.i, .int .i64 n.p, .int .i64 n.f, .int .i64 n.o, .bool n.ab, .int .i64 n.li, .int .i64 n.pr, .int .i64 n.en, .int .i64 n.ex, .int .i64 n.la, .int .i64 n.ca] 41)) := (Below.refl _ _).alloc (Nat.le_refl _) _
  have HB := Lib.hid hb
  unfold usedN
  obtain ⟨y, i, p, f, o, ab, li, pr, en, ex, la, ca⟩ := n
  simp only at HB ⊢
  clear hb
  go_enter Tryz.func152, Tryz.ntmps152
  go_wp2_with fail
  go_ret
  exact ⟨rfl, HB.out⟩
set_option maxHeartbeats 3200000 in
theorem rPutN_any (h : RefAt w X x p q r a b d) (hN : b.length ≤ 2147483647) (hD : d.length ≤ 2147483647) (n : Nd) (hn : NdOk n) :
    Calls Tryz.prog 36 #[.pointer (some ⟨x, 0, none⟩), .agg #[.int .i64 n.y, .int .i64 n.i, .int .i64 n.p, .int .i64 n.f, .int .i64 n.o, .bool n.ab, .int .i64 n.li, .int .i64 n.pr, .int .i64 n.en, .int .i64 n.ex, .int .i64 n.la, .int .i64 n.ca]] w fun e w' => e = .returned (.int .i64 0) ∧ RefAt w' X x p q r a (setT b (nKy n.y n.i) (ndVal n)) (setT d (nKy n.y n.i) []) ∧ Touch (fun k => k = q ∨ k = r) w w' := by
  obtain ⟨w1, hw1⟩ : ∃ w1, w1 = w.alloc (.cells #[.int .i64 n.y, .int .i64 n.i, .int .i64 n.p, .int .i64 n.f, .int .i64 n.o, .bool n.ab, .int .i64 n.li, .int .i64 n.pr, .int .i64 n.en, .int .i64 n.ex, .int .i64 n.la, .int .i64 n.ca] 41) := ⟨_, rfl⟩
  have hb1 : Below w.heap.size w w1 := by rw [hw1]; exact (Below.refl _ _).alloc (Nat.le_refl _) _
  have HN := Lib.hid (refNode_any n.y n.i n.p n.f n.o n.ab n.li n.pr n.en n.ex n.la n.ca w1 hn)
  have HB := Lib.hid hb1
  have HV := Lib.hid (show ∀ W, Below w1.heap.size w1 W → RefAt W X x p q r a b d from fun W hW => h.below (hb1.trans (hW.mono hb1.size)))
  have HCC := Lib.hid (And.intro hN hD)
  clear h hb1 hN hD
  go_enter Tryz.func36, Tryz.ntmps36
  go_wp2_with fail
  rw [← hw1]
  clear hw1
  refine HN.out.mono ?_
  rintro e w2 hp
  obtain ⟨kv, vv, rfl, hk, hv⟩ := hp
  obtain ⟨kA, kc, rfl, hkc, hrk⟩ := hk.read (tagL_bytes u8_78 _)
  obtain ⟨vA, vc, rfl, hvc, hrv⟩ := hv.read (packN_bytes _ _)
  have hb2 := hk.2
  obtain ⟨w3, hw3⟩ : ∃ w3, w3 = w2.alloc (.cells #[.slice kA (keyL 78 [n.y, n.i]).length kc, .slice vA (packN 8 [n.p, n.f, n.o, bitI n.ab, n.li, n.pr, n.en, n.ex, n.la, n.ca]).length vc] 111 (0, 0)) := ⟨_, rfl⟩
  have hb3 : Below w2.heap.size w2 w3 := by rw [hw3]; exact (Below.refl _ _).alloc (Nat.le_refl _) _
  have hp3 : w3.heap[w2.heap.size]? = some (.cells #[.slice kA (keyL 78 [n.y, n.i]).length kc, .slice vA (packN 8 [n.p, n.f, n.o, bitI n.ab, n.li, n.pr, n.en, n.ex, n.la, n.ca]).length vc] 111 (0, 0)) := by rw [hw3]; exact heap_alloc_new w2 _
  have hX1 : ∀ k, X k → k < w1.heap.size := fun k hk => (HV.out w1 (Below.refl _ _)).old k hk
  have sk := apart_of (own_sv hk (tagL_bytes u8_78 _) (by rw [nKyLen]; decide)) hX1 hb3
  have sv := apart_of (own_sv hv (packN_bytes _ _) (by rw [packN_length]; simp)) hX1 hb3
  have p0 := box_cell0 hp3
  have p1 := box_cell1 hp3
  have HP := rvPut_any (HV.out w3 (hb2.trans (hb3.mono hb2.size))) HCC.out.1 HCC.out.2 sk sv
  rw [show putE (keyL 78 [n.y, n.i]) (packN 8 [n.p, n.f, n.o, bitI n.ab, n.li, n.pr, n.en, n.ex, n.la, n.ca]) = 0 from putE_node n, if_pos rfl, if_pos rfl] at HP
  have HP := Lib.hid HP
  have HT := Lib.hid (Touch.of_below (F := fun k => k = q ∨ k = r) (HB.out.trans ((hb2.trans (hb3.mono hb2.size)).mono HB.out.size)))
  rw [hw3] at p0 p1
  have e80 : (packN 8 [n.p, n.f, n.o, bitI n.ab, n.li, n.pr, n.en, n.ex, n.la, n.ca]).length = 80 := by rw [packN_length]; rfl
  simp only [nKyLen, e80] at p0 p1 HP hw3 ⊢
  clear e80
  clear HN hk hv hb2 hb3 hp3 sk sv hX1 hrk hrv hkc hvc
  go_wp2_with fail
  rw [← hw3]
  clear hw3
  refine HP.out.mono ?_
  rintro e w4 ⟨rfl, h4, t4⟩
  have HE := Lib.hid (And.intro h4 (HT.out.trans t4))
  clear h4 t4 HP p0 p1
  go_wp2_with fail
  go_ret
  exact ⟨rfl, HE.out⟩
end
end Go.Proofs.YtlcbmobdokicaaaGreat

/-
  The document's tree by contract: a year's nodes, those below one, the path above one. Conditions: which numbers are ints; fewer than 2^31 pairs.
-/
namespace Go.Proofs.YtlcbmobdokicaaaGreat
open Go.RowKit Go.Maps
set_option maxRecDepth 100000
set_option linter.unusedVariables false

section
variable {w w' : World} {X : Nat → Prop} {x p q r : Nat} {a b d : TL} {S : VS}
set_option maxHeartbeats 6400000 in
theorem rPathN_any (h : RefAt w X x p q r a b d) (hl : ∀ z, lookT b z = S.now z) (hN : b.length ≤ 2147483647) (y i : Int) (hy : Nd64 y) (hi : Nd64 i) :
    Calls Tryz.prog 119 #[.pointer (some ⟨x, 0, none⟩), .int .i64 y, .int .i64 i] w fun e w' => ∃ u, e = .returned u ∧ NodesR w w' u (pathN S y 8 i) := by
  obtain ⟨w1, hw1⟩ : ∃ w1, w1 = w := ⟨_, rfl⟩
  have HB := Lib.hid (show Below w.heap.size w w1 by rw [hw1]; exact Below.refl _ _)
  have HV := Lib.hid (show ∀ W, Below w1.heap.size w1 W → RefAt W X x p q r a b d from fun W hW => h.below (by rw [hw1] at hW; exact hW))
  have HY := Lib.hid hy
  have HS1 := Lib.hid (show w1.heap.size = w.heap.size by rw [hw1])
  have HI := Lib.hid hi
  have HN := Lib.hid hN
  have HLK := Lib.hid hl
  clear h hy hi hN hl
  rw [show Calls Tryz.prog 119 #[.pointer (some ⟨x, 0, none⟩), .int .i64 y, .int .i64 i] w = Calls Tryz.prog 119 #[.pointer (some ⟨x, 0, none⟩), .int .i64 y, .int .i64 i] w1 by rw [hw1]]
  clear hw1
  go_enter Tryz.func119, Tryz.ntmps119
  go_wp2_with fail
  go_loopw [2, 7] (fun iv u wr => ∃ (j : Int) (l : List Nd) (A : Option Addr) (k : Nat), iv = .int .i64 j ∧ u = .slice A l.length k ∧ l.length ≤ 8 ∧ Hid (NdE.Own 41 wr w1.heap.size (.slice A l.length k) l ∧ (∀ x ∈ l, NdOk x) ∧ Nd64 j ∧ pathN S y 8 i = l ++ pathN S y (8 - l.length) j) ∧ Hid (Below w1.heap.size w1 wr)) (fun _ u _ => 8 - sliceLen u)
  case atStart => exact ⟨i, [], none, 0, rfl, rfl, by simp, Lib.hid ⟨Enc.Own.start _ _ _, (fun x hx => by cases hx), HI.out, rfl⟩, Lib.hid (Below.refl _ _)⟩
  case round =>
    obtain ⟨j, l, A, k, rfl, rfl, hl8, hown, hbw⟩ := hrel
    obtain ⟨ho, hlok, hj, hp⟩ := hown.out
    by_cases hlt : l.length < 8
    · have hlt' : (l.length : Int) < 8 := by omega
      obtain ⟨k8, hk8⟩ : ∃ k8, 8 - l.length = k8 + 1 := ⟨7 - l.length, by omega⟩
      have HG := Lib.hid (rGetN_any (HV.out wr hbw.out) HLK.out HN.out y j HY.out hj)
      rw [hk8] at hp
      have HPN := Lib.hid (fun (q : nodeAt S y j = none) => show pathN S y 8 i = l from by rw [hp, pathN_none q, List.append_nil])
      have HPZ := Lib.hid (fun (n : Nd) (q : nodeAt S y j = some n) (q0 : n.p = 0) => show pathN S y 8 i = l ++ [n] from by rw [hp, pathN_zero q q0])
      have HPM := Lib.hid (fun (n : Nd) (q : nodeAt S y j = some n) (q0 : n.p ≠ 0) => show pathN S y 8 i = (l ++ [n]) ++ pathN S y (8 - (l ++ [n]).length) n.p from by
        rw [hp, pathN_more q q0, List.append_assoc, List.length_append, List.length_singleton, show 8 - (l.length + 1) = k8 by omega]; rfl)
      have HOW := Lib.hid (And.intro ho hlok)
      have hBW := hbw.out
      generalize nodeAt S y j = o at HG HPN HPZ HPM
      clear ho hlok hp hown hk8
      go_wp2_with fail
      refine HG.out.mono ?_
      rintro e w5 ⟨rfl, hno, hb5⟩
      have ha5 := hBW.trans (hb5.mono hBW.size)
      have ho5 := HOW.out.1.below hb5
      cases o with
      | none =>
        have hX : Below w5.heap.size w5 (w5.alloc (.cells #[.int .i64 0, .int .i64 0, .int .i64 0, .int .i64 0, .int .i64 0, .bool false, .int .i64 0, .int .i64 0, .int .i64 0, .int .i64 0, .int .i64 0, .int .i64 0] 41 (0, 0))) := (Below.refl _ _).alloc (Nat.le_refl _) _
        have HE := Lib.hid (show NodesR w (w5.alloc (.cells #[.int .i64 0, .int .i64 0, .int .i64 0, .int .i64 0, .int .i64 0, .bool false, .int .i64 0, .int .i64 0, .int .i64 0, .int .i64 0, .int .i64 0, .int .i64 0] 41 (0, 0))) (.slice A l.length k) (pathN S y 8 i) from by
          rw [HPN.out rfl]
          exact ⟨(ho5.below hX).base_le (by have := HS1.out; omega), HOW.out.2, HB.out.trans ((ha5.trans (hX.mono ha5.size)).mono HB.out.size)⟩)
        clear hX ha5 ho5 HPN HPZ HPM HG hno hb5 hbw hBW
        simp only [ndW, ndO, Option.getD_none, ndNil]
        go_wp2_with fail
        go_ret
        exact ⟨_, rfl, HE.out⟩
      | some n =>
        have hok := hno n rfl
        have hcl : NdOk n := hok
        obtain ⟨a0, a1, a2, a3, a4, a5, a6, a7, a8, a9, a10, a11⟩ := n
        have hX : Below w5.heap.size w5 (w5.alloc (.cells #[.int .i64 a0, .int .i64 a1, .int .i64 a2, .int .i64 a3, .int .i64 a4, .bool a5, .int .i64 a6, .int .i64 a7, .int .i64 a8, .int .i64 a9, .int .i64 a10, .int .i64 a11] 41 (0, 0))) := (Below.refl _ _).alloc (Nat.le_refl _) _
        obtain ⟨wx, hwx⟩ : ∃ wx, wx = w5.alloc (.cells #[.int .i64 a0, .int .i64 a1, .int .i64 a2, .int .i64 a3, .int .i64 a4, .bool a5, .int .i64 a6, .int .i64 a7, .int .i64 a8, .int .i64 a9, .int .i64 a10, .int .i64 a11] 41 (0, 0)) := ⟨_, rfl⟩
        have hblk : wx.heap[w5.heap.size]? = some (.cells #[.int .i64 a0, .int .i64 a1, .int .i64 a2, .int .i64 a3, .int .i64 a4, .bool a5, .int .i64 a6, .int .i64 a7, .int .i64 a8, .int .i64 a9, .int .i64 a10, .int .i64 a11] 41 (0, 0)) := by rw [hwx]; exact heap_alloc_new w5 _
        have hsz : wx.heap.size = w5.heap.size + 1 := by rw [hwx]; simp
        rw [← hwx] at hX
        obtain ⟨r0, r1, r2, r3, r4, r5, r6, r7, r8, r9, r10, r11⟩ := node_cells hblk
        have hY : Below wx.heap.size wx (wx.alloc (.cells #[.int .i64 a0, .int .i64 a1, .int .i64 a2, .int .i64 a3, .int .i64 a4, .bool a5, .int .i64 a6, .int .i64 a7, .int .i64 a8, .int .i64 a9, .int .i64 a10, .int .i64 a11] 41 (0, 0))) := (Below.refl _ _).alloc (Nat.le_refl _) _
        have hXY := hX.trans (hY.mono hX.size)
        obtain ⟨v', w6, hrun, hown6, hb6, hg, hgr⟩ := (ho5.below hXY).append1 NdT (x := ⟨a0, a1, a2, a3, a4, a5, a6, a7, a8, a9, a10, a11⟩) (heap_alloc_new wx _) rfl hok (by omega) (Nat.le_trans ha5.size hXY.size) 22
        rw [hsz] at hrun
        obtain ⟨A6, k6, rfl, hk6⟩ := hown6.shape
        have hlen6 : (l ++ [(⟨a0, a1, a2, a3, a4, a5, a6, a7, a8, a9, a10, a11⟩ : Nd)]).length = l.length + 1 := by rw [List.length_append]; rfl
        rw [hlen6] at hrun hown6
        have HBX := Lib.hid ((ha5.trans (hXY.mono ha5.size)).trans hb6)
        have hcell2 : w6.cell? ⟨w5.heap.size, 2, none⟩ = some (.int .i64 a2) := by
          have hno : (Value.slice A l.length k).ownBlock ≠ some w5.heap.size := fun q => Nat.lt_irrefl _ ((ho5.at_ _ q).2)
          have hb := (hg.block w5.heap.size (by show w5.heap.size < (wx.alloc _).heap.size; have := hY.size; omega) (fun q => hno q.symm)).trans (hY.block _ (by omega))
          exact (World.cell?_of_block (a := ⟨w5.heap.size, 2, none⟩) hb).trans r2
        have hl' : ∀ x ∈ l ++ [(⟨a0, a1, a2, a3, a4, a5, a6, a7, a8, a9, a10, a11⟩ : Nd)], NdOk x := fun x hx => by
          rcases List.mem_append.1 hx with hx | hx
          · exact HOW.out.2 x hx
          · obtain rfl := List.mem_singleton.1 hx
            exact hok
        have HL' := Lib.hid hl'
        have HO6 := Lib.hid hown6
        have HA2 := Lib.hid (show Nd64 a2 from hcl _ (by simp))
        by_cases h0 : a2 = 0
        · have h0' : (a2 == 0) = true := by simp [h0]
          have HE := Lib.hid (show NodesR w w6 (.slice A6 (l.length + 1) k6) (pathN S y 8 i) from by
            rw [HPZ.out _ rfl h0]
            have q := HO6.out
            exact ⟨q.base_le (by have := HS1.out; omega), HL'.out, HB.out.trans (HBX.out.mono HB.out.size)⟩)
          have HRUN := Lib.hid hrun
          subst hwx
          clear hX hY hXY ha5 ho5 HPN HPZ HPM HG hno hb5 hbw hBW hrun hown6 hb6 hblk hok hcl hsz hl' hgr hk6 hlen6 h0
          simp only [ndW, ndO, Option.getD_some]
          go_wp2_with (at_builtin; refine Lib.wpList_append_run _ rfl _ _ _ _ rfl _ _ rfl rfl _ _ HRUN.out ?_)
          go_ret
          exact ⟨_, rfl, HE.out⟩
        · have h0' : (a2 == 0) = false := by simp [h0]
          have HE := Lib.hid (show NdE.Own 41 w6 w1.heap.size (.slice A6 (l ++ [(⟨a0, a1, a2, a3, a4, a5, a6, a7, a8, a9, a10, a11⟩ : Nd)]).length k6) (l ++ [⟨a0, a1, a2, a3, a4, a5, a6, a7, a8, a9, a10, a11⟩]) ∧ (∀ x ∈ l ++ [(⟨a0, a1, a2, a3, a4, a5, a6, a7, a8, a9, a10, a11⟩ : Nd)], NdOk x) ∧ Nd64 a2 ∧ pathN S y 8 i = (l ++ [⟨a0, a1, a2, a3, a4, a5, a6, a7, a8, a9, a10, a11⟩]) ++ pathN S y (8 - (l ++ [(⟨a0, a1, a2, a3, a4, a5, a6, a7, a8, a9, a10, a11⟩ : Nd)]).length) a2 from
            ⟨by rw [hlen6]; exact HO6.out, HL'.out, HA2.out, HPM.out _ rfl h0⟩)
          have HLEN := Lib.hid hlen6
          have HRUN := Lib.hid hrun
          subst hwx
          clear hX hY hXY ha5 ho5 HPN HPZ HPM HG hno hb5 hbw hBW hrun hown6 hb6 hblk hok hcl hsz hl' hgr hk6 hlen6 h0
          simp only [ndW, ndO, Option.getD_some]
          go_wp2_with (at_builtin; refine Lib.wpList_append_run _ rfl _ _ _ _ rfl _ _ rfl rfl _ _ HRUN.out ?_)
          go_roundw
          case rel => exact ⟨a2, _, A6, k6, rfl, by rw [HLEN.out], by rw [HLEN.out]; omega, HE, HBX⟩
          case measure => simp [sliceLen]; omega
    · have hl : l.length = 8 := by omega
      have HE := Lib.hid (show NodesR w wr (.slice A l.length k) (pathN S y 8 i) from by
        rw [hp, hl]
        show NodesR _ _ _ (l ++ pathN S y 0 j)
        unfold pathN
        rw [List.append_nil, ← hl]
        exact ⟨ho.base_le (by have := HS1.out; omega), hlok, HB.out.trans (hbw.out.mono HB.out.size)⟩)
      clear ho hlok hp hown
      go_wp2
      go_ret
      exact ⟨_, rfl, HE.out⟩
end
end Go.Proofs.YtlcbmobdokicaaaGreat
