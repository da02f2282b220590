/-
  The texts LinG, LinH joined. Conditions: those that each part says at its head.
-/
import Derived.Test.YtccibahlcpkiaaaGreatLinK
import Derived.Test.YtccibahlcpkiaaaGreatYrD
import Derived.Test.YtccibahlcpkiaaaGreatLinW

/-
  Contracts of the document's own funds and objects over its own view, and of its own Check of lines. Conditions: which number is an int; tables of fewer than 2^31 pairs.
-/
namespace Go.Proofs.YtccibahlcpkiaaaGreat
open Go.RowKit Go.Maps
set_option maxRecDepth 100000
set_option linter.unusedVariables false

set_option maxHeartbeats 800000 in
/-- The text of one sign that the statement names each fund with. -/
theorem refNameA_any (w : World) : Calls Tryz.prog 30 #[.string { data := #[97] }] w fun e w' => e = .returned (.bool true) ∧ w = w' := by
  go_enter Tryz.func30, Tryz.ntmps30
  go_wp2
  go_loopw [3] (fun i wr => ∃ j : Nat, j ≤ 1 ∧ i = .int .i64 j ∧ wr = w) (fun i _ => 1 - (intOf i).toNat)
  case atStart => exact ⟨0, by omega, rfl, rfl⟩
  case round =>
    obtain ⟨j, hj, rfl, rfl⟩ := hrel
    by_cases h0 : j = 0
    · subst h0
      go_wp2
      go_roundw
      case rel => exact ⟨1, by omega, rfl, trivial⟩
      case measure => simp [intOf]
    · obtain rfl : j = 1 := by omega
      go_wp2
      go_ret
      exact ⟨rfl, rfl⟩

section
variable {w w' : World} {X : Nat → Prop} {x p q r : Nat} {a b d : TL}
/-- The funds that a table tells. -/
def rFundsL (b : TL) : List Int := numsK ((b.filter fun q => (tx [70]).isPrefixOf q.1).map kvOf)
set_option maxHeartbeats 3200000 in
theorem rFunds_any (h : RefAt w X x p q r a b d) (hN : b.length ≤ 2147483647) :
    Calls Tryz.prog 54 #[.pointer (some ⟨x, 0, none⟩), .int .u8 70] w fun e w' => ∃ A c, e = .returned (.slice A (rFundsL b).length c) ∧ Below w.heap.size w w' := by
  have hb1 : Below w.heap.size w (w.alloc (.cells #[.int .u8 70] 5)) := (Below.refl _ _).alloc (Nat.le_refl _) _
  have hone := RB.one w (u := 70) 5 (by omega)
  have HSC := Lib.hid (refScan_any (k := 1) (h.below hb1) hN hone (by simp) (by decide) (Nat.le_refl _))
  have HY := Lib.hid (show ∀ y ∈ (b.filter fun q => (tx [70]).isPrefixOf q.1).map kvOf, y.1[0]? = some 70 from fun y hy => by
    obtain ⟨q, hq, rfl⟩ := List.mem_map.1 hy
    obtain ⟨hq1, hq2⟩ := List.mem_filter.1 hq
    exact (tag_prefix (by omega) q.1).1 hq2)
  have HL := Lib.hid (show ((b.filter fun q => (tx [70]).isPrefixOf q.1).map kvOf).length ≤ 4294967296 by rw [List.length_map]; have := List.length_filter_le (fun q : Txt × List Int => (tx [70]).isPrefixOf q.1) b; omega)
  have HSC2 := Lib.hid (HSC.out.mono (R' := fun e w' => ∃ A' n' k', e = .returned (.slice A' n' k') ∧ n' ≤ k' ∧ RPairs w' w'.heap.size A' n' ((b.filter fun q => (tx [70]).isPrefixOf q.1).map kvOf) ∧ Below (w.alloc (.cells #[.int .u8 70] 5)).heap.size (w.alloc (.cells #[.int .u8 70] 5)) w') fun e w' z => by
    obtain ⟨A', n', k', e1, hs, hb⟩ := z
    exact ⟨A', n', k', e1, hs.1, hs.pairs, hb⟩)
  clear HSC
  unfold rFundsL
  generalize (b.filter fun q => (tx [70]).isPrefixOf q.1).map kvOf = ps at HSC2 HL HY ⊢
  have HB1 := Lib.hid hb1
  clear h hone hb1
  go_enter Tryz.func54, Tryz.ntmps54
  go_wp2_with fail
  refine HSC2.out.mono ?_
  rintro e w2 ⟨A2, n, k2, rfl, hnk, hp, hb2⟩
  have HP := Lib.hid hp
  have HB2 := Lib.hid (HB1.out.trans (hb2.mono HB1.out.size))
  have hn : n ≤ 4294967296 := by rw [← hp.len]; exact HL.out
  clear hp hb2 HSC2 HB1 HL
  go_wp2_with fail
  go_loopw [5, 7] (fun u i wr => ∃ k : Nat, k ≤ n ∧ i = .int .i64 k ∧ Hid (wr.ownsRow w2.heap.size 3 1 u (numsK (ps.take k)).length ((numsK (ps.take k)).map (Value.int .i64))) ∧ Hid (Below w2.heap.size w2 wr)) (fun _ i _ => n - (intOf i).toNat)
  case atStart => exact ⟨0, Nat.zero_le _, rfl, Lib.hid (World.ownsRow_nil _ _ _ _), Lib.hid (Below.refl _ _)⟩
  case round =>
    obtain ⟨k, hk, rfl, hown, hbw⟩ := hrel
    by_cases hlt : k < n
    · have hlt' : (k : Int) < (n : Int) := by omega
      obtain ⟨bb, off, rfl, hbb, hat⟩ := HP.out.2 (by omega)
      obtain ⟨y, hy⟩ : ∃ y, ps[k]? = some y := ⟨_, List.getElem?_eq_getElem (by rw [HP.out.len]; exact hlt)⟩
      obtain ⟨ka, kn, kc, va, vn, vc, h0, h1, h2, ⟨h3a, h3b⟩, h4, _⟩ := (hat k y hy).keep hbb (fun b o hbb => hbw.out.cell (p := ⟨b, o, none⟩) hbb)
      have hst := Lib.hid (numsK_step hy)
      have hlen : (numsK (ps.take k)).length ≤ k := Nat.le_trans (numsK_len _) (by rw [List.length_take]; exact Nat.min_le_left _ _)
      have HG := Lib.hid (rOf_any 70 h2 hbw.out.size h3a h3b (HY.out y (List.mem_of_getElem? hy)))
      clear hat hy h2 h4
      go_wp2_with fail
      refine HG.out.mono ?_
      rintro e w4 ⟨A4, n4, c4, ok, rfl, hyes, hno, hb4⟩
      have HA4 := Lib.hid (hbw.out.trans (hb4.mono hbw.out.size))
      have HO4 := Lib.hid (own_later hown.out hb4)
      cases ok with
      | false =>
        have hst2 := Lib.hid (show numsK (ps.take (k + 1)) = numsK (ps.take k) from by rw [hst.out, hno rfl]; simp)
        clear hyes hno hb4 hown hbw HG hst h0 h1
        go_wp2_with fail
        go_roundw
        case rel => exact ⟨k + 1, by omega, by go_num, by rw [hst2.out]; exact HO4, HA4⟩
        case measure => simp [intOf]; omega
      | true =>
        obtain ⟨z, rfl, hz, hr4⟩ := hyes rfl
        obtain ⟨b4, o4, rfl, hb4l, hc4⟩ := hr4.2.2 (by omega)
        have c0 := hc4 0 (by omega)
        simp only [Nat.add_zero, List.getElem?_cons_zero, Option.getD_some] at c0
        rw [hz] at hst
        have hst2 := Lib.hid (show numsK (ps.take (k + 1)) = numsK (ps.take k) ++ [z] from hst.out)
        have hY : Below w4.heap.size w4 (w4.alloc (.cells #[.int .i64 z] 3 (0, 0))) := (Below.refl _ _).alloc (Nat.le_refl _) _
        obtain ⟨v5, w5, hrun, hown5, hb5⟩ := run_append_int1 (own_later HO4.out hY) (heap_alloc_new w4 _) (by omega) (Nat.le_trans HA4.out.size hY.size) 22
        rw [← hst2.out] at hown5
        have HE := Lib.hid (show w5.ownsRow w2.heap.size 3 1 v5 (numsK (ps.take (k + 1))).length ((numsK (ps.take (k + 1))).map (Value.int .i64)) ∧ Below w2.heap.size w2 w5 from ⟨by rw [show (numsK (ps.take (k + 1))).length = (numsK (ps.take k)).length + 1 by rw [hst2.out, List.length_append]; rfl]; exact hown5, (HA4.out.trans (hY.mono HA4.out.size)).trans hb5⟩)
        have HRUN := Lib.hid hrun
        obtain ⟨PA, PC, rfl, _⟩ := int_own_shape HO4.out
        clear hc4 hr4 hb4 hno hyes hst h0 h1 hown hbw HG hz hY hrun hown5 hb5 hlen
        generalize (numsK (ps.take k)).length = N at HRUN HO4 ⊢
        go_wp2_with (at_builtin; refine Lib.wpList_append_run _ rfl _ _ _ _ rfl _ _ rfl rfl _ _ HRUN.out ?_)
        go_roundw
        case rel => exact ⟨k + 1, by omega, by go_num, Lib.hid HE.out.1, Lib.hid HE.out.2⟩
        case measure => simp [intOf]; omega
    · obtain rfl : k = n := by omega
      have hO := hown.out
      rw [List.take_of_length_le (by rw [HP.out.len]; exact Nat.le_refl _)] at hO
      obtain ⟨PA, PC, rfl, _⟩ := int_own_shape hO
      have HE := Lib.hid (HB2.out.trans (hbw.out.mono HB2.out.size))
      clear hown hO hbw
      obtain ⟨N, hN⟩ : ∃ N, (numsK ps).length = N := ⟨_, rfl⟩
      have HN := Lib.hid hN
      rw [hN]
      clear hN
      go_wp2
      go_ret
      exact ⟨PA, PC, by rw [HN.out]; rfl, HE.out⟩
set_option maxHeartbeats 1600000 in
theorem rFund_any (h : RefAt w X x p q r a b d) (hN : b.length ≤ 2147483647) (f : Int) (hf : -9223372036854775808 ≤ f ∧ f ≤ 9223372036854775807) :
    Calls Tryz.prog 31 #[.pointer (some ⟨x, 0, none⟩), .int .i64 f] w fun e w' => ∃ st, e = .returned (.tuple #[.string st, .bool (lookT b (tx (keyL 70 [f]))).isSome]) ∧ Below w.heap.size w w' := by
  have hb1 : Below w.heap.size w (w.alloc (.cells #[.int .i64 f] 3)) := (Below.refl _ _).alloc (Nat.le_refl _) _
  have HK := Lib.hid (rOne_any 70 f (w.alloc (.cells #[.int .i64 f] 3)) w.heap.size 3 (by omega) (heap_alloc_new w _) hf)
  have HV := Lib.hid (h.below hb1)
  have HB := Lib.hid hb1
  clear h hb1
  generalize hbs : (lookT b (tx (keyL 70 [f]))).isSome = bs
  have HBS := Lib.hid hbs
  clear hbs
  go_enter Tryz.func31, Tryz.ntmps31
  go_wp2_with fail
  refine HK.out.mono ?_
  rintro e w2 ⟨A, k, rfl, hs, hb2⟩
  obtain ⟨s1, s2, s3⟩ := hs.parts
  have HG := Lib.hid (rvGet_any (k := k) (HV.out.below hb2) hN s1 (Nat.le_refl _))
  have HB2 := Lib.hid (HB.out.trans (hb2.mono HB.out.size))
  rw [HBS.out] at HG
  clear hs s1 s2 s3 hb2 HK HV HB
  go_wp2_with fail
  refine HG.out.mono ?_
  rintro e w3 ⟨u, rfl, hs, hb3⟩
  obtain ⟨A3, n3, k3, rfl, _, _, hr3, _⟩ := hs
  have hconv := hr3.conv k3
  have HE := Lib.hid (HB2.out.trans (hb3.mono HB2.out.size))
  clear hr3 hb3 HG HB2
  go_wp2_with fail
  go_ret2
  exact ⟨_, rfl, HE.out⟩
set_option maxHeartbeats 1600000 in
theorem rObject_any (h : RefAt w X x p q r a b d) (hN : b.length ≤ 2147483647) (n : Int) (hn : -9223372036854775808 ≤ n ∧ n ≤ 9223372036854775807) :
    Calls Tryz.prog 41 #[.pointer (some ⟨x, 0, none⟩), .int .i64 n] w fun e w' => e = .returned (.bool (fixedB n || (lookT b (tx (keyL 79 [n]))).isSome)) ∧ Below w.heap.size w w' := by
  have hb1 : Below w.heap.size w (w.alloc (.cells #[.int .i64 n] 3)) := (Below.refl _ _).alloc (Nat.le_refl _) _
  have HK := Lib.hid (rOne_any 79 n (w.alloc (.cells #[.int .i64 n] 3)) w.heap.size 3 (by omega) (heap_alloc_new w _) hn)
  have HF := Lib.hid (fun W => refFixed_any n W)
  have HV := Lib.hid (h.below hb1)
  have HB := Lib.hid hb1
  clear h hb1
  generalize hbs : (lookT b (tx (keyL 79 [n]))).isSome = bs
  have HBS := Lib.hid hbs
  generalize fixedB n = fx at HF ⊢
  clear hbs
  have HG0 := Lib.hid (show ∀ W A k, Below (w.alloc (.cells #[.int .i64 n] 3)).heap.size (w.alloc (.cells #[.int .i64 n] 3)) W → RB W W.heap.size A 5 (keyL 79 [n]) → Calls Tryz.prog 53 #[.pointer (some ⟨x, 0, none⟩), .slice A 5 k] W fun e w' => ∃ u, e = .returned (.tuple #[u, .bool bs]) ∧ Below W.heap.size W w' from fun W A k hb hr => (rvGet_any (k := k) (HV.out.below hb) hN hr (Nat.le_refl _)).mono fun e w' q => by
    obtain ⟨u, e1, _, hb'⟩ := q
    rw [HBS.out] at e1
    exact ⟨u, e1, hb'⟩)
  clear HV HBS
  cases bs with
  | true =>
    rw [Bool.or_true]
    go_enter Tryz.func41, Tryz.ntmps41
    go_wp2_with fail
    refine HK.out.mono ?_
    rintro e w2 ⟨A, k, rfl, hs, hb2⟩
    have HG := Lib.hid (HG0.out w2 A k hb2 hs.parts.1)
    have HB2 := Lib.hid (HB.out.trans (hb2.mono HB.out.size))
    clear hs hb2 HK HB HG0
    go_wp2_with fail
    refine HG.out.mono ?_
    rintro e w3 ⟨u, rfl, hb3⟩
    have HE := Lib.hid (HB2.out.trans (hb3.mono HB2.out.size))
    clear hb3
    go_wp2
    go_ret
    exact ⟨rfl, HE.out⟩
  | false =>
    rw [Bool.or_false]
    go_enter Tryz.func41, Tryz.ntmps41
    go_wp2_with fail
    refine HK.out.mono ?_
    rintro e w2 ⟨A, k, rfl, hs, hb2⟩
    have HG := Lib.hid (HG0.out w2 A k hb2 hs.parts.1)
    have HB2 := Lib.hid (HB.out.trans (hb2.mono HB.out.size))
    clear hs hb2 HK HB HG0
    go_wp2_with fail
    refine HG.out.mono ?_
    rintro e w3 ⟨u, rfl, hb3⟩
    have HE := Lib.hid (HB2.out.trans (hb3.mono HB2.out.size))
    clear hb3
    go_wp2_with fail
    refine (HF.out _).mono ?_
    rintro e w4 ⟨rfl, rfl⟩
    go_wp2
    go_ret
    exact ⟨rfl, HE.out⟩
/-- What the document's NewFund answers. -/
def rFundE (b : TL) (f : Int) : Int := if fundB f = true then (if (lookT b (tx (keyL 70 [f]))).isSome = true then 8 else if 40 ≤ (rFundsL b).length then 11 else 0) else 1
theorem putE_A (f : Int) : putE (keyL 70 [f]) (by_ lwA) = 0 := by
  unfold putE
  rw [keyLen1, by_length]
  exact if_neg (by rintro (a | a | a) <;> revert a <;> decide)
set_option maxHeartbeats 3200000 in
theorem rNewFund_any (h : RefAt w X x p q r a b d) (hN : b.length ≤ 2147483647) (hD : d.length ≤ 2147483647) (f : Int) (hf : -9223372036854775808 ≤ f ∧ f ≤ 9223372036854775807) :
    Calls Tryz.prog 10 #[.pointer (some ⟨x, 0, none⟩), .int .i64 f, .string { data := #[97] }] w fun e w' => e = .returned (.int .i64 (rFundE b f)) ∧ RefAt w' X x p q r a (if rFundE b f = 0 then setT b (tx (keyL 70 [f])) (by_ lwA) else b) (if rFundE b f = 0 then setT d (tx (keyL 70 [f])) [] else d) ∧ Touch (fun k => k = q ∨ k = r) w w' := by
  have HF := Lib.hid (fun W => refFund_any f W)
  have HNM := Lib.hid (fun W => refNameA_any W)
  have HR := Lib.hid h
  have HSAME := Lib.hid (show ∀ W, Below w.heap.size w W → RefAt W X x p q r a b d ∧ Touch (fun k => k = q ∨ k = r) w W from fun W hb => ⟨h.below hb, Touch.of_below hb⟩)
  have HFD := Lib.hid (show ∀ W, Below w.heap.size w W → Calls Tryz.prog 31 #[.pointer (some ⟨x, 0, none⟩), .int .i64 f] W fun e w' => ∃ st, e = .returned (.tuple #[.string st, .bool (lookT b (tx (keyL 70 [f]))).isSome]) ∧ Below W.heap.size W w' from fun W hb => rFund_any (h.below hb) hN f hf)
  have HAL := Lib.hid (show ∀ W, Below w.heap.size w W → Calls Tryz.prog 32 #[.pointer (some ⟨x, 0, none⟩)] W fun e w' => ∃ A c, e = .returned (.slice A (rFundsL b).length c) ∧ Below W.heap.size W w' from fun W hb => by
    have HQ := Lib.hid (rFunds_any (h.below hb) hN)
    go_enter Tryz.func32, Tryz.ntmps32
    go_wp2_with fail
    refine HQ.out.mono ?_
    rintro e w2 ⟨A, c, rfl, hb2⟩
    have HE := Lib.hid hb2
    clear hb2
    go_wp2
    go_ret
    exact ⟨A, c, rfl, HE.out⟩)
  cases hfb : fundB f with
  | false =>
    have e1 : rFundE b f = 1 := by unfold rFundE; rw [hfb]; rfl
    rw [e1, if_neg (by decide), if_neg (by decide)]
    rw [hfb] at HF
    clear h e1 hfb
    go_enter Tryz.func10, Tryz.ntmps10
    go_wp2_with fail
    refine (HF.out _).mono ?_
    rintro e w' ⟨rfl, rfl⟩
    go_wp2
    go_ret
    exact ⟨rfl, HSAME.out _ (Below.refl _ _)⟩
  | true =>
  rw [hfb] at HF
  cases his : (lookT b (tx (keyL 70 [f]))).isSome with
  | true =>
    have e1 : rFundE b f = 8 := by unfold rFundE; rw [hfb, his]; rfl
    rw [e1, if_neg (by decide), if_neg (by decide)]
    rw [his] at HFD
    clear h e1 hfb his
    go_enter Tryz.func10, Tryz.ntmps10
    go_wp2_with fail
    refine (HF.out _).mono ?_
    rintro e w' ⟨rfl, rfl⟩
    go_wp2_with fail
    refine (HNM.out _).mono ?_
    rintro e w' ⟨rfl, rfl⟩
    go_wp2_with fail
    refine (HFD.out _ (Below.refl _ _)).mono ?_
    rintro e w2 ⟨st, rfl, hb⟩
    have HE := Lib.hid hb
    clear hb
    go_wp2
    go_ret
    exact ⟨rfl, HSAME.out _ HE.out⟩
  | false =>
  rw [his] at HFD
  by_cases h40 : 40 ≤ (rFundsL b).length
  · have e1 : rFundE b f = 11 := by unfold rFundE; rw [hfb, his, if_pos h40]; rfl
    rw [e1, if_neg (by decide), if_neg (by decide)]
    generalize (rFundsL b).length = N at HAL h40
    have hN40 : (40 : Int) ≤ (N : Int) := by omega
    clear h e1 hfb his
    go_enter Tryz.func10, Tryz.ntmps10
    go_wp2_with fail
    refine (HF.out _).mono ?_
    rintro e w' ⟨rfl, rfl⟩
    go_wp2_with fail
    refine (HNM.out _).mono ?_
    rintro e w' ⟨rfl, rfl⟩
    go_wp2_with fail
    refine (HFD.out _ (Below.refl _ _)).mono ?_
    rintro e w2 ⟨st, rfl, hb⟩
    have HB := Lib.hid hb
    clear hb
    go_wp2_with fail
    refine (HAL.out _ HB.out).mono ?_
    rintro e w3 ⟨A, k, rfl, hb⟩
    have HE := Lib.hid (HB.out.trans (hb.mono HB.out.size))
    clear hb
    go_wp2
    go_ret
    exact ⟨rfl, HSAME.out _ HE.out⟩
  · have e1 : rFundE b f = 0 := by unfold rFundE; rw [hfb, his, if_neg h40]; rfl
    rw [e1, if_pos rfl, if_pos rfl]
    generalize (rFundsL b).length = N at HAL h40
    have hN40 : ¬ (40 : Int) ≤ (N : Int) := by omega
    clear h e1 hfb his
    go_enter Tryz.func10, Tryz.ntmps10
    go_wp2_with fail
    refine (HF.out _).mono ?_
    rintro e w' ⟨rfl, rfl⟩
    go_wp2_with fail
    refine (HNM.out _).mono ?_
    rintro e w' ⟨rfl, rfl⟩
    go_wp2_with fail
    refine (HFD.out _ (Below.refl _ _)).mono ?_
    rintro e w2 ⟨st, rfl, hb⟩
    have HB := Lib.hid hb
    clear hb
    go_wp2_with fail
    refine (HAL.out _ HB.out).mono ?_
    rintro e w3 ⟨A, k, rfl, hb⟩
    have HB3 := Lib.hid (HB.out.trans (hb.mono HB.out.size))
    clear hb
    have hba : Below w3.heap.size w3 (w3.alloc (.cells #[.int .i64 f] 3)) := (Below.refl _ _).alloc (Nat.le_refl _) _
    have HK := Lib.hid (rOne_any 70 f (w3.alloc (.cells #[.int .i64 f] 3)) w3.heap.size 3 (by omega) (heap_alloc_new w3 _) hf)
    have HBA := Lib.hid (HB3.out.trans (hba.mono HB3.out.size))
    clear hba
    go_wp2_with fail
    refine HK.out.mono ?_
    rintro e w4 ⟨A4, k4, rfl, hs4, hb4⟩
    have hb04 := HBA.out.trans (hb4.mono HBA.out.size)
    obtain ⟨u5, w5, hconv, hsv5, hb5⟩ := conv_txt w4 lwA (by decide)
    have hb05 := hb04.trans (hb5.mono hb04.size)
    have hXl := HR.out.old
    have hk1 : SV w5 X (.slice A4 5 k4) (keyL 70 [f]) := apart_of hs4 (fun z hz => Nat.lt_of_lt_of_le (hXl z hz) HBA.out.size) hb5
    have hk2 : SV w5 X u5 (by_ lwA) := apart_of hsv5 (fun z hz => Nat.lt_of_lt_of_le (hXl z hz) hb04.size) (Below.refl _ _)
    obtain ⟨A5, n5, k5, rfl⟩ := hsv5.slice
    have hput := rvPut_any (HR.out.below hb05) hN hD hk1 hk2
    rw [putE_A, if_pos rfl, if_pos rfl] at hput
    have HQ := Lib.hid hput
    have HB5 := Lib.hid hb05
    rw [show encStr lwA = .string { data := #[97] } from rfl] at hconv
    clear hs4 hb4 hb04 hsv5 hb5 hb05 hXl hk1 hk2 hput HK HBA
    go_wp2_with fail
    refine HQ.out.mono ?_
    rintro e w6 ⟨rfl, hr6, ht6⟩
    have HE := Lib.hid (And.intro hr6 ((Touch.of_below HB5.out).trans ht6))
    clear hr6 ht6
    go_wp2
    go_ret
    exact ⟨rfl, HE.out⟩
end
end Go.Proofs.YtccibahlcpkiaaaGreat

/-
  Contract of the document's own Check of lines over its own view. Conditions: fewer than 2^31 lines; tables of fewer than 2^31 pairs.
-/
namespace Go.Proofs.YtccibahlcpkiaaaGreat
open Go.RowKit Go.Maps
set_option maxRecDepth 100000
set_option linter.unusedVariables false

def rightP (x : Ln) : Bool := !decide (x.a < -9007199254740992) && !decide (9007199254740992 < x.a) && !(x.a == 0) && !(x.n != 0) && (x.o != 1900) && (x.o != 2900)
theorem rightP_wrong {x : Ln} (hx : LnOk x) : wrongB x = !rightP x := by
  obtain ⟨xf, xo, xn, xa⟩ := x
  have h1 := hx.2.2.2
  unfold B64 at h1
  simp only at h1
  have h2 : (amtRightB xa || amtRightB (IntKind.i64.wrap (-xa))) = (!decide (xa < -9007199254740992) && !decide (9007199254740992 < xa) && !(xa == 0)) := by
    rw [Bool.eq_iff_iff]
    unfold amtRightB
    simp only [Bool.or_eq_true, Bool.and_eq_true, decide_eq_true_eq, Bool.not_eq_true', decide_eq_false_iff_not, beq_eq_false_iff_ne, IntKind.wrap_i64]
    omega
  unfold wrongB rightP
  simp only
  rw [h2]
  generalize (!decide (xa < -9007199254740992) && !decide (9007199254740992 < xa) && !(xa == 0)) = b1
  generalize hb2 : (xn != 0) = b2
  have h3 : (xo != 1900) = !(xo == 1900) := rfl
  have h4 : (xo != 2900) = !(xo == 2900) := rfl
  rw [h3, h4]
  generalize (xo == 1900) = b3
  generalize (xo == 2900) = b4
  cases b1 <;> cases b2 <;> cases b3 <;> cases b4 <;> rfl
set_option maxHeartbeats 6400000 in
theorem refRightL_any (x : Ln) (w : World) : Calls Tryz.prog 40 #[.agg #[.int .i64 x.f, .int .i64 x.o, .int .i64 x.n, .int .i64 x.a]] w fun e w' => e = .returned (.bool (rightP x)) ∧ Below w.heap.size w w' := by
  obtain ⟨xf, xo, xn, xa⟩ := x
  have HX := Lib.hid (show Below w.heap.size w (w.alloc (.cells #[.int .i64 xf, .int .i64 xo, .int .i64 xn, .int .i64 xa] 37 (0, 0))) from (Below.refl _ _).alloc (Nat.le_refl _) _)
  unfold rightP
  simp only
  by_cases h1 : xa < -9007199254740992
  · rw [decide_eq_true h1]
    simp only [Bool.not_true, Bool.false_and]
    go_enter Tryz.func40, Tryz.ntmps40
    go_wp2
    go_ret
    exact ⟨rfl, HX.out⟩
  rw [decide_eq_false h1]
  by_cases h2 : 9007199254740992 < xa
  · rw [decide_eq_true h2]
    simp only [Bool.not_true, Bool.false_and, Bool.and_false]
    have h2' : xa > 9007199254740992 := h2
    go_enter Tryz.func40, Tryz.ntmps40
    go_wp2
    go_ret
    exact ⟨rfl, HX.out⟩
  rw [decide_eq_false h2]
  have h2' : ¬ xa > 9007199254740992 := h2
  generalize hb1 : (xa == 0) = b1
  generalize hb2 : (xn != 0) = b2
  generalize hb3 : (xo != 1900) = b3
  generalize hb4 : (xo != 2900) = b4
  cases b1 <;> cases b2 <;> cases b3 <;> cases b4
  all_goals
    go_enter Tryz.func40, Tryz.ntmps40
    go_wp2
    go_ret
    exact ⟨rfl, HX.out⟩

section
variable {w w' : World} {X : Nat → Prop} {x p q r : Nat} {a b d : TL} {A : Option Addr} {n k B : Nat} {l : List Ln}
def thereT (b : TL) (x : Ln) : Bool := (lookT b (tx (keyL 70 [x.f]))).isSome && (fixedB x.o || (lookT b (tx (keyL 79 [x.o]))).isSome)
def checkT (b : TL) (l : List Ln) : Int := if l.length < 2 ∨ 6 < l.length ∨ l.any wrongB = true then 1 else if l.any (fun x => !thereT b x) = true then 7 else levelE l
theorem sumAll_small : ∀ (l : List Ln), (∀ x ∈ l, -9007199254740992 ≤ x.a ∧ x.a ≤ 9007199254740992) → -(l.length * 9007199254740992 : Int) ≤ sumAll l ∧ sumAll l ≤ l.length * 9007199254740992
  | [], _ => ⟨by decide, by decide⟩
  | x :: r, h => by
    have ih := sumAll_small r fun y hy => h y (List.mem_cons_of_mem _ hy)
    have hx := h x (List.mem_cons_self ..)
    have e : sumAll (x :: r) = x.a + sumAll r := rfl
    rw [e, List.length_cons]
    omega
theorem sumAll_snoc {l : List Ln} {j : Nat} {x : Ln} (h : l[j]? = some x) : sumAll (l.take (j + 1)) = sumAll (l.take j) + x.a := by
  obtain ⟨hj, rfl⟩ := List.getElem?_eq_some_iff.1 h
  unfold sumAll
  rw [List.take_succ_eq_append_getElem hj, List.map_append, List.sum_append]
  simp only [List.map_cons, List.map_nil, List.sum_cons, List.sum_nil, Int.add_zero]
theorem any_before {l : List Ln} {f : Ln → Bool} (h : ∀ (i : Nat) (x : Ln), i < l.length → l[i]? = some x → f x = false) : l.any f = false := by
  rw [List.any_eq_false]
  intro x hx
  obtain ⟨i, hi, rfl⟩ := List.mem_iff_getElem.1 hx
  simpa using h i _ hi (List.getElem?_eq_getElem hi)
set_option maxHeartbeats 6400000 in
theorem refCheckL_any (h : RefAt w X x p q r a b d) (hN : b.length ≤ 2147483647) (hr : RL w B A n l) (hB : B ≤ w.heap.size) (hn : n ≤ 2147483647) (hnk : n ≤ k) :
    Calls Tryz.prog 12 #[.pointer (some ⟨x, 0, none⟩), .slice A n k] w fun e w' => e = .returned (.int .i64 (checkT b l)) ∧ Below w.heap.size w w' := by
  have hlen := hr.len
  by_cases hsz : n < 2 ∨ 6 < n
  · have HE := Lib.hid (show checkT b l = 1 from by unfold checkT; rw [hlen, if_pos (by omega)])
    clear h hr hlen
    by_cases h2 : n < 2
    · have h2' : (n : Int) < 2 := by omega
      go_enter Tryz.func12, Tryz.ntmps12
      go_wp2
      go_ret
      rw [HE.out]
      exact ⟨rfl, Below.refl _ _⟩
    · have h2' : ¬ (n : Int) < 2 := by omega
      have h6 : (n : Int) > 6 := by omega
      go_enter Tryz.func12, Tryz.ntmps12
      go_wp2
      go_ret
      rw [HE.out]
      exact ⟨rfl, Below.refl _ _⟩
  · have h2' : ¬ (n : Int) < 2 := by omega
    have h6 : ¬ (n : Int) > 6 := by omega
    have hn6 : n ≤ 6 := by omega
    have HR := Lib.hid (And.intro hr hB)
    have HLN := Lib.hid hlen
    have HFD := Lib.hid (show ∀ W f, Below w.heap.size w W → (-9223372036854775808 ≤ f ∧ f ≤ 9223372036854775807) → Calls Tryz.prog 31 #[.pointer (some ⟨x, 0, none⟩), .int .i64 f] W fun e w' => ∃ st, e = .returned (.tuple #[.string st, .bool (lookT b (tx (keyL 70 [f]))).isSome]) ∧ Below W.heap.size W w' from fun W f hb hf => rFund_any (h.below hb) hN f hf)
    have HOB := Lib.hid (show ∀ W f, Below w.heap.size w W → (-9223372036854775808 ≤ f ∧ f ≤ 9223372036854775807) → Calls Tryz.prog 41 #[.pointer (some ⟨x, 0, none⟩), .int .i64 f] W fun e w' => e = .returned (.bool (fixedB f || (lookT b (tx (keyL 79 [f]))).isSome)) ∧ Below W.heap.size W w' from fun W f hb hf => rObject_any (h.below hb) hN f hf)
    clear h hr hB hlen hsz
    go_enter Tryz.func12, Tryz.ntmps12
    go_wp2_with fail
    go_loopw [5, 6] (fun s i wr => ∃ j : Nat, j ≤ n ∧ i = .int .i64 j ∧ ∃ v : Int, s = .int .i64 v ∧ Hid ((v - sumAll (l.take j)) % 18446744073709551616 = 0 ∧ B64 v ∧ (∀ (i : Nat) (y : Ln), i < j → l[i]? = some y → wrongB y = false) ∧ Below w.heap.size w wr)) (fun _ i _ => n - (intOf i).toNat)
    case atStart => exact ⟨0, Nat.zero_le _, rfl, 0, rfl, Lib.hid ⟨by rw [List.take_zero]; rfl, by unfold B64; omega, fun i y h => absurd h (Nat.not_lt_zero _), Below.refl _ _⟩⟩
    case round =>
      obtain ⟨j, hj, rfl, v, rfl, HI⟩ := hrel
      obtain ⟨hv, hv64, hno, hb⟩ := HI.out
      by_cases hlt : j < n
      · have hlt' : (j : Int) < (n : Int) := by omega
        obtain ⟨y, hy⟩ : ∃ y, l[j]? = some y := ⟨_, List.getElem?_eq_getElem (by rw [HLN.out]; exact hlt)⟩
        have hyk := HR.out.1.ok y (List.mem_of_getElem? hy)
        obtain ⟨bb, off, rfl, hbB, hat⟩ := HR.out.1.2.2 (by omega)
        obtain ⟨c0, c1', c2, c3⟩ := (hat j y hy).keep hbB (fun b o hbb => hb.cell (p := ⟨b, o, none⟩) (Nat.lt_of_lt_of_le hbb HR.out.2))
        have hbl := Nat.lt_of_lt_of_le (Nat.lt_of_lt_of_le hbB HR.out.2) hb.size
        have HRT := Lib.hid (refRightL_any y wr)
        have hrw := rightP_wrong hyk
        cases hw : rightP y with
        | false =>
          rw [hw] at HRT hrw
          have HE := Lib.hid (show checkT b l = 1 from by unfold checkT; rw [if_pos (.inr (.inr (List.any_eq_true.2 ⟨y, List.mem_of_getElem? hy, by rw [hrw]; rfl⟩)))])
          have HBB := Lib.hid hb
          obtain ⟨yf, yo, yn, ya⟩ := y
          simp only at c0 c1' c2 c3 HRT
          clear hv hv64 hno hb hy hyk hat HI hw hrw
          go_wp2_with fail
          refine HRT.out.mono ?_
          rintro e w2 ⟨rfl, hb2⟩
          have HB2 := Lib.hid (HBB.out.trans (hb2.mono HBB.out.size))
          clear hb2
          go_wp2
          go_ret
          rw [HE.out]
          exact ⟨rfl, HB2.out⟩
        | true =>
          rw [hw] at HRT hrw
          have hstep := sumAll_snoc hy
          have HC3 := Lib.hid (show ∀ W, Below wr.heap.size wr W → W.cell? ⟨bb, off + j * 4 + 3, none⟩ = some (.int .i64 y.a) from fun W hW => (hW.cell (p := ⟨bb, off + j * 4 + 3, none⟩) hbl).trans c3)
          obtain ⟨z, hz⟩ : ∃ z, IntKind.i64.wrap (v + y.a) = z := ⟨_, rfl⟩
          have HE := Lib.hid (show ∀ W, Below wr.heap.size wr W → (z - sumAll (l.take (j + 1))) % 18446744073709551616 = 0 ∧ B64 z ∧ (∀ (i : Nat) (x : Ln), i < j + 1 → l[i]? = some x → wrongB x = false) ∧ Below w.heap.size w W from fun W hW => ⟨by
            rw [hstep, ← hz]
            have := wrap_mod (v + y.a)
            omega, by rw [← hz]; exact wrap_in _, fun i x hi hx => by
            rcases Nat.lt_or_ge i j with h | h
            · exact hno i x h hx
            · obtain rfl : i = j := by omega
              rw [hy] at hx
              cases hx
              exact hrw, hb.trans (hW.mono hb.size)⟩)
          obtain ⟨yf, yo, yn, ya⟩ := y
          simp only at c0 c1' c2 c3 HRT HC3 hz
          clear hv hv64 hno hb hy hyk hat HI hw hrw hstep
          go_wp2_with fail
          refine HRT.out.mono ?_
          rintro e w2 ⟨rfl, hb2⟩
          have c3' := HC3.out w2 hb2
          have HE2 := Lib.hid (HE.out w2 hb2)
          clear hb2
          go_wp2
          go_roundw
          case rel => exact ⟨j + 1, by omega, by go_num, z, rfl, HE2⟩
          case measure => simp [intOf]; omega
      · obtain rfl : j = n := by omega
        rw [List.take_of_length_le (by rw [HLN.out]; exact Nat.le_refl _)] at hv
        have hwr := any_before (l := l) (f := wrongB) (fun i y hi hy => hno i y (by rw [← HLN.out]; exact hi) hy)
        have hsm := sumAll_small l fun y hy => wrong_small (HR.out.1.ok y hy) (by
          have := List.any_eq_false.1 hwr y hy
          simpa using this)
        rw [HLN.out] at hsm
        have HCK := Lib.hid (show ∀ tb, l.any (fun x => !thereT b x) = tb → checkT b l = if tb = true then 7 else if v ≠ 0 then 10 else 0 from fun tb htb => by
          unfold checkT
          rw [HLN.out, if_neg (by rw [hwr]; simp; omega), htb]
          cases tb with
          | true => rfl
          | false =>
            rw [if_neg (by decide), if_neg (by decide)]
            unfold levelE
            unfold B64 at hv64
            by_cases h0 : v = 0
            · rw [if_neg (by omega), if_neg (by omega)]
            · rw [if_pos (by omega), if_pos h0])
        have HB1 := Lib.hid hb
        clear hv hv64 hno hb HI hwr hsm
        go_wp2_with fail
        go_loopw [7] (fun i W => ∃ t : Nat, t ≤ j ∧ i = .int .i64 t ∧ Hid ((∀ (i : Nat) (y : Ln), i < t → l[i]? = some y → thereT b y = true) ∧ Below w.heap.size w W)) (fun i _ => j - (intOf i).toNat)
        case atStart => exact ⟨0, Nat.zero_le _, rfl, Lib.hid ⟨fun i y h => absurd h (Nat.not_lt_zero _), HB1.out⟩⟩
        case round =>
          obtain ⟨t, ht, rfl, HM⟩ := hrel
          obtain ⟨hth, hb⟩ := HM.out
          by_cases hlt2 : t < j
          · have hlt' : (t : Int) < (j : Int) := by omega
            obtain ⟨y, hy⟩ : ∃ y, l[t]? = some y := ⟨_, List.getElem?_eq_getElem (by rw [HLN.out]; exact hlt2)⟩
            have hyk := HR.out.1.ok y (List.mem_of_getElem? hy)
            obtain ⟨bb, off, rfl, hbB, hat⟩ := HR.out.1.2.2 (by omega)
            obtain ⟨c0, c1', c2, c3⟩ := (hat t y hy).keep hbB (fun b o hbb => hb.cell (p := ⟨b, o, none⟩) (Nat.lt_of_lt_of_le hbb HR.out.2))
            have hbl := Nat.lt_of_lt_of_le (Nat.lt_of_lt_of_le hbB HR.out.2) hb.size
            have HC1 := Lib.hid (show ∀ W, Below wr.heap.size wr W → W.cell? ⟨bb, off + t * 4 + 1, none⟩ = some (.int .i64 y.o) from fun W hW => (hW.cell (p := ⟨bb, off + t * 4 + 1, none⟩) hbl).trans c1')
            have HF1 := Lib.hid (HFD.out wr y.f hb hyk.1)
            have HO1 := Lib.hid (fun W (hW : Below wr.heap.size wr W) => HOB.out W y.o (hb.trans (hW.mono hb.size)) hyk.2.1)
            have HTT := Lib.hid (show thereT b y = ((lookT b (tx (keyL 70 [y.f]))).isSome && (fixedB y.o || (lookT b (tx (keyL 79 [y.o]))).isSome)) from rfl)
            have HY := Lib.hid (show thereT b y = false → l.any (fun x => !thereT b x) = true from fun h => List.any_eq_true.2 ⟨y, List.mem_of_getElem? hy, by rw [h]; rfl⟩)
            have HYN := Lib.hid (show thereT b y = true → ∀ W, Below wr.heap.size wr W → (∀ (i : Nat) (x : Ln), i < t + 1 → l[i]? = some x → thereT b x = true) ∧ Below w.heap.size w W from fun h W hW => ⟨fun i x hi hx => by
              rcases Nat.lt_or_ge i t with h' | h'
              · exact hth i x h' hx
              · obtain rfl : i = t := by omega
                rw [hy] at hx
                cases hx
                exact h, hb.trans (hW.mono hb.size)⟩)
            have HBW := Lib.hid hb
            obtain ⟨yf, yo, yn, ya⟩ := y
            simp only at c0 c1' c2 c3 HC1 HF1 HO1 HTT
            generalize thereT b ⟨yf, yo, yn, ya⟩ = tt at HTT HY HYN
            generalize (fixedB yo || (lookT b (tx (keyL 79 [yo]))).isSome) = ob at HO1 HTT
            generalize (lookT b (tx (keyL 70 [yf]))).isSome = fb at HF1 HTT
            clear hth hb hy hyk hat HM
            cases fb with
            | false =>
              have HE := Lib.hid (HCK.out true (HY.out (by rw [HTT.out]; rfl)))
              go_wp2_with fail
              refine HF1.out.mono ?_
              rintro e w2 ⟨st, rfl, hb2⟩
              have HB2 := Lib.hid (HBW.out.trans (hb2.mono HBW.out.size))
              clear hb2
              go_wp2
              go_ret
              rw [HE.out]
              exact ⟨rfl, HB2.out⟩
            | true =>
              cases ob with
              | false =>
                have HE := Lib.hid (HCK.out true (HY.out (by rw [HTT.out]; rfl)))
                go_wp2_with fail
                refine HF1.out.mono ?_
                rintro e w2 ⟨st, rfl, hb2⟩
                have HO2 := Lib.hid (HO1.out w2 hb2)
                have c1x := HC1.out w2 hb2
                have HB2 := Lib.hid (HBW.out.trans (hb2.mono HBW.out.size))
                clear hb2
                go_wp2_with fail
                refine HO2.out.mono ?_
                rintro e w3 ⟨rfl, hb3⟩
                have HB3 := Lib.hid (HB2.out.trans (hb3.mono HB2.out.size))
                clear hb3
                go_wp2
                go_ret
                rw [HE.out]
                exact ⟨rfl, HB3.out⟩
              | true =>
                go_wp2_with fail
                refine HF1.out.mono ?_
                rintro e w2 ⟨st, rfl, hb2⟩
                have HO2 := Lib.hid (HO1.out w2 hb2)
                have c1x := HC1.out w2 hb2
                have HB2 := Lib.hid hb2
                clear hb2
                go_wp2_with fail
                refine HO2.out.mono ?_
                rintro e w3 ⟨rfl, hb3⟩
                have HE := Lib.hid (HYN.out (by rw [HTT.out]; rfl) w3 (HB2.out.trans (hb3.mono HB2.out.size)))
                clear hb3
                go_wp2
                go_roundw
                case rel => exact ⟨t + 1, by omega, by go_num, HE⟩
                case measure => simp [intOf]; omega
          · obtain rfl : t = j := by omega
            have HE := Lib.hid (HCK.out false (any_before fun i y hi hy => by rw [hth i y (by rw [← HLN.out]; exact hi) hy]; rfl))
            have HBW := Lib.hid hb
            clear hth hb HM HCK
            by_cases h0 : v = 0
            · subst h0
              rw [if_neg (by decide), if_neg (by decide)] at HE
              go_wp2
              go_ret
              rw [HE.out]
              exact ⟨rfl, HBW.out⟩
            · rw [if_neg (by decide), if_pos h0] at HE
              have hne : (v != 0) = true := by simpa using h0
              go_wp2
              go_ret
              rw [HE.out]
              exact ⟨rfl, HBW.out⟩
end
end Go.Proofs.YtccibahlcpkiaaaGreat
