/-
  The walk of InterfEqual: it returns true. No condition beyond those that the statement itself says.
-/
import Derived.Test.YtccibahlcpkiaaaItfW
namespace Go.Proofs.Ytccibahlcpkiaaa
open Go.RowKit
set_option maxRecDepth 100000
set_option linter.unusedVariables false

theorem sumAll_step {l : List Ln} {j : Nat} {x : Ln} (h : l[j]? = some x) : sumAll (l.take (j + 1)) = sumAll (l.take j) + x.a := by
  obtain ⟨hj, rfl⟩ := List.getElem?_eq_some_iff.1 h
  unfold sumAll
  rw [List.take_succ_eq_append_getElem hj, List.map_append, List.sum_append]
  simp only [List.map_cons, List.map_nil, List.sum_cons, List.sum_nil, Int.add_zero]
section
variable {w w' : World} {A A' : Option Addr} {n m k B B' : Nat} {l l' : List Ln}
set_option maxHeartbeats 3200000 in
theorem interfEqual_any (hr : RL w w.heap.size A n l) (hnk : n ≤ k) (hm : n ≤ maxLen) : Calls Try.prog 4 #[.slice A n k] w fun e w' => e = .returned (.bool true) ∧ Below w.heap.size w w' := by
  have HF := Lib.hid (fewLines_any A n k w)
  by_cases hn : n ≤ 30
  · rw [decide_eq_true hn] at HF
    have HA := Lib.hid (itfAll_any (k := k) hr (Nat.le_refl _) (by omega))
    have HR := Lib.hid hr
    have HBK := Lib.hid (balL_ok (fundsOf_in l hr.ok))
    have HEV := Lib.hid (balanced_even l hr.ok HBK.out)
    have HLN := Lib.hid (And.intro hr.len (show (balL (fundsOf l)).length ≤ n from Nat.le_trans (balL_len _) (by rw [← hr.len]; exact fundsOf_len l)))
    have HNO := Lib.hid (bal_nothing (l := l))
    clear hr
    go_enter Try.func4, Try.ntmps4
    go_wp2_with fail
    refine HF.out.mono ?_
    rintro e w' ⟨rfl, rfl⟩
    go_wp2_with fail
    refine HA.out.mono ?_
    rintro e w1 ⟨u1, rfl, ho1, hb1⟩
    obtain ⟨A1, c1, rfl, hc1⟩ := ho1.shape
    have hall : ∀ x ∈ l ++ balL (fundsOf l), LnOk x := fun x hx => by
      rcases List.mem_append.1 hx with h | h
      · exact HR.out.ok x h
      · exact HBK.out x h
    obtain ⟨_, _, hr1⟩ := ho1.read hall
    have hlen : (l ++ balL (fundsOf l)).length ≤ 2 * n := by rw [List.length_append, HLN.out.1]; have := HLN.out.2; omega
    obtain ⟨N1, hN1⟩ : ∃ N1, N1 = (l ++ balL (fundsOf l)).length := ⟨_, rfl⟩
    rw [← hN1] at hr1 hlen ⊢
    have HR1 := Lib.hid hr1
    have HB1 := Lib.hid hb1
    clear ho1 hr1 hb1 hall hN1 hc1 HA HF
    go_wp2_with fail
    go_loopw [4, 19] (fun s i wr => ∃ j : Nat, j ≤ n ∧ i = .int .i64 j ∧ ∃ v : Int, s = .int .i64 v ∧ Hid (v = IntKind.i64.wrap (sumAll (l.take j)) ∧ Below w1.heap.size w1 wr)) (fun _ i _ => n - (intOf i).toNat)
    case atStart => exact ⟨0, Nat.zero_le _, rfl, 0, rfl, Lib.hid ⟨by rw [List.take_zero]; rfl, Below.refl _ _⟩⟩
    case round =>
      obtain ⟨j, hj, rfl, v, rfl, HI⟩ := hrel
      obtain ⟨hv, hb⟩ := HI.out
      by_cases hlt : j < n
      · have hlt' : (j : Int) < (n : Int) := by omega
        obtain ⟨x, hx⟩ : ∃ x, l[j]? = some x := ⟨_, List.getElem?_eq_getElem (by rw [HLN.out.1]; exact hlt)⟩
        obtain ⟨b, off, rfl, hbB, hat⟩ := HR.out.2.2 (by omega)
        obtain ⟨c0, c1', c2, c3⟩ := (hat j x hx).keep hbB (fun b o hbb => (hb.cell (p := ⟨b, o, none⟩) (Nat.lt_of_lt_of_le hbb HB1.out.size)).trans (HB1.out.cell (p := ⟨b, o, none⟩) hbb))
        have hstep := sumAll_step hx
        obtain ⟨xf, xo, xn, xa⟩ := x
        simp only at c0 c1' c2 c3 hstep
        obtain ⟨z, hz⟩ : ∃ z, IntKind.i64.wrap (v + xa) = z := ⟨_, rfl⟩
        have hX : Below wr.heap.size wr (wr.alloc (.cells #[.int .i64 xf, .int .i64 xo, .int .i64 xn, .int .i64 xa] 27 (0, 0))) := (Below.refl _ _).alloc (Nat.le_refl _) _
        have HE := Lib.hid (show z = IntKind.i64.wrap (sumAll (l.take (j + 1))) ∧ Below w1.heap.size w1 (wr.alloc (.cells #[.int .i64 xf, .int .i64 xo, .int .i64 xn, .int .i64 xa] 27 (0, 0))) from ⟨by
          rw [← hz, hstep, hv]
          exact wrap_same (by have := wrap_mod (sumAll (l.take j)); omega), hb.trans (hX.mono hb.size)⟩)
        clear hv hb hx hat hstep hX HI
        go_wp2_with fail
        go_roundw
        case rel => exact ⟨j + 1, by omega, by go_num, z, rfl, HE⟩
        case measure => simp [intOf]; omega
      · obtain rfl : j = n := by omega
        rw [List.take_of_length_le (by rw [HLN.out.1]; exact Nat.le_refl _)] at hv
        have HV := Lib.hid hv
        have HB2 := Lib.hid (HB1.out.trans (hb.mono HB1.out.size))
        have HBAL := Lib.hid (balance_any (k := k) (HR.out.below HB2.out) HB2.out.size (by omega))
        have HS1 := Lib.hid (And.intro (HR1.out.below hb) hb.size)
        clear hv hb HI
        go_wp2_with fail
        refine HBAL.out.mono ?_
        rintro e w2 ⟨u2, rfl, ho2, hb2⟩
        obtain ⟨A2, c2, rfl, hc2⟩ := ho2.shape
        obtain ⟨_, _, hr2⟩ := ho2.read HBK.out
        have HALL := Lib.hid ((HS1.out.1.below (hb2.mono HS1.out.2)).more (Nat.le_trans HS1.out.2 hb2.size))
        have HB3 := Lib.hid (HB2.out.trans (hb2.mono HB2.out.size))
        have HM0 := Lib.hid (show sumAll l % 18446744073709551616 = 0 → sumAll (balL (fundsOf l)) % 18446744073709551616 = 0 from HNO.out)
        have hlb := HLN.out.2
        generalize balL (fundsOf l) = M at hr2 hlb HM0 ⊢
        have hM30 : M.length ≤ 30 := by omega
        have HR2 := Lib.hid hr2
        clear ho2 hr2 hb2 hc2 HBAL hlb
        go_wp2_with fail
        go_loopw [5, 6, 31] (fun f t i wr => ∃ q : Nat, q ≤ M.length ∧ i = .int .i64 q ∧ ∃ vf vt : Int, f = .int .i64 vf ∧ t = .int .i64 vt ∧ Hid ((vf - vt - sumAll (M.take q)) % 18446744073709551616 = 0 ∧ B64 vf ∧ B64 vt ∧ Below w2.heap.size w2 wr)) (fun _ _ i _ => M.length - (intOf i).toNat)
        case atStart => exact ⟨0, Nat.zero_le _, rfl, 0, 0, rfl, rfl, Lib.hid ⟨by rw [List.take_zero]; rfl, by unfold B64; omega, by unfold B64; omega, Below.refl _ _⟩⟩
        case round =>
          obtain ⟨q, hq, rfl, vf, vt, rfl, rfl, HI⟩ := hrel
          obtain ⟨hsum, hvf, hvt, hb⟩ := HI.out
          by_cases hlt2 : q < M.length
          · have hlt' : (q : Int) < (M.length : Int) := by omega
            obtain ⟨x, hx⟩ : ∃ x, M[q]? = some x := ⟨_, List.getElem?_eq_getElem hlt2⟩
            obtain ⟨b, off, rfl, hbB, hat⟩ := HR2.out.2.2 (by omega)
            obtain ⟨c0, c1', c2', c3⟩ := (hat q x hx).keep hbB (fun b o hbb => hb.cell (p := ⟨b, o, none⟩) hbb)
            have hstep := sumAll_step hx
            obtain ⟨xf, xo, xn, xa⟩ := x
            simp only at c0 c1' c2' c3 hstep
            have hX : Below wr.heap.size wr (wr.alloc (.cells #[.int .i64 xf, .int .i64 xo, .int .i64 xn, .int .i64 xa] 27 (0, 0))) := (Below.refl _ _).alloc (Nat.le_refl _) _
            have hbX := hb.trans (hX.mono hb.size)
            by_cases hdf : xo = 1900
            · subst hdf
              obtain ⟨z, hz⟩ : ∃ z, IntKind.i64.wrap (vf + xa) = z := ⟨_, rfl⟩
              have HE := Lib.hid (show (z - vt - sumAll (M.take (q + 1))) % 18446744073709551616 = 0 ∧ B64 z ∧ B64 vt ∧ Below w2.heap.size w2 (wr.alloc (.cells #[.int .i64 xf, .int .i64 1900, .int .i64 xn, .int .i64 xa] 27 (0, 0))) from ⟨by
                rw [hstep, ← hz]
                have := wrap_mod (vf + xa)
                omega, by rw [← hz]; exact wrap_in _, hvt, hbX⟩)
              clear hsum hvf hvt hb hx hat hstep hX hbX HI
              go_wp2_with fail
              go_roundw
              case rel => exact ⟨q + 1, by omega, by go_num, z, vt, rfl, rfl, HE⟩
              case measure => simp [intOf]; omega
            · have hne : (xo == 1900) = false := by simpa using hdf
              obtain ⟨z, hz⟩ : ∃ z, IntKind.i64.wrap (vt - xa) = z := ⟨_, rfl⟩
              have HE := Lib.hid (show (vf - z - sumAll (M.take (q + 1))) % 18446744073709551616 = 0 ∧ B64 vf ∧ B64 z ∧ Below w2.heap.size w2 (wr.alloc (.cells #[.int .i64 xf, .int .i64 xo, .int .i64 xn, .int .i64 xa] 27 (0, 0))) from ⟨by
                rw [hstep, ← hz]
                have := wrap_mod (vt - xa)
                omega, hvf, by rw [← hz]; exact wrap_in _, hbX⟩)
              clear hsum hvf hvt hb hx hat hstep hX hbX HI hdf
              go_wp2_with fail
              go_roundw
              case rel => exact ⟨q + 1, by omega, by go_num, vf, z, rfl, rfl, HE⟩
              case measure => simp [intOf]; omega
          · obtain rfl : q = M.length := by omega
            rw [List.take_of_length_le (Nat.le_refl _)] at hsum
            have HFT := Lib.hid (show v = 0 → vf = vt from fun h => by
              have h1 := HV.out
              have h2 := wrap_mod (sumAll l)
              rw [← h1, h] at h2
              have h3 := HM0.out (by omega)
              unfold B64 at hvf hvt
              omega)
            have HB4 := Lib.hid (HB3.out.trans (hb.mono HB3.out.size))
            have HAL2 := HALL.out.below hb
            have HE1 := Lib.hid (linesEqual_any (k := c1) HAL2 (show w2.heap.size ≤ wr.heap.size from hb.size) (by omega))
            rw [HEV.out] at HE1
            have HRR := Lib.hid (And.intro HAL2 hb.size)
            clear hsum hvf hvt hb HI HAL2
            go_wp2_with fail
            refine HE1.out.mono ?_
            rintro e w4 ⟨rfl, hb4⟩
            have HE2 := Lib.hid (refEqual_any (k := c1) (HRR.out.1.below (hb4.mono HRR.out.2)) (show w2.heap.size ≤ w4.heap.size from Nat.le_trans HRR.out.2 hb4.size) (by omega))
            rw [HEV.out] at HE2
            have HB5 := Lib.hid (HB4.out.trans (hb4.mono HB4.out.size))
            clear hb4 HE1
            go_wp2_with fail
            refine HE2.out.mono ?_
            rintro e w5 ⟨rfl, hb5⟩
            have HB6 := Lib.hid (HB5.out.trans (hb5.mono HB5.out.size))
            have HAW := Lib.hid (itfAwake_any w5)
            clear hb5 HE2
            have hN12 : (N1 : Int) ≤ 2 * (j : Int) := by omega
            by_cases hv0 : v = 0
            · have hft := HFT.out hv0
              subst hv0
              subst hft
              have hbeq : (vf == vf) = true := by simp
              go_wp2_with fail
              refine HAW.out.mono ?_
              rintro e w7 ⟨rfl, hb7⟩
              have HW7 := Lib.hid (HB6.out.trans (hb7.mono HB6.out.size))
              clear hb7
              go_wp2
              go_ret
              exact ⟨rfl, HW7.out⟩
            · have hvn : (v != 0) = true := by simpa using hv0
              go_wp2_with fail
              refine HAW.out.mono ?_
              rintro e w7 ⟨rfl, hb7⟩
              have HW7 := Lib.hid (HB6.out.trans (hb7.mono HB6.out.size))
              clear hb7
              go_wp2
              go_ret
              exact ⟨rfl, HW7.out⟩
  · rw [decide_eq_false hn] at HF
    have HAW := Lib.hid (itfAwake_any w)
    go_enter Try.func4, Try.ntmps4
    go_wp2_with fail
    refine HF.out.mono ?_
    rintro e w' ⟨rfl, rfl⟩
    go_wp2_with fail
    refine HAW.out.mono ?_
    rintro e w7 ⟨rfl, hb7⟩
    have HW7 := Lib.hid hb7
    clear hb7
    go_wp2
    go_ret
    exact ⟨rfl, HW7.out⟩
end
end Go.Proofs.Ytccibahlcpkiaaa
