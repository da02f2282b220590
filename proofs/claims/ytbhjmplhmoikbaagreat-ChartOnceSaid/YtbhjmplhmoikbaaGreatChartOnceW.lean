/-
  ChartOnce by the walk: it returns true. Condition: what came in is a slice of 16-bit numbers.
-/
import Derived.Test.YtbhjmplhmoikbaaGreatChaF
import Derived.Test.YtbhjmplhmoikbaaGreatR16
namespace Go.Proofs.YtbhjmplhmoikbaaGreat
open Go.RowKit Go.Maps
set_option maxRecDepth 100000
set_option linter.unusedVariables false

theorem chr_name {q : Int} (hq : 0 ≤ q ∧ q < 26) : nameB (tx [97 + q]) = true := by
  obtain ⟨n, rfl⟩ := Int.eq_ofNat_of_zero_le hq.1
  have hn : n < 26 := by omega
  have : ∀ n : Nat, n < 26 → nameB (tx [97 + (n : Int)]) = true := by decide
  exact this n hn
/-- Behind k rounds. -/
def OnceAt (w0 wr : World) (X : Nat → Prop) (v m c k : Nat) : Prop := ∃ S, ViewAt wr X v m c S ∧ OnceS S k ∧ Below w0.heap.size w0 wr
theorem strOf_tx (l : List Int) : Value.string (strOfNums l) = encStr (tx l) := rfl

set_option maxHeartbeats 6400000 in
theorem chartOnce_any {w : World} {A : Option Addr} {n cap : Nat} {l : List Int} (hr : R16 w w.heap.size A n l) (hn : n ≤ maxLen) (hcap : n ≤ cap) :
    Calls Tryz.prog 3 #[.slice A n cap] w fun e w' => e = .returned (.bool true) ∧ Below w.heap.size w w' := by
  unfold maxLen at hn
  by_cases big : 120 < n
  · have k1 : decide ((n : Int) > 120) = true := decide_eq_true (by omega)
    clear hr
    go_enter Tryz.func3, Tryz.ntmps3
    go_wp2_with fail
    refine (chaAwake_any _).mono ?_
    rintro e w1 ⟨rfl, hb⟩
    have HE := Lib.hid hb
    clear hb
    go_wp2
    go_ret
    exact ⟨rfl, HE.out⟩
  have k1 : decide ((n : Int) > 120) = false := decide_eq_false (by omega)
  have HN := Lib.hid (vNew_any w (fun _ => False) (fun k h => h.elim))
  go_enter Tryz.func3, Tryz.ntmps3
  go_wp2_with fail
  refine HN.out.mono ?_
  rintro e w1 ⟨v, m, c, rfl, h1, hb1, hv, hm, hc⟩
  obtain ⟨X, hX⟩ : ∃ X : Nat → Prop, X = fun k => False ∨ k = v ∨ k = m ∨ k = c := ⟨_, rfl⟩
  rw [← hX] at h1
  have H0 : Hid (OnceAt w w1 X v m c 0) := Lib.hid ⟨_, h1, OnceS.start, hb1⟩
  have HC := Lib.hid hc
  clear h1 hb1 hX hv hm hc HN
  go_wp2_with fail
  go_loopw [18] (fun i wr => ∃ k : Nat, k ≤ n ∧ i = .int .i64 k ∧ Hid (OnceAt w wr X v m c k)) (fun i _ => n - (intOf i).toNat)
  case atStart => exact ⟨0, Nat.zero_le _, rfl, H0⟩
  case round =>
    obtain ⟨k, hk, rfl, ho⟩ := hrel
    by_cases hlt : k < n
    · obtain ⟨S, hvw, hs, hbw⟩ := ho.out
      obtain ⟨b, off, rfl, hb, hcell⟩ := hr.2.2 (by omega)
      have hck := (hbw.cell (p := ⟨b, off + k, none⟩) hb).trans (hcell k (by omega))
      have hx := hr.range k
      generalize l[k]?.getD 0 = x at hck hx
      clear hcell
      obtain ⟨q, hq, hqx⟩ : ∃ q : Int, (0 ≤ q ∧ q < 900) ∧ x.tmod 900 = q := ⟨x % 900, by omega, Int.tmod_eq_emod_of_nonneg hx.1⟩
      obtain ⟨z, hz, hzk⟩ : ∃ z : Int, (0 ≤ z ∧ z < 26) ∧ (k : Int).tmod 26 = z := ⟨(k : Int) % 26, by omega, Int.tmod_eq_emod_of_nonneg (by omega)⟩
      have wr1 : IntKind.u16.wrap q = q := by simp [IntKind.wrap, IntKind.bits, IntKind.signed]; omega
      have wr2 : IntKind.i64.wrap q = q := by rw [IntKind.wrap_i64]; first | (unfold wrap64; omega) | omega
      have wr3 : IntKind.i64.wrap (100 + q) = 100 + q := by rw [IntKind.wrap_i64]; first | (unfold wrap64; omega) | omega
      have wr4 : IntKind.i64.wrap z = z := by rw [IntKind.wrap_i64]; first | (unfold wrap64; omega) | omega
      have wr5 : IntKind.i64.wrap (97 + z) = 97 + z := by rw [IntKind.wrap_i64]; first | (unfold wrap64; omega) | omega
      have wr6 : IntKind.u8.wrap (97 + z) = 97 + z := by simp [IntKind.wrap, IntKind.bits, IntKind.signed]; omega
      have hsc := hs.scanOk (by omega)
      obtain ⟨hs2, he⟩ := hs.step (f := 100 + q) (by omega) (chr_name hz)
      have HFS := Lib.hid (fun W (hb : Below wr.heap.size wr W) => cFunds_any (hvw.below hb) hsc)
      have HNF := Lib.hid (fun W (hb : Below wr.heap.size wr W) => newFund_any (hvw.below hb) hsc (100 + q) (by omega) (tx [97 + z]) (by rw [tx_length]; simp))
      rw [he] at HNF
      have HS2 := Lib.hid hs2
      have HBW := Lib.hid hbw
      have HFW := Lib.hid hs.few
      generalize newFund S (100 + q) (tx [97 + z]) = S2 at HNF HS2
      have HD := Lib.hid (show ∀ W A' c', RI W W.heap.size A' (fundsL S).length (fundsL S) → Calls Tryz.prog 8 #[.slice A' (fundsL S).length c', .int .i64 (100 + q)] W fun e w' => e = .returned (.bool (decide (100 + q ∈ fundsL S))) ∧ W = w' from fun W A' c' h => Contains_any c' (100 + q) h (by have := HFW.out; unfold maxLen; omega))
      generalize fundsL S = fs at HFS HNF HFW HD
      generalize hdd : decide (100 + q ∈ fs) = was at HNF HD
      clear hvw hs hbw hsc hs2 he hdd
      obtain ⟨N, hN⟩ : ∃ N, N = fs.length := ⟨_, rfl⟩
      have HD2 := Lib.hid (show ∀ W A' c', RI W W.heap.size A' N fs → Calls Tryz.prog 8 #[.slice A' N c', .int .i64 (100 + q)] W fun e w' => e = .returned (.bool was) ∧ W = w' from by rw [hN]; exact HD.out)
      have HFS2 := Lib.hid (show ∀ W, Below wr.heap.size wr W → Calls Tryz.prog 9 #[.pointer (some ⟨v, 0, none⟩)] W fun e w' => ∃ A c, e = .returned (.slice A N c) ∧ N ≤ c ∧ RI w' w'.heap.size A N fs ∧ Below W.heap.size W w' from by rw [hN]; exact HFS.out)
      rw [← hN] at HNF
      have hN40 : N ≤ 40 := by rw [hN]; exact HFW.out
      clear hN HD HFS HFW
      go_wp2_with fail
      refine (HFS2.out _ (Below.refl _ _)).mono ?_
      rintro e w2 ⟨A2, c2, rfl, _, hr2, hb2⟩
      have HC2 := Lib.hid (HD2.out w2 A2 c2 hr2)
      have HB2 := Lib.hid hb2
      clear hr2 hb2
      go_wp2_with fail
      refine HC2.out.mono ?_
      rintro e w3 ⟨rfl, rfl⟩
      clear HC2
      go_wp2_with fail
      refine (HFS2.out _ HB2.out).mono ?_
      rintro e w4 ⟨A4, c4, rfl, _, _, hb4⟩
      have hb04 := HB2.out.trans (hb4.mono HB2.out.size)
      have hba : Below w4.heap.size w4 (w4.alloc (.cells #[.int .u8 (97 + z)] 5)) := (Below.refl _ _).alloc (Nat.le_refl _) _
      have hcv := (RB.one w4 5 (u := 97 + z) (by omega)).conv 1
      rw [strOf_tx] at hcv
      have HB5 := Lib.hid (hb04.trans (hba.mono hb04.size))
      have HQ := Lib.hid (HNF.out _ HB5.out)
      generalize encStr (tx [97 + z]) = st at hcv HQ
      clear hb4 hb04 hba HB2 HNF
      go_wp2_with fail
      refine HQ.out.mono ?_
      rintro e w6 ⟨rfl, hv6, ht6⟩
      have HE := Lib.hid (show OnceAt w w6 X v m c (k + 1) from ⟨S2, hv6, HS2.out, (HBW.out.trans (HB5.out.mono HBW.out.size)).trans (ht6.below (fun k e => by rw [e]; exact HC.out) (Nat.le_trans HBW.out.size HB5.out.size))⟩)
      clear hv6 ht6 HQ HB5 HFS2 HD2 hcv
      cases was with
      | true =>
        rw [show onceE true N = 8 from rfl]
        go_wp2_with fail
        go_roundw
        case rel => exact ⟨k + 1, by omega, by go_num, HE⟩
        case measure => simp [intOf]; omega
      | false =>
        by_cases h40 : 40 ≤ N
        · rw [show onceE false N = 11 by unfold onceE; rw [if_neg (by decide), if_pos h40]]
          have h40' : (40 : Int) ≤ (N : Int) := by omega
          go_wp2_with fail
          go_roundw
          case rel => exact ⟨k + 1, by omega, by go_num, HE⟩
          case measure => simp [intOf]; omega
        · rw [show onceE false N = 0 by unfold onceE; rw [if_neg (by decide), if_neg h40]]
          have h40' : ¬ (40 : Int) ≤ (N : Int) := by omega
          go_wp2_with fail
          go_roundw
          case rel => exact ⟨k + 1, by omega, by go_num, HE⟩
          case measure => simp [intOf]; omega
    · obtain rfl : k = n := by omega
      obtain ⟨S, hvw, hs, hbw⟩ := ho.out
      have hsc := hs.scanOk (by omega)
      have hup : (fundsL S).Pairwise (· < ·) := nums_rise hs.ok (by omega)
      have HFS := Lib.hid (fun W (hb : Below wr.heap.size wr W) => cFunds_any (hvw.below hb) hsc)
      have HBW := Lib.hid hbw
      have hfew := hs.few
      generalize fundsL S = fs at HFS hup hfew
      obtain ⟨N, hN⟩ : ∃ N, N = fs.length := ⟨_, rfl⟩
      have HFS2 := Lib.hid (show ∀ W, Below wr.heap.size wr W → Calls Tryz.prog 9 #[.pointer (some ⟨v, 0, none⟩)] W fun e w' => ∃ A c, e = .returned (.slice A N c) ∧ N ≤ c ∧ RI w' w'.heap.size A N fs ∧ Below W.heap.size W w' from by rw [hN]; exact HFS.out)
      have hN40 : N ≤ 40 := by rw [hN]; exact hfew
      have hN40' : (N : Int) ≤ 40 := by omega
      have HUP := Lib.hid hup
      clear hvw hs hbw hsc ho hfew hN hup HFS
      go_wp2_with fail
      refine (HFS2.out _ (Below.refl _ _)).mono ?_
      rintro e w2 ⟨A2, c2, rfl, _, hr2, hb2⟩
      have HSO := Lib.hid (IsSorted_rise c2 hr2 (by unfold maxLen; omega) HUP.out (Nat.le_refl _))
      have HR2 := Lib.hid hr2
      have HB2 := Lib.hid hb2
      clear hr2 hb2
      go_wp2_with fail
      refine HSO.out.mono ?_
      rintro e w3 ⟨rfl, hb3⟩
      have HCO := Lib.hid (Compact_rise c2 (HR2.out.below hb3) (by unfold maxLen; omega) HUP.out hb3.size)
      have HB3 := Lib.hid (HB2.out.trans (hb3.mono HB2.out.size))
      clear hb3 HSO HB2
      go_wp2_with fail
      refine HCO.out.mono ?_
      rintro e w4 ⟨rfl, hb4⟩
      have HB4 := Lib.hid (HB3.out.trans (hb4.mono HB3.out.size))
      clear hb4 HCO HB3
      go_wp2_with fail
      refine (HFS2.out _ HB4.out).mono ?_
      rintro e w5 ⟨A5, c5, rfl, _, _, hb5⟩
      have HB5 := Lib.hid (HB4.out.trans (hb5.mono HB4.out.size))
      clear hb5 HB4
      go_wp2_with fail
      refine (chaAwake_any _).mono ?_
      rintro e w6 ⟨rfl, hb6⟩
      have HE := Lib.hid (HBW.out.trans ((HB5.out.trans (hb6.mono HB5.out.size)).mono HBW.out.size))
      clear hb6 HB5
      go_wp2_with fail
      go_ret
      exact ⟨rfl, HE.out⟩
end Go.Proofs.YtbhjmplhmoikbaaGreat
