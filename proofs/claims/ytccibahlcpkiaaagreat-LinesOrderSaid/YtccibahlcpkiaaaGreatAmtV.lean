/-
  Contracts of amount.Fits, Right, Add and Sum, under names of their own (as XAmtA, XAmtB say them). No condition but that lengths are ints.
-/
import Derived.Test.YtccibahlcpkiaaaGreatBase
import Derived.Test.YtccibahlcpkiaaaGreatInts
namespace Go.Proofs.YtccibahlcpkiaaaGreat
open Go.RowKit
set_option maxRecDepth 100000
set_option linter.unusedVariables false

/-- An int. -/
def AmtInt (n : Int) : Prop := -9223372036854775808 ≤ n ∧ n ≤ 9223372036854775807
theorem AmtInt.of_wf {n : Int} (h : (Lit.int .i64 n).wf = true) : AmtInt n := by
  simp [Lit.wf, IntKind.min, IntKind.max, IntKind.signed, IntKind.bits] at h
  exact ⟨by omega, by omega⟩
/-- May n be a total? -/
def amtFitsB (n : Int) : Bool := decide (-4611686018427387904 ≤ n) && decide (n ≤ 4611686018427387904)
/-- May n be asked for? -/
def amtRightB (n : Int) : Bool := decide (1 ≤ n) && decide (n ≤ 9007199254740992)
/-- Two together, and the error. -/
def amtAddR (a b : Int) : Int × Int := if (amtFitsB a && amtFitsB b && amtFitsB (a + b)) = true then (a + b, 0) else (0, 9)

theorem amtFits_iff (n : Int) : amtFitsB n = true ↔ -4611686018427387904 ≤ n ∧ n ≤ 4611686018427387904 := by simp [amtFitsB]

set_option maxHeartbeats 400000 in
theorem amtFits_any (a : Int) (w : World) : Calls Tryz.prog 101 #[.int .i64 a] w fun e w' => e = .returned (.bool (amtFitsB a)) ∧ w = w' := by
  unfold amtFitsB
  by_cases h : -4611686018427387904 ≤ a
  · go_enter Tryz.func101, Tryz.ntmps101
    go_wp2
    go_ret
    simp [h]
  · go_enter Tryz.func101, Tryz.ntmps101
    go_wp2
    go_ret
    simp; omega
set_option maxHeartbeats 400000 in
theorem amtRight_any (a : Int) (w : World) : Calls Tryz.prog 59 #[.int .i64 a] w fun e w' => e = .returned (.bool (amtRightB a)) ∧ w = w' := by
  unfold amtRightB
  by_cases h : 1 ≤ a
  · go_enter Tryz.func59, Tryz.ntmps59
    go_wp2
    go_ret
    simp [h]
  · go_enter Tryz.func59, Tryz.ntmps59
    go_wp2
    go_ret
    simp; omega
/-- The sum of two that fit wraps round to what fits just if it fits. -/
theorem amtSum_wraps {a b : Int} (ha : amtFitsB a = true) (hb : amtFitsB b = true) : amtFitsB (IntKind.i64.wrap (a + b)) = amtFitsB (a + b) ∧ (amtFitsB (a + b) = true → IntKind.i64.wrap (a + b) = a + b) := by
  rw [amtFits_iff] at ha hb
  have hw : IntKind.i64.wrap (a + b) = a + b ∨ (a + b = 9223372036854775808 ∧ IntKind.i64.wrap (a + b) = -9223372036854775808) := by
    rw [IntKind.wrap_i64]
    omega
  rcases hw with e | ⟨e, f⟩
  · rw [e]; exact ⟨rfl, fun _ => rfl⟩
  · rw [f, e]; exact ⟨by decide, by decide⟩

set_option maxHeartbeats 800000 in
theorem amtAdd_any (a b : Int) (w : World) : Calls Tryz.prog 76 #[.int .i64 a, .int .i64 b] w fun e w' => e = .returned (.tuple #[.int .i64 (amtAddR a b).1, .int .i64 (amtAddR a b).2]) ∧ w = w' := by
  unfold amtAddR
  cases ha : amtFitsB a
  · simp only [Bool.false_and, Bool.false_eq_true, if_false]
    go_enter Tryz.func76, Tryz.ntmps76
    go_wp2_with (refine (amtFits_any _ _).mono ?_; rw [ha]; rintro e w' ⟨rfl, rfl⟩)
    go_ret2
    exact ⟨rfl, rfl⟩
  · cases hb : amtFitsB b
    · simp only [Bool.false_and, Bool.and_false, Bool.false_eq_true, if_false]
      go_enter Tryz.func76, Tryz.ntmps76
      go_wp2_with fail
      refine (amtFits_any _ _).mono ?_; rw [ha]; rintro e w' ⟨rfl, rfl⟩
      go_wp2_with fail
      refine (amtFits_any _ _).mono ?_; rw [hb]; rintro e w' ⟨rfl, rfl⟩
      go_wp2_with fail
      go_ret2
      exact ⟨rfl, rfl⟩
    · obtain ⟨hw, hv⟩ := amtSum_wraps ha hb
      obtain ⟨s, hs⟩ : ∃ s, IntKind.i64.wrap (a + b) = s := ⟨_, rfl⟩
      rw [hs] at hw hv
      cases hc : amtFitsB (a + b)
      · rw [hc] at hw
        clear hv
        simp only [Bool.and_false, Bool.false_eq_true, if_false]
        go_enter Tryz.func76, Tryz.ntmps76
        go_wp2_with fail
        refine (amtFits_any _ _).mono ?_; rw [ha]; rintro e w' ⟨rfl, rfl⟩
        go_wp2_with fail
        refine (amtFits_any _ _).mono ?_; rw [hb]; rintro e w' ⟨rfl, rfl⟩
        go_wp2_with fail
        refine (amtFits_any _ _).mono ?_; rw [hw]; rintro e w' ⟨rfl, rfl⟩
        go_wp2_with fail
        go_ret2
        exact ⟨rfl, rfl⟩
      · rw [hc] at hw
        obtain rfl : s = a + b := hv hc
        clear hv
        simp only [Bool.and_self, if_true]
        go_enter Tryz.func76, Tryz.ntmps76
        go_wp2_with fail
        refine (amtFits_any _ _).mono ?_; rw [ha]; rintro e w' ⟨rfl, rfl⟩
        go_wp2_with fail
        refine (amtFits_any _ _).mono ?_; rw [hb]; rintro e w' ⟨rfl, rfl⟩
        go_wp2_with fail
        refine (amtFits_any _ _).mono ?_; rw [hw]; rintro e w' ⟨rfl, rfl⟩
        go_wp2_with fail
        go_ret2
        exact ⟨rfl, rfl⟩


/-- All together, from s on, one by one; the error. -/
def amtSumR (s : Int) : List Int → Int × Int
  | [] => (s, 0)
  | n :: l => if (amtAddR s n).2 = 0 then amtSumR (amtAddR s n).1 l else (0, (amtAddR s n).2)
theorem amtSumR_drop {l : List Int} {k : Nat} (h : k < l.length) (s : Int) : amtSumR s (l.drop k) = if (amtAddR s (l[k]?.getD 0)).2 = 0 then amtSumR (amtAddR s (l[k]?.getD 0)).1 (l.drop (k + 1)) else (0, (amtAddR s (l[k]?.getD 0)).2) := by
  rw [List.drop_eq_getElem_cons h, List.getElem?_eq_getElem h]
  rfl

set_option maxHeartbeats 800000 in
theorem amtSum_any {w : World} {B n : Nat} {A : Option Addr} {l : List Int} (c : Nat) (hr : RI w B A n l) (hm : n ≤ maxLen) :
    Calls Tryz.prog 61 #[.slice A n c] w fun e w' => e = .returned (.tuple #[.int .i64 (amtSumR 0 l).1, .int .i64 (amtSumR 0 l).2]) ∧ w = w' := by
  unfold maxLen at hm
  have hlen := hr.len
  obtain ⟨z1, hz1⟩ : ∃ z, (amtSumR 0 l).1 = z := ⟨_, rfl⟩
  obtain ⟨z2, hz2⟩ : ∃ z, (amtSumR 0 l).2 = z := ⟨_, rfl⟩
  rw [hz1, hz2]
  have HZ := Lib.hid (show amtSumR 0 l = (z1, z2) by rw [← hz1, ← hz2])
  clear hz1 hz2
  have HL := Lib.hid hlen
  clear hlen
  go_enter Tryz.func61, Tryz.ntmps61
  go_wp2
  go_loop [4, 11] (fun s i => ∃ (k : Nat) (t : Int), k ≤ n ∧ i = .int .i64 k ∧ s = .int .i64 t ∧ Hid (amtSumR t (l.drop k) = (z1, z2))) (fun _ i => n - (intOf i).toNat)
  case atStart => exact ⟨0, 0, Nat.zero_le _, rfl, rfl, by rw [List.drop_zero]; exact HZ⟩
  case round =>
    obtain ⟨k, t, hk, rfl, rfl, HS⟩ := hrel
    by_cases hlt : k < n
    · obtain ⟨b, off, rfl, hb, hcell⟩ := hr.2.2 (by omega)
      have c1 := hcell k hlt
      have hd := HS.out
      rw [amtSumR_drop (by rw [HL.out]; exact hlt)] at hd
      generalize l[k]?.getD 0 = x at c1 hd
      have hA := amtAdd_any t x
      generalize amtAddR t x = r at hd hA
      obtain ⟨r1, r2⟩ := r
      by_cases h0 : r2 = 0
      · subst h0
        have HD := Lib.hid (show amtSumR r1 (l.drop (k + 1)) = (z1, z2) by simpa using hd)
        clear hd hcell
        go_wp2_with fail
        refine (hA _).mono ?_
        rintro e w' ⟨rfl, rfl⟩
        go_wp2_with fail
        go_round
        case rel => exact ⟨k + 1, r1, by omega, by go_num, rfl, HD⟩
        case measure => simp [intOf]; omega
      · have d0 : (r2 == 0) = false := by simpa using h0
        have HD := Lib.hid (show z1 = 0 ∧ z2 = r2 by simp [h0] at hd; exact ⟨hd.1.symm, hd.2.symm⟩)
        clear hd hcell h0
        go_wp2_with fail
        refine (hA _).mono ?_
        rintro e w' ⟨rfl, rfl⟩
        go_wp2_with fail
        go_ret2
        obtain ⟨rfl, rfl⟩ := HD.out
        exact ⟨rfl, rfl⟩
    · obtain rfl : k = n := by omega
      have HD := Lib.hid (show t = z1 ∧ 0 = z2 by
        have := HS.out
        rw [List.drop_eq_nil_of_le (by rw [HL.out]; exact Nat.le_refl _)] at this
        simpa [amtSumR] using this)
      go_wp2
      go_ret2
      obtain ⟨rfl, rfl⟩ := HD.out
      exact ⟨rfl, rfl⟩

end Go.Proofs.YtccibahlcpkiaaaGreat
