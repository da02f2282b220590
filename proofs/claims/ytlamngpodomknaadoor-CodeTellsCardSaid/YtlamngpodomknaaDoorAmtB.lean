/-
  Contracts of amount.Sum and of the plain Sum: for every slice of ints they answer all together, or 0 and the error; nothing is written. No condition but that the slice lies in memory.
-/
import Derived.Test.YtlamngpodomknaaDoorInts
import Derived.Test.YtlamngpodomknaaDoorAmtA
namespace Go.Proofs.YtlamngpodomknaaDoor
open Go.RowKit
set_option maxRecDepth 100000
set_option linter.unusedVariables false

/-- All together, from s on, one by one; the error. -/
def sumR (s : Int) : List Int → Int × Int
  | [] => (s, 0)
  | n :: l => if (addR s n).2 = 0 then sumR (addR s n).1 l else (0, (addR s n).2)
theorem sumR_drop {l : List Int} {k : Nat} (h : k < l.length) (s : Int) : sumR s (l.drop k) = if (addR s (l[k]?.getD 0)).2 = 0 then sumR (addR s (l[k]?.getD 0)).1 (l.drop (k + 1)) else (0, (addR s (l[k]?.getD 0)).2) := by
  rw [List.drop_eq_getElem_cons h, List.getElem?_eq_getElem h]
  rfl

set_option maxHeartbeats 800000 in
theorem sum_any {w : World} {B n : Nat} {A : Option Addr} {l : List Int} (c : Nat) (hr : RI w B A n l) (hm : n ≤ maxLen) :
    Calls Tryd.prog 10 #[.slice A n c] w fun e w' => e = .returned (.tuple #[.int .i64 (sumR 0 l).1, .int .i64 (sumR 0 l).2]) ∧ w = w' := by
  unfold maxLen at hm
  have hlen := hr.len
  obtain ⟨z1, hz1⟩ : ∃ z, (sumR 0 l).1 = z := ⟨_, rfl⟩
  obtain ⟨z2, hz2⟩ : ∃ z, (sumR 0 l).2 = z := ⟨_, rfl⟩
  rw [hz1, hz2]
  have HZ := Lib.hid (show sumR 0 l = (z1, z2) by rw [← hz1, ← hz2])
  clear hz1 hz2
  have HL := Lib.hid hlen
  clear hlen
  go_enter Tryd.func10, Tryd.ntmps10
  go_wp2
  go_loop [4, 11] (fun s i => ∃ (k : Nat) (t : Int), k ≤ n ∧ i = .int .i64 k ∧ s = .int .i64 t ∧ Hid (sumR t (l.drop k) = (z1, z2))) (fun _ i => n - (intOf i).toNat)
  case atStart => exact ⟨0, 0, Nat.zero_le _, rfl, rfl, by rw [List.drop_zero]; exact HZ⟩
  case round =>
    obtain ⟨k, t, hk, rfl, rfl, HS⟩ := hrel
    by_cases hlt : k < n
    · obtain ⟨b, off, rfl, hb, hcell⟩ := hr.2.2 (by omega)
      have c1 := hcell k hlt
      have hd := HS.out
      rw [sumR_drop (by rw [HL.out]; exact hlt)] at hd
      generalize l[k]?.getD 0 = x at c1 hd
      have hA := add_any t x
      generalize addR t x = r at hd hA
      obtain ⟨r1, r2⟩ := r
      by_cases h0 : r2 = 0
      · subst h0
        have HD := Lib.hid (show sumR r1 (l.drop (k + 1)) = (z1, z2) by simpa using hd)
        clear hd hcell
        go_wp2_with fail
        refine (hA _).mono ?_
        rintro e w' ⟨rfl, rfl⟩
        go_wp2_with fail
        go_round
        case rel => exact ⟨k + 1, r1, by omega, by go_num, rfl, HD⟩
        case measure => simp [intOf]; omega
      · have d0 : (r2 == 0) = false := by simpa using h0
        have HD := Lib.hid (show z1 = 0 ∧ z2 = r2 by simp [h0] at hd; exact ⟨hd.1.symm, hd.2.symm⟩)
        clear hd hcell h0
        go_wp2_with fail
        refine (hA _).mono ?_
        rintro e w' ⟨rfl, rfl⟩
        go_wp2_with fail
        go_ret2
        obtain ⟨rfl, rfl⟩ := HD.out
        exact ⟨rfl, rfl⟩
    · obtain rfl : k = n := by omega
      have HD := Lib.hid (show t = z1 ∧ 0 = z2 by
        have := HS.out
        rw [List.drop_eq_nil_of_le (by rw [HL.out]; exact Nat.le_refl _)] at this
        simpa [sumR] using this)
      go_wp2
      go_ret2
      obtain ⟨rfl, rfl⟩ := HD.out
      exact ⟨rfl, rfl⟩

set_option maxHeartbeats 800000 in
theorem refSum_any {w : World} {B n : Nat} {A : Option Addr} {l : List Int} (c : Nat) (hr : RI w B A n l) (hm : n ≤ maxLen) :
    Calls Tryd.prog 11 #[.slice A n c] w fun e w' => e = .returned (.tuple #[.int .i64 (sumR 0 l).1, .int .i64 (sumR 0 l).2]) ∧ w = w' := by
  unfold maxLen at hm
  have hlen := hr.len
  obtain ⟨z1, hz1⟩ : ∃ z, (sumR 0 l).1 = z := ⟨_, rfl⟩
  obtain ⟨z2, hz2⟩ : ∃ z, (sumR 0 l).2 = z := ⟨_, rfl⟩
  rw [hz1, hz2]
  have HZ := Lib.hid (show sumR 0 l = (z1, z2) by rw [← hz1, ← hz2])
  clear hz1 hz2
  have HL := Lib.hid hlen
  clear hlen
  go_enter Tryd.func11, Tryd.ntmps11
  go_wp2
  go_loop [4, 5] (fun s i => ∃ (k : Nat) (t : Int), k ≤ n ∧ i = .int .i64 k ∧ s = .int .i64 t ∧ Hid (sumR t (l.drop k) = (z1, z2))) (fun _ i => n - (intOf i).toNat)
  case atStart => exact ⟨0, 0, Nat.zero_le _, rfl, rfl, by rw [List.drop_zero]; exact HZ⟩
  case round =>
    obtain ⟨k, t, hk, rfl, rfl, HS⟩ := hrel
    by_cases hlt : k < n
    · obtain ⟨b, off, rfl, hb, hcell⟩ := hr.2.2 (by omega)
      have c1 := hcell k hlt
      have hd := HS.out
      rw [sumR_drop (by rw [HL.out]; exact hlt)] at hd
      generalize l[k]?.getD 0 = x at c1 hd
      have hA := refAdd_any t x
      generalize addR t x = r at hd hA
      obtain ⟨r1, r2⟩ := r
      by_cases h0 : r2 = 0
      · subst h0
        have HD := Lib.hid (show sumR r1 (l.drop (k + 1)) = (z1, z2) by simpa using hd)
        clear hd hcell
        go_wp2_with fail
        refine (hA _).mono ?_
        rintro e w' ⟨rfl, rfl⟩
        go_wp2_with fail
        go_round
        case rel => exact ⟨k + 1, r1, by omega, by go_num, rfl, HD⟩
        case measure => simp [intOf]; omega
      · have d0 : (r2 == 0) = false := by simpa using h0
        have HD := Lib.hid (show z1 = 0 ∧ z2 = r2 by simp [h0] at hd; exact ⟨hd.1.symm, hd.2.symm⟩)
        clear hd hcell h0
        go_wp2_with fail
        refine (hA _).mono ?_
        rintro e w' ⟨rfl, rfl⟩
        go_wp2_with fail
        go_ret2
        obtain ⟨rfl, rfl⟩ := HD.out
        exact ⟨rfl, rfl⟩
    · obtain rfl : k = n := by omega
      have HD := Lib.hid (show t = z1 ∧ 0 = z2 by
        have := HS.out
        rw [List.drop_eq_nil_of_le (by rw [HL.out]; exact Nat.le_refl _)] at this
        simpa [sumR] using this)
      go_wp2
      go_ret2
      obtain ⟨rfl, rfl⟩ := HD.out
      exact ⟨rfl, rfl⟩

end Go.Proofs.YtlamngpodomknaaDoor
