/-
  The library's Compare over ints by its contract, and the keys laws' own check: it returns true. No condition but that lengths are ints.
-/
import Derived.Test.YtocejddighjieaaFldC
import Derived.Test.YtocejddighjieaaKeyB
namespace Go.Proofs.Ytocejddighjieaa
open Go.RowKit
set_option maxRecDepth 100000
set_option linter.unusedVariables false

set_option maxHeartbeats 400000 in
theorem isNaN_any (x : Int) (w : World) : Calls Try.prog 33 #[.int .i64 x] w fun e w' => e = .returned (.bool false) ∧ w = w' := by
  go_enter Try.func33, Try.ntmps33
  go_wp2
  go_ret
  exact ⟨rfl, rfl⟩

set_option maxHeartbeats 800000 in
theorem cmpInt_any (x y : Int) (w : World) : Calls Try.prog 28 #[.int .i64 x, .int .i64 y] w fun e w' => e = .returned (.int .i64 (cmp1 x y)) ∧ w = w' := by
  have HX := Lib.hid (isNaN_any x)
  have HY := Lib.hid (isNaN_any y)
  unfold cmp1
  by_cases h1 : x < y
  · rw [if_pos h1]
    go_enter Try.func28, Try.ntmps28
    go_wp2_with fail
    refine (HX.out _).mono ?_
    rintro e w1 ⟨rfl, rfl⟩
    go_wp2_with fail
    refine (HY.out _).mono ?_
    rintro e w1 ⟨rfl, rfl⟩
    go_wp2
    go_ret
    exact ⟨rfl, rfl⟩
  · rw [if_neg h1]
    by_cases h2 : y < x
    · rw [if_pos h2]
      go_enter Try.func28, Try.ntmps28
      go_wp2_with fail
      refine (HX.out _).mono ?_
      rintro e w1 ⟨rfl, rfl⟩
      go_wp2_with fail
      refine (HY.out _).mono ?_
      rintro e w1 ⟨rfl, rfl⟩
      go_wp2
      go_ret
      exact ⟨rfl, rfl⟩
    · rw [if_neg h2]
      go_enter Try.func28, Try.ntmps28
      go_wp2_with fail
      refine (HX.out _).mono ?_
      rintro e w1 ⟨rfl, rfl⟩
      go_wp2_with fail
      refine (HY.out _).mono ?_
      rintro e w1 ⟨rfl, rfl⟩
      go_wp2
      go_ret
      exact ⟨rfl, rfl⟩

theorem cmpI_step : ∀ (l m : List Int) (k : Nat) (x y : Int), l[k]? = some x → m[k]? = some y → l.take k = m.take k → cmpI l m = if cmp1 x y ≠ 0 then cmp1 x y else cmpI (l.drop (k + 1)) (m.drop (k + 1))
  | a :: l, b :: m, 0, x, y, hx, hy, _ => by
    obtain rfl : a = x := by simpa using hx
    obtain rfl : b = y := by simpa using hy
    rfl
  | a :: l, b :: m, k + 1, x, y, hx, hy, ht => by
    rw [List.take_succ_cons, List.take_succ_cons, List.cons.injEq] at ht
    obtain ⟨rfl, ht⟩ := ht
    have := cmpI_step l m k x y (by simpa using hx) (by simpa using hy) ht
    rw [List.drop_succ_cons, List.drop_succ_cons, ← this]
    show (if cmp1 a a ≠ 0 then cmp1 a a else cmpI l m) = _
    unfold cmp1
    rw [if_neg (by omega)]
theorem cmp1_same {x y : Int} (h : cmp1 x y = 0) : x = y := by
  unfold cmp1 at h
  by_cases h1 : x < y
  · rw [if_pos h1] at h; cases h
  · rw [if_neg h1] at h
    by_cases h2 : y < x
    · rw [if_pos h2] at h; cases h
    · omega
theorem cmpI_self : ∀ l : List Int, cmpI l l = 0
  | [] => rfl
  | a :: l => by
    show (if cmp1 a a ≠ 0 then cmp1 a a else cmpI l l) = _
    unfold cmp1
    rw [if_neg (by omega)]
    exact cmpI_self l

set_option maxHeartbeats 1600000 in
/-- Of lists of one length. -/
theorem cmpInts_any {w : World} {B B' n : Nat} {A A' : Option Addr} {l l' : List Int} (c d : Nat) (hr : RI w B A n l) (hr' : RI w B' A' n l') (hm : n ≤ maxLen) :
    Calls Try.prog 21 #[.slice A n c, .slice A' n d] w fun e w' => e = .returned (.int .i64 (cmpI l l')) ∧ w = w' := by
  unfold maxLen at hm
  have HL := Lib.hid hr.len
  have HL' := Lib.hid hr'.len
  go_enter Try.func21, Try.ntmps21
  go_wp2_with fail
  go_loopw [11] (fun i wr => ∃ k : Nat, k ≤ n ∧ i = .int .i64 k ∧ Hid (l.take k = l'.take k ∧ w = wr)) (fun i _ => n - (intOf i).toNat)
  case atStart => exact ⟨0, Nat.zero_le _, rfl, Lib.hid ⟨rfl, rfl⟩⟩
  case round =>
    obtain ⟨k, hk, rfl, HK⟩ := hrel
    obtain ⟨ht, rfl⟩ := HK.out
    by_cases hlt : k < n
    · obtain ⟨b, off, rfl, hb, hcell⟩ := hr.2.2 (by omega)
      obtain ⟨b', off', rfl, hb', hcell'⟩ := hr'.2.2 (by omega)
      have hck := hcell k hlt
      have hck' := hcell' k hlt
      obtain ⟨x, hx⟩ : ∃ x, l[k]? = some x := ⟨_, List.getElem?_eq_getElem (by rw [HL.out]; exact hlt)⟩
      obtain ⟨y, hy⟩ : ∃ y, l'[k]? = some y := ⟨_, List.getElem?_eq_getElem (by rw [HL'.out]; exact hlt)⟩
      rw [hx, Option.getD_some] at hck
      rw [hy, Option.getD_some] at hck'
      have HS := Lib.hid (cmpI_step l l' k x y hx hy ht)
      have HC := Lib.hid (cmpInt_any x y w)
      have hkn : ¬ n ≤ k := by omega
      by_cases hc : cmp1 x y = 0
      · have HN := Lib.hid (show l.take (k + 1) = l'.take (k + 1) ∧ w = w from ⟨by
          rw [List.take_add_one, List.take_add_one, ht, hx, hy, cmp1_same hc], rfl⟩)
        rw [hc] at HC
        clear hx hy ht hcell hcell' hc HK
        go_wp2_with fail
        refine HC.out.mono ?_
        rintro e w1 ⟨rfl, rfl⟩
        go_wp2
        go_roundw
        case rel => exact ⟨k + 1, by omega, by go_num, HN⟩
        case measure => simp [intOf]; omega
      · have HE := Lib.hid (show cmpI l l' = cmp1 x y by rw [HS.out, if_pos hc])
        have hne : (cmp1 x y == 0) = false := by simpa using hc
        have hne2 : ¬ cmp1 x y = 0 := hc
        generalize cmp1 x y = r at HC HE hne hne2
        clear hx hy ht hcell hcell' hc HK HS
        go_wp2_with fail
        refine HC.out.mono ?_
        rintro e w1 ⟨rfl, rfl⟩
        go_wp2
        go_ret
        exact ⟨by rw [HE.out]; rfl, rfl⟩
    · obtain rfl : k = n := by omega
      have HE := Lib.hid (show cmpI l l' = 0 by
        rw [List.take_of_length_le (by rw [HL.out]; exact Nat.le_refl _), List.take_of_length_le (by rw [HL'.out]; exact Nat.le_refl _)] at ht
        rw [ht, cmpI_self])
      clear ht HK
      go_wp2
      go_ret
      exact ⟨by rw [HE.out]; rfl, rfl⟩

end Go.Proofs.Ytocejddighjieaa
