/-
  Contract of the plain Parse of a code: for every text it answers what the text tells; nothing is written. No condition.
-/
import Derived.Test.YtlamngpodomknaaDoorCodB
namespace Go.Proofs.YtlamngpodomknaaDoor
open Go.RowKit
set_option maxRecDepth 100000
set_option linter.unusedVariables false

theorem take_drop_one (s : ByteArray) (j : Nat) (h0 : 4 ≤ j) (h : j < s.size) : (s.data.toList.drop 4).take (j + 1 - 4) = (s.data.toList.drop 4).take (j - 4) ++ [s[j]] := by
  have h' : j < s.data.toList.length := by rw [Array.length_toList]; exact h
  rw [show j + 1 - 4 = j - 4 + 1 by omega, List.take_add_one, List.getElem?_drop, show 4 + (j - 4) = j by omega, List.getElem?_eq_getElem h']
  rfl
/-- Texts are alike as their bytes are. -/
theorem printS_alike (f o : Int) (s : ByteArray) : ((printS f o).toList == s.toList) = decide (printL f o = s.data.toList) := by
  rw [ByteArray.toList_eq, ByteArray.toList_eq]
  show (printL f o == s.data.toList) = _
  rw [Bool.eq_iff_iff, beq_iff_eq, decide_eq_true_iff]

set_option maxHeartbeats 1600000 in
theorem refParse_any (s : ByteArray) (hs : s.size ≤ maxLen) (w : World) :
    Calls Tryd.prog 20 #[.string s] w fun e w' => e = .returned (.tuple #[.int .i64 (parseR s.data.toList).1, .int .i64 (parseR s.data.toList).2.1, .bool (parseR s.data.toList).2.2]) ∧ w = w' := by
  unfold maxLen at hs
  by_cases hl : s.size = 8
  · have hL : s.data.toList.length = 8 := by rw [Array.length_toList]; exact hl
    have hP : parseR s.data.toList = if printL (valI (s.data.toList.take 3)) (valI ((s.data.toList.drop 4).take 4)) = s.data.toList then (valI (s.data.toList.take 3), valI ((s.data.toList.drop 4).take 4), true) else (0, 0, false) := by
      unfold parseR
      rw [if_pos hL]
    have c1 : ((s.size : Int) == 8) = true := by simp; omega
    have HP := Lib.hid hP
    have HL := Lib.hid hL
    have HS := Lib.hid hl
    clear hP hL
    go_enter Tryd.func20, Tryd.ntmps20
    go_wp2
    go_loop [5, 7] (fun v i => ∃ k : Nat, k ≤ 3 ∧ i = .int .i64 k ∧ v = .int .i64 (valI (s.data.toList.take k))) (fun _ i => 3 - (intOf i).toNat)
    case atStart => exact ⟨0, Nat.zero_le _, rfl, rfl⟩
    case round =>
      obtain ⟨k, hk, rfl, rfl⟩ := hrel
      by_cases hlt : k < 3
      · have hT := take_one s k (by omega)
        have hB := valI_small (l := s.data.toList.take k) (k := k) (by simp; have := HL.out; simp at this; omega) (by omega)
        obtain ⟨x, hx⟩ : ∃ x, s[k]'(by omega) = x := ⟨_, rfl⟩
        rw [hx] at hT
        have hV := valI_snoc (s.data.toList.take k) x
        rw [← hT] at hV
        obtain ⟨c, hc⟩ : ∃ c, (x.toNat : Int) = c := ⟨_, rfl⟩
        have hcb : 0 ≤ c ∧ c < 256 := by have := x.toNat_lt; omega
        rw [hc] at hV
        have HV := Lib.hid hV
        clear hV hT
        generalize valI (s.data.toList.take k) = v at hB HV
        obtain ⟨z, hz⟩ : ∃ z, v * 10 = z := ⟨_, rfl⟩
        have w2 : IntKind.i64.wrap (v * 10) = z := by rw [IntKind.wrap_i64]; omega
        have w4 : IntKind.i64.wrap c = c := by rw [IntKind.wrap_i64]; omega
        obtain ⟨t, ht⟩ : ∃ t, z + c = t := ⟨_, rfl⟩
        have w3 : IntKind.i64.wrap (z + c) = t := by rw [IntKind.wrap_i64]; omega
        obtain ⟨u, hu⟩ : ∃ u, t - 48 = u := ⟨_, rfl⟩
        have w5 : IntKind.i64.wrap (t - 48) = u := by rw [IntKind.wrap_i64]; omega
        have E := Lib.hid (show u = valI (s.data.toList.take (k + 1)) by rw [HV.out]; omega)
        clear hz ht hu hcb hB HV
        go_wp2
        go_round
        case rel => exact ⟨k + 1, by omega, by go_num, by rw [← E.out]⟩
        case measure => simp [intOf]; omega
      · obtain rfl : k = 3 := by omega
        generalize valI (s.data.toList.take 3) = f at HP
        clear hlt hk
        go_wp2
        go_loop [6, 8] (fun v i => ∃ j : Nat, 4 ≤ j ∧ j ≤ 8 ∧ i = .int .i64 j ∧ v = .int .i64 (valI ((s.data.toList.drop 4).take (j - 4)))) (fun _ i => 8 - (intOf i).toNat)
        case atStart => exact ⟨4, Nat.le_refl _, by omega, rfl, rfl⟩
        case round =>
          obtain ⟨k, hk4, hk, rfl, rfl⟩ := hrel
          by_cases hlt : k < 8
          · have hT := take_drop_one s k hk4 (by omega)
            have hB := valI_small (l := (s.data.toList.drop 4).take (k - 4)) (k := k - 4) (by have := HL.out; simp at this ⊢; omega) (by omega)
            obtain ⟨x, hx⟩ : ∃ x, s[k]'(by omega) = x := ⟨_, rfl⟩
            rw [hx] at hT
            have hV := valI_snoc ((s.data.toList.drop 4).take (k - 4)) x
            rw [← hT] at hV
            obtain ⟨c, hc⟩ : ∃ c, (x.toNat : Int) = c := ⟨_, rfl⟩
            have hcb : 0 ≤ c ∧ c < 256 := by have := x.toNat_lt; omega
            rw [hc] at hV
            have HV := Lib.hid hV
            clear hV hT
            generalize valI ((s.data.toList.drop 4).take (k - 4)) = v at hB HV
            obtain ⟨z, hz⟩ : ∃ z, v * 10 = z := ⟨_, rfl⟩
            have w2 : IntKind.i64.wrap (v * 10) = z := by rw [IntKind.wrap_i64]; omega
            have w4 : IntKind.i64.wrap c = c := by rw [IntKind.wrap_i64]; omega
            obtain ⟨t, ht⟩ : ∃ t, z + c = t := ⟨_, rfl⟩
            have w3 : IntKind.i64.wrap (z + c) = t := by rw [IntKind.wrap_i64]; omega
            obtain ⟨u, hu⟩ : ∃ u, t - 48 = u := ⟨_, rfl⟩
            have w5 : IntKind.i64.wrap (t - 48) = u := by rw [IntKind.wrap_i64]; omega
            have E := Lib.hid (show u = valI ((s.data.toList.drop 4).take (k + 1 - 4)) by rw [HV.out]; omega)
            clear hz ht hu hcb hB HV
            go_wp2
            go_round
            case rel => exact ⟨k + 1, by omega, by omega, by go_num, by rw [← E.out]⟩
            case measure => simp [intOf]; omega
          · obtain rfl : k = 8 := by omega
            rw [show 8 - 4 = 4 from rfl]
            generalize valI ((s.data.toList.drop 4).take 4) = o at HP
            clear hlt hk hk4
            have hpr := printS_alike f o s
            have hq := HP.out
            cases hd : decide (printL f o = s.data.toList)
            · rw [hd] at hpr
              have HR := Lib.hid (show parseR s.data.toList = (0, 0, false) by rw [hq, if_neg (of_decide_eq_false hd)])
              clear hq hd HP
              go_wp2_with fail
              refine (refPrint_any _ _ _).mono ?_
              rintro e w' ⟨rfl, rfl⟩
              go_wp2_with fail
              go_ret3
              rw [HR.out]
              exact ⟨rfl, rfl⟩
            · rw [hd] at hpr
              have HR := Lib.hid (show parseR s.data.toList = (f, o, true) by rw [hq, if_pos (of_decide_eq_true hd)])
              clear hq hd HP
              go_wp2_with fail
              refine (refPrint_any _ _ _).mono ?_
              rintro e w' ⟨rfl, rfl⟩
              go_wp2_with fail
              go_ret3
              rw [HR.out]
              exact ⟨rfl, rfl⟩
  · have hP : parseR s.data.toList = (0, 0, false) := by
      unfold parseR
      rw [if_neg (by rw [Array.length_toList]; exact hl)]
    have c1 : ((s.size : Int) == 8) = false := by simp; omega
    rw [hP]
    clear hP
    go_enter Tryd.func20, Tryd.ntmps20
    go_wp2
    go_ret3
    exact ⟨rfl, rfl⟩
end Go.Proofs.YtlamngpodomknaaDoor
