/-
  The statements' own test of whether calls are few, by its contract. Nothing that was there is written. No condition.
-/
import Derived.Test.YtkpopdoigkcpgaaDiskSafeW
namespace Go.Proofs.Ytkpopdoigkcpgaa
open Go.RowKit
set_option linter.unusedVariables false

theorem DoCells.box (w : World) (d : DoV) : DoCells w.heap.size d (w.alloc (.cells #[.int .i64 d.op, .int .i64 d.i, .int .u8 d.b, .slice d.ka d.kn d.kc] 34)) := DoCells.new w d

theorem few1_any (w : World) (d : DoV) (hk : d.kn ≤ maxLen) : Calls Try.prog 28 #[.agg #[.int .i64 d.op, .int .i64 d.i, .int .u8 d.b, .slice d.ka d.kn d.kc]] w fun e w' => e = .returned (.bool (decide (60 < d.kn))) ∧ Below w.heap.size w w' := by
  unfold maxLen at hk
  have HC := DoCells.box w d
  obtain ⟨q0, q1, q2, q3, q4⟩ := HC
  go_enter Try.func28, Try.ntmps28
  go_wp2
  go_ret
  refine ⟨?_, (Below.refl _ _).alloc (Nat.le_refl _) _⟩
  have : ((60 : Int) < (d.kn : Int)) ↔ 60 < d.kn := by omega
  simp [this]

set_option maxHeartbeats 800000 in
theorem fewIdx_any {w : World} {B n : Nat} {A : Option Addr} {ds : List DoV} (c : Nat) (hr : RDos w B A n ds) (hm : n ≤ maxLen) (hB : B ≤ w.heap.size) :
    Calls Try.prog 45 #[.slice A n c, .func (.func 28) #[] #[]] w fun e w' => ∃ i : Int, e = .returned (.int .i64 i) ∧ (i < 0 → ∀ d ∈ ds, d.kn ≤ 60) ∧ Below w.heap.size w w' := by
  go_enter Try.func45, Try.ntmps45
  go_wp2_with fail
  go_loopw [8] (fun i wr => ∃ j : Nat, j ≤ n ∧ i = .int .i64 j ∧ Hid (∀ m, m < j → ∀ d, ds[m]? = some d → d.kn ≤ 60) ∧ Below w.heap.size w wr) (fun i _ => n - (intOf i).toNat)
  case atStart => exact ⟨0, Nat.zero_le _, rfl, Lib.hid (fun m hm => absurd hm (by omega)), Below.refl _ _⟩
  case round =>
    obtain ⟨j, hj, rfl, hbef, hbw⟩ := hrel
    have hm' : n ≤ 9223372036854775807 := by unfold maxLen at hm; omega
    by_cases hlt : j < n
    · obtain ⟨b, off, rfl, hb, hat⟩ := hr.2 (by omega)
      obtain ⟨d, hd, hdo⟩ := hat j hlt
      have hdo' := hdo.keep hb (fun b o hbb => hbw.cell (p := ⟨b, o, none⟩) (Nat.lt_of_lt_of_le hbb hB))
      obtain ⟨d0, d1, d2, d3, d4, d5, d6, d7, d8, d9⟩ := hdo'
      have HD := Lib.hid hd
      clear hat hdo hd d7
      by_cases hk : 60 < d.kn
      · have hkd : decide (60 < d.kn) = true := by simpa using hk
        go_wp2_with fail
        refine (few1_any _ d d9).mono ?_
        rw [hkd]
        rintro e w' ⟨rfl, hb'⟩
        go_wp2
        go_ret
        exact ⟨_, rfl, (fun h => absurd h (by omega)), hbw.trans (hb'.mono hbw.size)⟩
      · have hkd : decide (60 < d.kn) = false := by simpa using hk
        have hn := Lib.hid (fun m (hm : m < j + 1) => show ∀ d, ds[m]? = some d → d.kn ≤ 60 by
          intro d' hd'
          rcases Nat.lt_or_ge m j with h | h
          · exact hbef.out m h d' hd'
          · obtain rfl : m = j := by omega
            rw [HD.out] at hd'
            cases hd'
            omega)
        clear hk
        go_wp2_with fail
        refine (few1_any _ d d9).mono ?_
        rw [hkd]
        rintro e w' ⟨rfl, hb'⟩
        go_wp2
        go_roundw
        case rel => exact ⟨j + 1, by omega, by go_num, hn, hbw.trans (hb'.mono hbw.size)⟩
        case measure => simp [intOf]; omega
    · obtain rfl : j = n := by omega
      have hn := Lib.hid (show ∀ d ∈ ds, d.kn ≤ 60 from fun d hd => by
        obtain ⟨m, hm1, rfl⟩ := List.getElem_of_mem hd
        exact hbef.out m (by rw [← hr.len]; exact hm1) _ (List.getElem?_eq_getElem hm1))
      clear hbef
      go_wp2
      go_ret
      exact ⟨-1, rfl, fun _ => hn.out, hbw⟩

theorem fewHas_any {w : World} {B n : Nat} {A : Option Addr} {ds : List DoV} (c : Nat) (hr : RDos w B A n ds) (hm : n ≤ maxLen) (hB : B ≤ w.heap.size) :
    Calls Try.prog 27 #[.slice A n c, .func (.func 28) #[] #[]] w fun e w' => ∃ b : Bool, e = .returned (.bool b) ∧ (b = false → ∀ d ∈ ds, d.kn ≤ 60) ∧ Below w.heap.size w w' := by
  go_enter Try.func27, Try.ntmps27
  go_wp2_with fail
  refine (fewIdx_any c hr hm hB).mono ?_
  rintro e w' ⟨i, rfl, hi, hb⟩
  have HI := Lib.hid hi
  clear hi
  go_wp2
  go_ret
  refine ⟨_, rfl, fun h => HI.out ?_, hb⟩
  simp at h
  omega

theorem few_any {w : World} {B n : Nat} {A : Option Addr} {ds : List DoV} (c : Nat) (hr : RDos w B A n ds) (hm : n ≤ maxLen) (hB : B ≤ w.heap.size) :
    Calls Try.prog 10 #[.slice A n c] w fun e w' => ∃ b : Bool, e = .returned (.bool b) ∧ (b = true → n ≤ 60 ∧ ∀ d ∈ ds, d.kn ≤ 60) ∧ Below w.heap.size w w' := by
  have hm' : n ≤ 9223372036854775807 := by unfold maxLen at hm; omega
  by_cases hn : n ≤ 60
  · have kn : decide ((n : Int) ≤ 60) = true := by simp; omega
    go_enter Try.func10, Try.ntmps10
    go_wp2_with fail
    refine (fewHas_any c hr hm hB).mono ?_
    rintro e w' ⟨b, rfl, hi, hb⟩
    have HI := Lib.hid hi
    clear hi
    go_wp2
    go_ret
    refine ⟨_, rfl, fun h => ⟨hn, HI.out ?_⟩, hb⟩
    simpa using h
  · have kn : decide ((n : Int) ≤ 60) = false := by simp; omega
    go_enter Try.func10, Try.ntmps10
    go_wp2
    go_ret
    exact ⟨false, rfl, (fun h => by cases h), Below.refl _ _⟩

end Go.Proofs.Ytkpopdoigkcpgaa
