/-
  Whether a node's Used is above 2^60, over a row of nodes. No condition beyond what each says.
-/
import Derived.Test.YtiknkbpojmgbhaaGreatEncM
import Derived.Test.YtiknkbpojmgbhaaGreatEncI
import Derived.Test.YtiknkbpojmgbhaaGreatTreC
namespace Go.Proofs.YtiknkbpojmgbhaaGreat
open Go.RowKit Go.Maps
set_option maxRecDepth 100000
set_option linter.unusedVariables false

def overN (x : Nd) : Bool := decide (usedN x > 1152921504606846976)
set_option maxHeartbeats 3200000 in
theorem over1_any (x : Nd) (w : World) : Calls Tryz.prog 14 #[.agg #[.int .i64 x.y, .int .i64 x.i, .int .i64 x.p, .int .i64 x.f, .int .i64 x.o, .bool x.ab, .int .i64 x.li, .int .i64 x.pr, .int .i64 x.en, .int .i64 x.ex, .int .i64 x.la, .int .i64 x.ca]] w fun e w' => e = .returned (.bool (overN x)) ∧ Below w.heap.size w w' := by
  obtain ⟨w1, hw1⟩ : ∃ w1, w1 = w.alloc (.cells #[.int .i64 x.y, .int .i64 x.i, .int .i64 x.p, .int .i64 x.f, .int .i64 x.o, .bool x.ab, .int .i64 x.li, .int .i64 x.pr, .int .i64 x.en, .int .i64 x.ex, .int .i64 x.la, .int .i64 x.ca] 40) := ⟨_, rfl⟩
  have hb1 : Below w.heap.size w w1 := by rw [hw1]; exact (Below.refl _ _).alloc (Nat.le_refl _) _
  have HU := Lib.hid (Zpz x w1)
  have HB := Lib.hid hb1
  unfold overN
  clear hb1
  generalize usedN x = z at HU ⊢
  go_enter Tryz.func14, Tryz.ntmps14
  go_wp2_with fail
  rw [← hw1]
  refine HU.out.mono ?_
  rintro e w2 ⟨rfl, h2⟩
  have HE := Lib.hid (HB.out.trans (h2.mono HB.out.size))
  clear h2
  go_wp2_with fail
  go_ret
  exact ⟨rfl, HE.out⟩
set_option maxHeartbeats 3200000 in
theorem overIdx_any {w : World} {B n : Nat} {A : Option Addr} {L : List Nd} (c : Nat) (hr : NdE.R w B A n L) (hm : n ≤ maxLen) (hB : B ≤ w.heap.size) :
    Calls Tryz.prog 50 #[.slice A n c, .func (.func 14) #[] #[]] w fun e w' => ∃ i : Int, e = .returned (.int .i64 i) ∧ decide (0 ≤ i) = L.any overN ∧ Below w.heap.size w w' := by
  unfold maxLen at hm
  have HR := Lib.hid hr
  clear hr
  go_enter Tryz.func50, Tryz.ntmps50
  go_wp2_with fail
  go_loopw [8] (fun i wr => ∃ j : Nat, j ≤ n ∧ i = .int .i64 j ∧ Hid (∀ (m : Nat) (y : Nd), m < j → L[m]? = some y → overN y = false) ∧ Hid (Below w.heap.size w wr)) (fun i _ => n - (intOf i).toNat)
  case atStart => exact ⟨0, Nat.zero_le _, rfl, Lib.hid (fun m y hm => absurd hm (by omega)), Lib.hid (Below.refl _ _)⟩
  case round =>
    obtain ⟨j, hj, rfl, hbef, hbw⟩ := hrel
    by_cases hlt : j < n
    · obtain ⟨y, hy⟩ : ∃ y, L[j]? = some y := ⟨_, List.getElem?_eq_getElem (by rw [HR.out.len]; exact hlt)⟩
      obtain ⟨b, off, rfl, hb, hat⟩ := Zqy (HR.out.below (hbw.out.mono hB)) hy
      obtain ⟨c0, c1, c2, c3, c4, c5, c6, c7, c8, c9, c10, c11⟩ := ZqU hat
      have HF := Lib.hid (over1_any y wr)
      have HY := Lib.hid hy
      clear hat hy hb
      have hlt' : (j : Int) < (n : Int) := by omega
      cases hk : overN y
      · rw [hk] at HF
        have hn := Lib.hid (fun (m : Nat) (z : Nd) (hm : m < j + 1) => show L[m]? = some z → overN z = false by
          intro hz
          rcases Nat.lt_or_ge m j with h | h
          · exact hbef.out m z h hz
          · obtain rfl : m = j := by omega
            rw [HY.out] at hz
            cases hz
            exact hk)
        clear hk
        go_wp2_with fail
        refine HF.out.mono ?_
        rintro e w' ⟨rfl, hb'⟩
        have HE := Lib.hid (hbw.out.trans (hb'.mono hbw.out.size))
        clear hb' c0 c1 c2 c3 c4 c5 c6 c7 c8 c9 c10 c11
        go_wp2_with fail
        go_roundw
        case rel => exact ⟨j + 1, by omega, by go_num, hn, HE⟩
        case measure => simp [intOf]; omega
      · rw [hk] at HF
        have HEX := Lib.hid (show L.any overN = true from List.any_eq_true.2 ⟨y, List.mem_of_getElem? HY.out, hk⟩)
        clear hk
        go_wp2_with fail
        refine HF.out.mono ?_
        rintro e w' ⟨rfl, hb'⟩
        have HE := Lib.hid (hbw.out.trans (hb'.mono hbw.out.size))
        clear hb' c0 c1 c2 c3 c4 c5 c6 c7 c8 c9 c10 c11
        go_wp2_with fail
        go_ret
        exact ⟨_, rfl, by rw [HEX.out]; exact decide_eq_true (by omega), HE.out⟩
    · obtain rfl : j = n := by omega
      have HEX := Lib.hid (show L.any overN = false from List.any_eq_false.2 (fun y hy => by
        obtain ⟨k, hk, rfl⟩ := List.getElem_of_mem hy
        rw [hbef.out k _ (by rw [HR.out.len] at hk; exact hk) (List.getElem?_eq_getElem hk)]
        decide))
      go_wp2_with fail
      go_ret
      exact ⟨_, rfl, by rw [HEX.out]; decide, hbw.out⟩
theorem over_any {w : World} {B n : Nat} {A : Option Addr} {L : List Nd} (c : Nat) (hr : NdE.R w B A n L) (hm : n ≤ maxLen) (hB : B ≤ w.heap.size) :
    Calls Tryz.prog 13 #[.slice A n c, .func (.func 14) #[] #[]] w fun e w' => e = .returned (.bool (L.any overN)) ∧ Below w.heap.size w w' := by
  have hI := Lib.hid (overIdx_any c hr hm hB)
  generalize L.any overN = bb at hI ⊢
  clear hr
  go_enter Tryz.func13, Tryz.ntmps13
  go_wp2_with fail
  refine hI.out.mono ?_
  rintro e w' ⟨i, rfl, hi, hb⟩
  have HI := Lib.hid hi
  clear hi
  go_wp2_with fail
  go_ret
  rw [← HI.out]
  exact ⟨rfl, hb⟩
end Go.Proofs.YtiknkbpojmgbhaaGreat
