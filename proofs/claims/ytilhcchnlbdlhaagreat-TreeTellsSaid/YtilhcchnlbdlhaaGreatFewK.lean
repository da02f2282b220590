/-
  The statements' own test of whether pairs are few (at most so many) and short, by its contract. Nothing that was there is written. No condition.
-/
import Derived.Test.YtilhcchnlbdlhaaGreatGRow
import Derived.Test.YtilhcchnlbdlhaaGreatViewC
namespace Go.Proofs.YtilhcchnlbdlhaaGreat
open Go.RowKit
set_option maxRecDepth 100000
set_option linter.unusedVariables false

/-- A pair that is too long for the statements. -/
def longKV (x : KV) : Bool := decide (200 < x.1.length) || decide (400 < x.2.length)

set_option maxHeartbeats 400000 in
theorem bkFew1_any {w : World} {B kn kc vn vc : Nat} {ka va : Option Addr} {x : KV} (hk : RB w B ka kn x.1) (hv : RB w B va vn x.2) (hkm : kn ≤ maxLen) (hvm : vn ≤ maxLen) :
    Calls Tryz.prog 47 #[.agg #[.slice ka kn kc, .slice va vn vc]] w fun e w' => e = .returned (.bool (longKV x)) ∧ Below w.heap.size w w' := by
  unfold maxLen at hkm hvm
  have q0 : (w.alloc (.cells #[.slice ka kn kc, .slice va vn vc] 46 (0, 0))).cell? ⟨w.heap.size, 0, none⟩ = some (.slice ka kn kc) := cell_of_row _ _ 0 _ _ (0, 0) (heap_alloc_new w _)
  have q1 : (w.alloc (.cells #[.slice ka kn kc, .slice va vn vc] 46 (0, 0))).cell? ⟨w.heap.size, 1, none⟩ = some (.slice va vn vc) := cell_of_row _ _ 1 _ _ (0, 0) (heap_alloc_new w _)
  have HX := Lib.hid (show Below w.heap.size w (w.alloc (.cells #[.slice ka kn kc, .slice va vn vc] 46 (0, 0))) from (Below.refl _ _).alloc (Nat.le_refl _) _)
  have hs : longKV x = (decide (200 < kn) || decide (400 < vn)) := by unfold longKV; rw [hk.len, hv.len]
  rw [hs]
  clear hs hk hv
  by_cases h1 : 200 < kn
  · have k1 : decide ((kn : Int) > 200) = true := by simp; omega
    rw [decide_eq_true h1]
    clear h1
    go_enter Tryz.func47, Tryz.ntmps47
    go_wp2
    go_ret
    exact ⟨rfl, HX.out⟩
  · have k1 : decide ((kn : Int) > 200) = false := by simp; omega
    rw [decide_eq_false h1]
    by_cases h2 : 400 < vn
    · have k2 : decide ((vn : Int) > 400) = true := by simp; omega
      rw [decide_eq_true h2]
      clear h1 h2
      go_enter Tryz.func47, Tryz.ntmps47
      go_wp2
      go_ret
      exact ⟨rfl, HX.out⟩
    · have k2 : decide ((vn : Int) > 400) = false := by simp; omega
      rw [decide_eq_false h2]
      clear h1 h2
      go_enter Tryz.func47, Tryz.ntmps47
      go_wp2
      go_ret
      exact ⟨rfl, HX.out⟩

set_option maxHeartbeats 800000 in
theorem bkFewIdx_any {w : World} {B n : Nat} {A : Option Addr} {ps : List KV} (c : Nat) (hr : RPairs w B A n ps) (hm : n ≤ maxLen) (hB : B ≤ w.heap.size) :
    Calls Tryz.prog 78 #[.slice A n c, .func (.func 47) #[] #[]] w fun e w' => ∃ i : Int, e = .returned (.int .i64 i) ∧ decide (0 ≤ i) = ps.any longKV ∧ Below w.heap.size w w' := by
  unfold maxLen at hm
  have HR := Lib.hid hr
  clear hr
  go_enter Tryz.func78, Tryz.ntmps78
  go_wp2_with fail
  go_loopw [8] (fun i wr => ∃ j : Nat, j ≤ n ∧ i = .int .i64 j ∧ Hid (∀ (m : Nat) (y : KV), m < j → ps[m]? = some y → longKV y = false) ∧ Hid (Below w.heap.size w wr)) (fun i _ => n - (intOf i).toNat)
  case atStart => exact ⟨0, Nat.zero_le _, rfl, Lib.hid (fun m y hm => absurd hm (by omega)), Lib.hid (Below.refl _ _)⟩
  case round =>
    obtain ⟨j, hj, rfl, hbef, hbw⟩ := hrel
    by_cases hlt : j < n
    · obtain ⟨b, off, rfl, hb, hat⟩ := HR.out.2 (by omega)
      obtain ⟨y, hy⟩ : ∃ y, ps[j]? = some y := ⟨_, List.getElem?_eq_getElem (by rw [HR.out.len]; exact hlt)⟩
      obtain ⟨ka, kn, kc, va, vn, vc, h0, h1, h2, ⟨h3a, h3b⟩, h4, ⟨h5a, h5b⟩⟩ := (hat j y hy).keep hb (fun b o hbb => hbw.out.cell (p := ⟨b, o, none⟩) (Nat.lt_of_lt_of_le hbb hB))
      have HF := Lib.hid (bkFew1_any (kc := kc) (vc := vc) h2 h4 h3b h5b)
      have HY := Lib.hid hy
      clear hat hy h2 h4
      have hlt' : (j : Int) < (n : Int) := by omega
      cases hk : longKV y
      · rw [hk] at HF
        have hn := Lib.hid (fun (m : Nat) (z : KV) (hm : m < j + 1) => show ps[m]? = some z → longKV z = false by
          intro hz
          rcases Nat.lt_or_ge m j with h | h
          · exact hbef.out m z h hz
          · obtain rfl : m = j := by omega
            rw [HY.out] at hz
            cases hz
            exact hk)
        clear hk
        go_wp2_with fail
        refine HF.out.mono ?_
        rintro e w' ⟨rfl, hb'⟩
        have HE := Lib.hid (hbw.out.trans (hb'.mono hbw.out.size))
        clear hb' h0 h1
        go_wp2
        go_roundw
        case rel => exact ⟨j + 1, by omega, by go_num, hn, HE⟩
        case measure => simp [intOf]; omega
      · rw [hk] at HF
        have HEX := Lib.hid (show ps.any longKV = true from List.any_eq_true.2 ⟨y, List.mem_of_getElem? HY.out, hk⟩)
        clear hk
        go_wp2_with fail
        refine HF.out.mono ?_
        rintro e w' ⟨rfl, hb'⟩
        have HE := Lib.hid (hbw.out.trans (hb'.mono hbw.out.size))
        clear hb' h0 h1
        go_wp2
        go_ret
        exact ⟨_, rfl, by rw [HEX.out]; exact decide_eq_true (by omega), HE.out⟩
    · obtain rfl : j = n := by omega
      have HEX := Lib.hid (show ps.any longKV = false from List.any_eq_false.2 (fun y hy => by
        obtain ⟨k, hk, rfl⟩ := List.getElem_of_mem hy
        rw [hbef.out k _ (by rw [HR.out.len] at hk; exact hk) (List.getElem?_eq_getElem hk)]
        decide))
      go_wp2
      go_ret
      exact ⟨_, rfl, by rw [HEX.out]; decide, hbw.out⟩

/-- Pairs are at most so many, and short. -/
def fewN (many : Nat) (ps : List KV) : Bool := decide (ps.length ≤ many) && !(ps.any longKV)
theorem fewN_is {many : Nat} {ps : List KV} (h : fewN many ps = true) : ps.length ≤ many ∧ ∀ x ∈ ps, x.1.length ≤ 200 ∧ x.2.length ≤ 400 := by
  unfold fewN at h
  simp only [Bool.and_eq_true, decide_eq_true_eq, Bool.not_eq_true'] at h
  refine ⟨h.1, fun x hx => ?_⟩
  have := List.any_eq_false.1 h.2 x hx
  unfold longKV at this
  simp only [Bool.or_eq_true, decide_eq_true_eq, not_or] at this
  omega

set_option maxHeartbeats 800000 in
theorem few_any (many : Nat) (hmany : many ≤ 1000) {w : World} {B n : Nat} {A : Option Addr} {ps : List KV} (c : Nat) (hr : RPairs w B A n ps) (hm : n ≤ maxLen) (hB : B ≤ w.heap.size) :
    Calls Tryz.prog 14 #[.slice A n c, .int .i64 many] w fun e w' => e = .returned (.bool (fewN many ps)) ∧ Below w.heap.size w w' := by
  have hI := Lib.hid (bkFewIdx_any c hr hm hB)
  have HC : Hid (Calls Tryz.prog 46 #[.slice A n c, .func (.func 47) #[] #[]] w fun e w' => e = .returned (.bool (ps.any longKV)) ∧ Below w.heap.size w w') := Lib.hid (by
    generalize ps.any longKV = bb at hI ⊢
    clear hr
    go_enter Tryz.func46, Tryz.ntmps46
    go_wp2_with fail
    refine hI.out.mono ?_
    rintro e w' ⟨i, rfl, hi, hb⟩
    have HI := Lib.hid hi
    clear hi
    go_wp2
    go_ret
    rw [← HI.out]
    exact ⟨rfl, hb⟩)
  have hs : fewN many ps = (decide (n ≤ many) && !(ps.any longKV)) := by unfold fewN; rw [hr.len]
  rw [hs]
  clear hs hr hI
  unfold maxLen at hm
  generalize ps.any longKV = bb at HC ⊢
  by_cases h : n ≤ many
  · have k0 : (n : Int) ≤ (many : Int) := by omega
    rw [decide_eq_true h]
    go_enter Tryz.func14, Tryz.ntmps14
    go_wp2_with fail
    refine HC.out.mono ?_
    rintro e w' ⟨rfl, hb⟩
    go_wp2
    go_ret
    exact ⟨by simp, hb⟩
  · have k0 : ¬ (n : Int) ≤ (many : Int) := by omega
    rw [decide_eq_false h]
    go_enter Tryz.func14, Tryz.ntmps14
    go_wp2
    go_ret
    exact ⟨rfl, Below.refl _ _⟩
end Go.Proofs.YtilhcchnlbdlhaaGreat
