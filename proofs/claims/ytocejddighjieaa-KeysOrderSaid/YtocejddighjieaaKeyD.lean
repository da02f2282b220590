/-
  The keys laws' own check, and the walks of KeysTell and KeysOrder: each returns true. No condition beyond those that the statements themselves say.
-/
import Derived.Test.YtocejddighjieaaKeyC
import Derived.Lib.SlBytesConst
namespace Go.Proofs.Ytocejddighjieaa
open Go.RowKit
set_option maxRecDepth 100000
set_option linter.unusedVariables false

def tagsL : List Int := [66, 68, 69, 70, 74, 76, 78, 79, 83, 89]
theorem tags_bytes : AllBytes tagsL := by
  have : ∀ x ∈ tagsL, 0 ≤ x ∧ x < 256 := by decide
  exact this
set_option maxHeartbeats 400000 in
theorem tags_any (w : World) : Calls Try.prog 26 #[] w fun e w' => ∃ A c, e = .returned (.slice A 10 c) ∧ RB w' w'.heap.size A 10 tagsL ∧ Below w.heap.size w w' := by
  have HR := Lib.hid (RB.mark w 5 tagsL #[.int .u8 66, .int .u8 68, .int .u8 69, .int .u8 70, .int .u8 74, .int .u8 76, .int .u8 78, .int .u8 79, .int .u8 83, .int .u8 89] (10, 11) rfl tags_bytes)
  have hcv := fun (w : World) (C : Array Value) (n c : Nat) => Lib.run_convert_bytes_const (P := Try.prog) w 23 5 C n c Try.underlying23 Try.underlying5
  go_enter Try.func26, Try.ntmps26
  go_wp2
  go_ret
  exact ⟨_, _, rfl, HR.out.more (by simp), (Below.refl _ _).alloc (Nat.le_refl _) _⟩

def awL : List Int := [2020, 100, 5010]
theorem aw_in : ∀ x ∈ awL, 0 ≤ x ∧ x < 4294967296 := by decide
theorem aw_ints : ∀ x ∈ awL, -9223372036854775808 ≤ x ∧ x ≤ 9223372036854775807 := fun x hx => by have := aw_in x hx; omega
theorem tags_str : strOfNums tagsL = ⟨#[66, 68, 69, 70, 74, 76, 78, 79, 83, 89]⟩ := by decide +kernel

set_option maxHeartbeats 1600000 in
theorem kAwake_any (w : World) : Calls Try.prog 15 #[] w fun e w' => e = .returned (.bool true) ∧ Below w.heap.size w w' := by
  have hb1 : Below w.heap.size w (w.alloc (.cells #[.int .i64 2020, .int .i64 100, .int .i64 5010] 3)) := (Below.refl _ _).alloc (Nat.le_refl _) _
  have HP := Lib.hid (kKey_any 66 _ 3 3 _ awL _ (by omega) (ints_lit w 3 awL #[.int .i64 2020, .int .i64 100, .int .i64 5010] rfl aw_ints) (by simp) (Nat.le_refl _) (by unfold maxLen; omega))
  go_enter Try.func15, Try.ntmps15
  go_wp2_with fail
  refine HP.out.mono ?_
  rintro e w2 ⟨v2, rfl, ho⟩
  have hb2 := hb1.trans (ho.2.mono hb1.size)
  obtain ⟨A2, c2, rfl, hc2, hr2⟩ := ho.read (tagL_bytes (by omega) _)
  have hl16 : (keyL 66 awL).length = 13 := by unfold keyL; rw [tagL_length]; rfl
  rw [hl16] at hr2 hc2 ⊢
  have HU := Lib.hid (kSplit_any A2 13 c2 _ _ w2 hr2 (Nat.le_refl _) hc2 (by unfold maxLen; omega))
  rw [show splitK (keyL 66 awL) = (awL, 66, true) from by unfold splitK; rw [split_key aw_in (by decide)]] at HU
  clear ho hr2 hl16
  go_wp2_with fail
  refine HU.out.mono ?_
  rintro e w3 ⟨A3, k3, c3, rfl, hk3, hk3', hr3, hb3⟩
  have hb3' := hb2.trans (hb3.mono hb2.size)
  obtain rfl : k3 = 3 := hr3.len.symm
  have hb4 : Below w3.heap.size w3 (w3.alloc (.cells #[.int .i64 2020, .int .i64 100, .int .i64 5010] 3)) := (Below.refl _ _).alloc (Nat.le_refl _) _
  have HE := Lib.hid (EqualInts_any c3 3 (hr3.below hb4) (ints_lit w3 3 awL #[.int .i64 2020, .int .i64 100, .int .i64 5010] rfl aw_ints) (by decide) (by decide) hb4.size (by simp))
  have HB := Lib.hid (And.intro hb3' hb4)
  rw [show decide (awL = awL) = true from rfl] at HE
  clear hr3 hb3 hb4 hb3' hb2 hb1
  go_wp2_with fail
  refine HE.out.mono ?_
  rintro e w5 ⟨rfl, hb5⟩
  have HB5 := Lib.hid hb5
  have HT := Lib.hid (tags_any w5)
  clear hb5
  go_wp2_with fail
  refine HT.out.mono ?_
  rintro e w6 ⟨A6, c6, rfl, hr6, hb6⟩
  have hcv := hr6.conv c6
  rw [tags_str] at hcv
  have HB6 := Lib.hid hb6
  clear hb6 hr6
  go_wp2
  go_ret
  refine ⟨rfl, HB.out.1.trans ?_⟩
  have h5 := HB.out.2.trans (HB5.out.mono HB.out.2.size)
  exact (h5.trans (HB6.out.mono h5.size)).mono HB.out.1.size

set_option maxHeartbeats 1600000 in
theorem keysTell_walk (t : Int) (A0 : Option Addr) (n0 c0 : Nat) (l : List Int) (A1 : Option Addr) (n1 c1 : Nat) (b : List Int) (w : World) (ht : 0 ≤ t ∧ t < 256) (h0 : RI w w.heap.size A0 n0 l) (hc0 : n0 ≤ c0) (hm0 : n0 ≤ maxLen) (h1 : RB w w.heap.size A1 n1 b) (hc1 : n1 ≤ c1) (hm1 : n1 ≤ maxLen) :
    Calls Try.prog 6 #[.int .u8 t, .slice A0 n0 c0, .slice A1 n1 c1] w fun e w' => e = .returned (.bool true) ∧ Below w.heap.size w w' := by
  have HM := Lib.hid (And.intro hm0 hm1)
  unfold maxLen at hm0 hm1
  by_cases h60 : 60 < n0
  · have k0 : (60 : Int) < n0 := by omega
    go_enter Try.func6, Try.ntmps6
    go_wp2_with (go_at_call 15; refine (kAwake_any _).mono ?_; rintro e w' ⟨rfl, hbb⟩)
    go_ret
    exact ⟨rfl, hbb⟩
  have k0 : ¬ (60 : Int) < n0 := by omega
  by_cases h100 : 100 < n1
  · have k1 : (100 : Int) < n1 := by omega
    go_enter Try.func6, Try.ntmps6
    go_wp2_with (go_at_call 15; refine (kAwake_any _).mono ?_; rintro e w' ⟨rfl, hbb⟩)
    go_ret
    exact ⟨rfl, hbb⟩
  have k1 : ¬ (100 : Int) < n1 := by omega
  have HU := Lib.hid (kSplit_any A1 n1 c1 _ b w h1 (Nat.le_refl _) hc1 HM.out.2)
  obtain ⟨r, hr⟩ : ∃ r, splitK b = r := ⟨_, rfl⟩
  rw [hr] at HU
  go_enter Try.func6, Try.ntmps6
  go_wp2_with fail
  refine HU.out.mono ?_
  rintro e w2 ⟨A2, k2, c2, rfl, hk2, hk2', hr2, hb2⟩
  have HV := Lib.hid (rSplit_any A1 n1 c1 _ b w2 (h1.below hb2) hb2.size hc1 HM.out.2)
  rw [hr] at HV
  go_wp2_with fail
  refine HV.out.mono ?_
  rintro e w3 ⟨A3, k3, c3, rfl, hk3, hk3', hr3, hb3⟩
  have hb3' := hb2.trans (hb3.mono hb2.size)
  have HP := Lib.hid (kKey_any t A0 n0 c0 _ l w3 ht (h0.below hb3') hb3'.size hc0 HM.out.1)
  go_wp2_with fail
  refine HP.out.mono ?_
  rintro e w4 ⟨v4, rfl, ho4⟩
  have hb4 := hb3'.trans (ho4.2.mono hb3'.size)
  have HQ := Lib.hid (rKey_any t A0 n0 c0 _ l w4 ht (h0.below hb4) hb4.size hc0 HM.out.1)
  go_wp2_with fail
  refine HQ.out.mono ?_
  rintro e w5 ⟨v5, rfl, ho5⟩
  have hb5 := hb4.trans (ho5.2.mono hb4.size)
  obtain ⟨A4, c4, rfl, hc4, hr4⟩ := ho4.read (tagL_bytes ht _)
  obtain ⟨A5, c5, rfl, hc5, hr5⟩ := ho5.read (tagL_bytes ht _)
  have HE := Lib.hid (Equal_any c4 c5 (hr4.below ho5.2) hr5)
  rw [decide_eq_true rfl] at HE
  go_wp2_with fail
  refine HE.out.mono ?_
  rintro e w6 ⟨rfl, rfl⟩
  have hr2' := hr2.below (hb3.trans ((ho4.2.trans (ho5.2.mono ho4.2.size)).mono hb3.size))
  have hr3' := hr3.below (ho4.2.trans (ho5.2.mono ho4.2.size))
  have HI := Lib.hid (EqualInts_any c2 c3 hr2' hr3' (by unfold maxLen; omega) (by unfold maxLen; omega) (Nat.le_trans hb3.size (Nat.le_trans ho4.2.size ho5.2.size)) (Nat.le_trans ho4.2.size ho5.2.size))
  rw [decide_eq_true (rfl : r.1 = r.1)] at HI
  have HB5 := Lib.hid hb5
  have ht1 : (r.2.1 == r.2.1) = true := by simp
  have ht2 : (r.2.2 == r.2.2) = true := by simp
  clear hb5 hr2 hr3 hr4 hr5 ho4 ho5 hb4 hb3' hb3 hb2 hr hr2' hr3'
  go_wp2_with fail
  refine HI.out.mono ?_
  rintro e w7 ⟨rfl, hb7⟩
  have HB7 := Lib.hid (HB5.out.trans (hb7.mono HB5.out.size))
  clear hb7
  go_wp2_with fail
  refine (kAwake_any _).mono ?_
  rintro e w8 ⟨rfl, hb8⟩
  have HB8 := Lib.hid (HB7.out.trans (hb8.mono HB7.out.size))
  clear hb8
  go_wp2
  go_ret
  exact ⟨rfl, HB8.out⟩

end Go.Proofs.Ytocejddighjieaa
