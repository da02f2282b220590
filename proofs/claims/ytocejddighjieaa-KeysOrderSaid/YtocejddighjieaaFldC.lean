/-
  The record laws' own check, and the walks of FieldPacks and FieldBack: each returns true. No condition beyond those that the statements themselves say.
-/
import Derived.Test.YtocejddighjieaaFldB
import Derived.Test.YtocejddighjieaaEqIntsB
import Derived.Test.YtocejddighjieaaEqual
namespace Go.Proofs.Ytocejddighjieaa
open Go.RowKit
set_option maxRecDepth 100000
set_option linter.unusedVariables false

theorem ints_lit (w : World) (e : TypeId) (l : List Int) (cs : Array Value) (hcs : cs = (l.map (Value.int .i64)).toArray) (h : ∀ x ∈ l, -9223372036854775808 ≤ x ∧ x ≤ 9223372036854775807) : RI (w.alloc (.cells cs e)) (w.heap.size + 1) (some ⟨w.heap.size, 0, none⟩) l.length l := by
  subst hcs
  refine ⟨rfl, h, fun _ => ⟨w.heap.size, 0, rfl, Nat.lt_succ_self _, fun j hj => ?_⟩⟩
  rw [Nat.zero_add, cell_of_row (w.alloc (.cells _ e)) w.heap.size j _ e (0, 0) (heap_alloc_new w _)]
  simp [List.getElem?_eq_getElem hj]

theorem unpack_packed {l : List Int} (h : ∀ x ∈ l, -9223372036854775808 ≤ x ∧ x ≤ 9223372036854775807) (hl : l.length ≤ 15) : unpackR (packN 8 (l.take 15)) (l.length : Int) = (l, 0) := by
  rw [List.take_of_length_le hl]
  unfold unpackR
  rw [if_pos ⟨by omega, by omega⟩, if_pos (by rw [packN_length]; omega), Int.toNat_natCast, unpack_pack 8 l (fun x hx => num8 (h x hx))]

theorem two_ints : ∀ x ∈ ([1, -2] : List Int), -9223372036854775808 ≤ x ∧ x ≤ 9223372036854775807 := by decide

set_option maxHeartbeats 1600000 in
theorem fAwake_any (w : World) : Calls Try.prog 8 #[] w fun e w' => e = .returned (.bool true) ∧ Below w.heap.size w w' := by
  have hb1 : Below w.heap.size w (w.alloc (.cells #[.int .i64 1, .int .i64 (-2)] 3)) := (Below.refl _ _).alloc (Nat.le_refl _) _
  have HP := Lib.hid (fPack_any _ 2 2 _ [1, -2] _ (ints_lit w 3 [1, -2] #[.int .i64 1, .int .i64 (-2)] rfl two_ints) (by simp) (Nat.le_refl _) (by unfold maxLen; omega))
  go_enter Try.func8, Try.ntmps8
  go_wp2_with fail
  refine HP.out.mono ?_
  rintro e w2 ⟨v2, rfl, ho⟩
  have hb2 := hb1.trans (ho.2.mono hb1.size)
  obtain ⟨A2, c2, rfl, hc2, hr2⟩ := ho.read (packN_bytes _ _)
  have hl16 : (packN 8 (List.take 15 [1, -2])).length = 16 := by rw [packN_length]; rfl
  rw [hl16] at hr2 hc2 ⊢
  have HU := Lib.hid (fUnpack_any A2 16 c2 _ _ 2 w2 hr2 (Nat.le_refl _) hc2 (by unfold maxLen; omega) (by omega) (by omega))
  rw [show unpackR (packN 8 (List.take 15 [1, -2])) 2 = ([1, -2], 0) from unpack_packed (l := [1, -2]) two_ints (by decide)] at HU
  clear ho hr2 hl16
  go_wp2_with fail
  refine HU.out.mono ?_
  rintro e w3 ⟨A3, k3, c3, rfl, hk3, hk3', hr3, hb3⟩
  have hb3' := hb2.trans (hb3.mono hb2.size)
  obtain rfl : k3 = 2 := hr3.len.symm
  have hb4 : Below w3.heap.size w3 (w3.alloc (.cells #[.int .i64 1, .int .i64 (-2)] 3)) := (Below.refl _ _).alloc (Nat.le_refl _) _
  have HE := Lib.hid (EqualInts_any c3 2 (hr3.below hb4) (ints_lit w3 3 [1, -2] #[.int .i64 1, .int .i64 (-2)] rfl two_ints) (by unfold maxLen; omega) (by decide) hb4.size (by simp))
  have HB := Lib.hid (And.intro hb3' hb4)
  rw [show decide (([1, -2] : List Int) = [1, -2]) = true from rfl] at HE
  clear hr3 hb3 hb4 hb3' hb2 hb1
  go_wp2_with fail
  refine HE.out.mono ?_
  rintro e w5 ⟨rfl, hb5⟩
  have HB5 := Lib.hid hb5
  clear hb5
  go_wp2
  go_ret
  refine ⟨rfl, HB.out.1.trans ?_⟩
  exact (HB.out.2.trans (HB5.out.mono HB.out.2.size)).mono HB.out.1.size

set_option maxHeartbeats 1600000 in
theorem fieldPacks_walk (A0 : Option Addr) (n0 c0 : Nat) (l : List Int) (A1 : Option Addr) (n1 c1 : Nat) (b : List Int) (many : Int) (w : World) (h0 : RI w w.heap.size A0 n0 l) (hc0 : n0 ≤ c0) (hm0 : n0 ≤ maxLen) (h1 : RB w w.heap.size A1 n1 b) (hc1 : n1 ≤ c1) (hm1 : n1 ≤ maxLen) (hml : -9223372036854775808 ≤ many) (hmh : many ≤ 9223372036854775807) :
    Calls Try.prog 3 #[.slice A0 n0 c0, .slice A1 n1 c1, .int .i64 many] w fun e w' => e = .returned (.bool true) ∧ Below w.heap.size w w' := by
  have HM := Lib.hid (And.intro hm0 hm1)
  unfold maxLen at hm0 hm1
  by_cases hbig : 60 < n0 ∨ 600 < n1
  · rcases hbig with hb | hb
    · have k0 : (60 : Int) < n0 := by omega
      go_enter Try.func3, Try.ntmps3
      go_wp2_with (go_at_call 8; refine (fAwake_any _).mono ?_; rintro e w' ⟨rfl, hbb⟩)
      go_ret
      exact ⟨rfl, hbb⟩
    · by_cases h60 : 60 < n0
      · have k0 : (60 : Int) < n0 := by omega
        go_enter Try.func3, Try.ntmps3
        go_wp2_with (go_at_call 8; refine (fAwake_any _).mono ?_; rintro e w' ⟨rfl, hbb⟩)
        go_ret
        exact ⟨rfl, hbb⟩
      · have k0 : ¬ (60 : Int) < n0 := by omega
        have k1 : (600 : Int) < n1 := by omega
        go_enter Try.func3, Try.ntmps3
        go_wp2_with (go_at_call 8; refine (fAwake_any _).mono ?_; rintro e w' ⟨rfl, hbb⟩)
        go_ret
        exact ⟨rfl, hbb⟩
  · have k0 : ¬ (60 : Int) < n0 := by omega
    have k1 : ¬ (600 : Int) < n1 := by omega
    have HU := Lib.hid (fUnpack_any A1 n1 c1 _ b many w h1 (Nat.le_refl _) hc1 HM.out.2 hml hmh)
    obtain ⟨r, hr⟩ : ∃ r, unpackR b many = r := ⟨_, rfl⟩
    rw [hr] at HU
    go_enter Try.func3, Try.ntmps3
    go_wp2_with fail
    refine HU.out.mono ?_
    rintro e w2 ⟨A2, k2, c2, rfl, hk2, hk2', hr2, hb2⟩
    have HV := Lib.hid (rUnpack_any A1 n1 c1 _ b many w2 (h1.below hb2) hb2.size hc1 HM.out.2 hml hmh)
    rw [hr] at HV
    go_wp2_with fail
    refine HV.out.mono ?_
    rintro e w3 ⟨A3, k3, c3, rfl, hk3, hk3', hr3, hb3⟩
    have hb3' := hb2.trans (hb3.mono hb2.size)
    have HP := Lib.hid (fPack_any A0 n0 c0 _ l w3 (h0.below hb3') hb3'.size hc0 HM.out.1)
    go_wp2_with fail
    refine HP.out.mono ?_
    rintro e w4 ⟨v4, rfl, ho4⟩
    have hb4 := hb3'.trans (ho4.2.mono hb3'.size)
    have HQ := Lib.hid (rPack_any A0 n0 c0 _ l w4 (h0.below hb4) hb4.size hc0 HM.out.1)
    go_wp2_with fail
    refine HQ.out.mono ?_
    rintro e w5 ⟨v5, rfl, ho5⟩
    have hb5 := hb4.trans (ho5.2.mono hb4.size)
    obtain ⟨A4, c4, rfl, hc4, hr4⟩ := ho4.read (packN_bytes _ _)
    obtain ⟨A5, c5, rfl, hc5, hr5⟩ := ho5.read (packN_bytes _ _)
    have HE := Lib.hid (Equal_any c4 c5 (hr4.below ho5.2) hr5)
    rw [decide_eq_true (rfl : packN 8 (l.take 15) = packN 8 (l.take 15))] at HE
    go_wp2_with fail
    refine HE.out.mono ?_
    rintro e w6 ⟨rfl, rfl⟩
    have hr2' := hr2.below (hb3.trans ((ho4.2.trans (ho5.2.mono ho4.2.size)).mono hb3.size))
    have hr3' := hr3.below (ho4.2.trans (ho5.2.mono ho4.2.size))
    have HI := Lib.hid (EqualInts_any c2 c3 hr2' hr3' (by unfold maxLen; omega) (by unfold maxLen; omega) (Nat.le_trans hb3.size (Nat.le_trans ho4.2.size ho5.2.size)) (Nat.le_trans ho4.2.size ho5.2.size))
    rw [decide_eq_true (rfl : r.1 = r.1)] at HI
    have HB5 := Lib.hid hb5
    clear hb5 hr2 hr3 hr4 hr5 ho4 ho5 hb4 hb3' hb3 hb2 hr hr2' hr3'
    go_wp2_with fail
    refine HI.out.mono ?_
    rintro e w7 ⟨rfl, hb7⟩
    have HB7 := Lib.hid (HB5.out.trans (hb7.mono HB5.out.size))
    clear hb7
    have ht : (r.2 == r.2) = true := by simp
    go_wp2_with fail
    refine (fAwake_any _).mono ?_
    rintro e w8 ⟨rfl, hb8⟩
    have HB8 := Lib.hid (HB7.out.trans (hb8.mono HB7.out.size))
    clear hb8
    go_wp2
    go_ret
    exact ⟨rfl, HB8.out⟩

set_option maxHeartbeats 1600000 in
theorem fieldBack_walk (A0 : Option Addr) (n0 c0 : Nat) (l : List Int) (w : World) (h0 : RI w w.heap.size A0 n0 l) (hc0 : n0 ≤ c0) (hm0 : n0 ≤ maxLen) :
    Calls Try.prog 5 #[.slice A0 n0 c0] w fun e w' => e = .returned (.bool true) ∧ Below w.heap.size w w' := by
  have HM := Lib.hid hm0
  unfold maxLen at hm0
  by_cases hbig : 15 < n0
  · have k0 : (15 : Int) < n0 := by omega
    go_enter Try.func5, Try.ntmps5
    go_wp2_with (go_at_call 8; refine (fAwake_any _).mono ?_; rintro e w' ⟨rfl, hbb⟩)
    go_ret
    exact ⟨rfl, hbb⟩
  · have k0 : ¬ (15 : Int) < n0 := by omega
    have HL := Lib.hid h0.len
    have HP := Lib.hid (fPack_any A0 n0 c0 _ l w h0 (Nat.le_refl _) hc0 HM.out)
    go_enter Try.func5, Try.ntmps5
    go_wp2_with fail
    refine HP.out.mono ?_
    rintro e w2 ⟨v2, rfl, ho⟩
    have hb2 := ho.2
    obtain ⟨A2, c2, rfl, hc2, hr2⟩ := ho.read (packN_bytes _ _)
    have hl8 : (packN 8 (List.take 15 l)).length ≤ 120 := by rw [packN_length, List.length_take]; omega
    have HU := Lib.hid (fUnpack_any A2 _ c2 _ _ (n0 : Int) w2 hr2 (Nat.le_refl _) hc2 (by unfold maxLen; omega) (by omega) (by omega))
    rw [show unpackR (packN 8 (List.take 15 l)) (n0 : Int) = (l, 0) from by rw [← HL.out]; exact unpack_packed (l := l) h0.2.1 (by have := HL.out; omega)] at HU
    clear ho hr2
    go_wp2_with fail
    refine HU.out.mono ?_
    rintro e w3 ⟨A3, k3, c3, rfl, hk3, hk3', hr3, hb3⟩
    have hb3' := hb2.trans (hb3.mono hb2.size)
    have HE := Lib.hid (EqualInts_any c0 c3 (h0.below hb3') hr3 (by unfold maxLen; omega) (by unfold maxLen; omega) hb3'.size (Nat.le_refl _))
    rw [decide_eq_true (rfl : l = l)] at HE
    have HB := Lib.hid hb3'
    clear hr3 hb3 hb3' hb2
    go_wp2_with fail
    refine HE.out.mono ?_
    rintro e w7 ⟨rfl, hb7⟩
    have HB7 := Lib.hid (HB.out.trans (hb7.mono HB.out.size))
    clear hb7
    go_wp2_with fail
    refine (fAwake_any _).mono ?_
    rintro e w8 ⟨rfl, hb8⟩
    have HB8 := Lib.hid (HB7.out.trans (hb8.mono HB7.out.size))
    clear hb8
    go_wp2
    go_ret
    exact ⟨rfl, HB8.out⟩

end Go.Proofs.Ytocejddighjieaa
