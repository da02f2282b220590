/-
  Contracts of code.Fund, Object, Class, Fixed, Print, number, Parse and of the plain ones: for every ints and text they answer what the document says; nothing that was there is written. Condition: the library's tables hold what its text lays in them, for what prints and reads.
-/
import Derived.Test.YtlamngpodomknaaDoorCodP
namespace Go.Proofs.YtlamngpodomknaaDoor
open Go.RowKit
set_option maxRecDepth 100000
set_option linter.unusedVariables false

set_option maxHeartbeats 400000 in
theorem fund_any (a : Int) (w : World) : Calls Tryd.prog 21 #[.int .i64 a] w fun e w' => e = .returned (.bool (fundB a)) ∧ w = w' := by
  unfold fundB
  by_cases h : 100 ≤ a
  · go_enter Tryd.func21, Tryd.ntmps21
    go_wp2
    go_ret
    simp; omega
  · go_enter Tryd.func21, Tryd.ntmps21
    go_wp2
    go_ret
    simp; omega
set_option maxHeartbeats 400000 in
theorem refFund_any (a : Int) (w : World) : Calls Tryd.prog 22 #[.int .i64 a] w fun e w' => e = .returned (.bool (fundB a)) ∧ w = w' := by
  unfold fundB
  by_cases h : 100 ≤ a
  · go_enter Tryd.func22, Tryd.ntmps22
    go_wp2
    go_ret
    simp; omega
  · go_enter Tryd.func22, Tryd.ntmps22
    go_wp2
    go_ret
    simp; omega
set_option maxHeartbeats 400000 in
theorem obj_any (a : Int) (w : World) : Calls Tryd.prog 23 #[.int .i64 a] w fun e w' => e = .returned (.bool (objB a)) ∧ w = w' := by
  unfold objB
  by_cases h : 1000 ≤ a
  · go_enter Tryd.func23, Tryd.ntmps23
    go_wp2
    go_ret
    simp; omega
  · go_enter Tryd.func23, Tryd.ntmps23
    go_wp2
    go_ret
    simp; omega
set_option maxHeartbeats 400000 in
theorem refObj_any (a : Int) (w : World) : Calls Tryd.prog 24 #[.int .i64 a] w fun e w' => e = .returned (.bool (objB a)) ∧ w = w' := by
  unfold objB
  by_cases h : 1000 ≤ a
  · go_enter Tryd.func24, Tryd.ntmps24
    go_wp2
    go_ret
    simp; omega
  · go_enter Tryd.func24, Tryd.ntmps24
    go_wp2
    go_ret
    simp; omega

/-- What kind of thing an object is. -/
def classZ (o : Int) : Int := if objB o = true then o / 1000 else 0
set_option maxHeartbeats 400000 in
theorem class_any (a : Int) (w : World) : Calls Tryd.prog 25 #[.int .i64 a] w fun e w' => e = .returned (.int .i64 (classZ a)) ∧ w = w' := by
  unfold classZ
  cases h : objB a
  · simp only [Bool.false_eq_true, if_false]
    go_enter Tryd.func25, Tryd.ntmps25
    go_wp2_with fail
    refine (obj_any _ _).mono ?_; rw [h]; rintro e w' ⟨rfl, rfl⟩
    go_wp2_with fail
    go_ret
    exact ⟨rfl, rfl⟩
  · have hk := (obj_iff a).1 h
    obtain ⟨n, rfl⟩ := Int.eq_ofNat_of_zero_le (show 0 ≤ a by omega)
    simp only [if_true]
    go_enter Tryd.func25, Tryd.ntmps25
    go_wp2_with fail
    refine (obj_any _ _).mono ?_; rw [h]; rintro e w' ⟨rfl, rfl⟩
    go_wp2_with fail
    go_ret
    exact ⟨rfl, rfl⟩
set_option maxHeartbeats 400000 in
theorem refClass_any (a : Int) (w : World) : Calls Tryd.prog 26 #[.int .i64 a] w fun e w' => e = .returned (.int .i64 (classZ a)) ∧ w = w' := by
  unfold classZ
  cases h : objB a
  · simp only [Bool.false_eq_true, if_false]
    go_enter Tryd.func26, Tryd.ntmps26
    go_wp2_with fail
    refine (refObj_any _ _).mono ?_; rw [h]; rintro e w' ⟨rfl, rfl⟩
    go_wp2_with fail
    go_ret
    exact ⟨rfl, rfl⟩
  · have hk := (obj_iff a).1 h
    obtain ⟨n, rfl⟩ := Int.eq_ofNat_of_zero_le (show 0 ≤ a by omega)
    simp only [if_true]
    go_enter Tryd.func26, Tryd.ntmps26
    go_wp2_with fail
    refine (refObj_any _ _).mono ?_; rw [h]; rintro e w' ⟨rfl, rfl⟩
    go_wp2_with fail
    go_ret
    exact ⟨rfl, rfl⟩

/-- Is an object always there? -/
def fixedB (o : Int) : Bool := o == 1010 || (o == 1900 || (o == 2900 || o == 3000))
set_option maxHeartbeats 400000 in
theorem fixed_any (a : Int) (w : World) : Calls Tryd.prog 27 #[.int .i64 a] w fun e w' => e = .returned (.bool (fixedB a)) ∧ w = w' := by
  unfold fixedB
  cases h1 : (a == 1010)
  · cases h2 : (a == 1900)
    · cases h3 : (a == 2900)
      · cases h4 : (a == 3000)
        · go_enter Tryd.func27, Tryd.ntmps27
          go_wp2
          go_ret
          exact ⟨rfl, rfl⟩
        · go_enter Tryd.func27, Tryd.ntmps27
          go_wp2
          go_ret
          exact ⟨rfl, rfl⟩
      · go_enter Tryd.func27, Tryd.ntmps27
        go_wp2
        go_ret
        exact ⟨rfl, rfl⟩
    · go_enter Tryd.func27, Tryd.ntmps27
      go_wp2
      go_ret
      exact ⟨rfl, rfl⟩
  · go_enter Tryd.func27, Tryd.ntmps27
    go_wp2
    go_ret
    exact ⟨rfl, rfl⟩
set_option maxHeartbeats 400000 in
theorem refFixed_any (a : Int) (w : World) : Calls Tryd.prog 28 #[.int .i64 a] w fun e w' => e = .returned (.bool (fixedB a)) ∧ w = w' := by
  unfold fixedB
  cases h1 : (a == 1010)
  · cases h2 : (a == 1900)
    · cases h3 : (a == 2900)
      · cases h4 : (a == 3000)
        · go_enter Tryd.func28, Tryd.ntmps28
          go_wp2
          go_ret
          exact ⟨rfl, rfl⟩
        · go_enter Tryd.func28, Tryd.ntmps28
          go_wp2
          go_ret
          exact ⟨rfl, rfl⟩
      · go_enter Tryd.func28, Tryd.ntmps28
        go_wp2
        go_ret
        exact ⟨rfl, rfl⟩
    · go_enter Tryd.func28, Tryd.ntmps28
      go_wp2
      go_ret
      exact ⟨rfl, rfl⟩
  · go_enter Tryd.func28, Tryd.ntmps28
    go_wp2
    go_ret
    exact ⟨rfl, rfl⟩

/-- A code, as a text. -/
def printS (f o : Int) : ByteArray := ⟨(printL f o).toArray⟩
theorem printS_no {f o : Int} (h : (fundB f && objB o) = false) : printS f o = ByteArray.empty := by
  unfold printS printL
  rw [h]
  rfl
theorem printS_is {f o : Int} (h : (fundB f && objB o) = true) : textS f ++ ⟨#[46]⟩ ++ textS o = printS f o := by
  unfold printS printL textS
  rw [if_pos h]
  apply ByteArray.ext
  simp
theorem textS_size {n : Int} (h : IsInt n) : (textS n).size ≤ 21 := by
  show (Lib.itoa n).toArray.size ≤ 21
  rw [List.size_toArray]
  exact Lib.itoa_length_le n h.1 h.2

set_option maxHeartbeats 800000 in
theorem print_any (f o : Int) (w : World) (ht : Pows w) : Calls Tryd.prog 29 #[.int .i64 f, .int .i64 o] w fun e w' => e = .returned (.string (printS f o)) ∧ Below w.heap.size w w' := by
  cases hf : fundB f
  · rw [printS_no (by rw [hf]; rfl)]
    go_enter Tryd.func29, Tryd.ntmps29
    go_wp2_with fail
    refine (fund_any _ _).mono ?_; rw [hf]; rintro e w' ⟨rfl, rfl⟩
    go_wp2_with fail
    go_ret
    exact ⟨rfl, Below.refl _ _⟩
  · cases ho : objB o
    · rw [printS_no (by rw [hf, ho]; rfl)]
      go_enter Tryd.func29, Tryd.ntmps29
      go_wp2_with fail
      refine (fund_any _ _).mono ?_; rw [hf]; rintro e w' ⟨rfl, rfl⟩
      go_wp2_with fail
      refine (obj_any _ _).mono ?_; rw [ho]; rintro e w' ⟨rfl, rfl⟩
      go_wp2_with fail
      go_ret
      exact ⟨rfl, Below.refl _ _⟩
    · have H := Lib.hid (printS_is (f := f) (o := o) (by rw [hf, ho]; rfl))
      have h1 := (fund_iff f).1 hf
      have h2 := (obj_iff o).1 ho
      have i1 : IsInt f := ⟨by omega, by omega⟩
      have i2 : IsInt o := ⟨by omega, by omega⟩
      have z1 := textS_size i1
      have z2 := textS_size i2
      have t1 := fun w h => text_any f i1 w h
      have t2 := fun w h => text_any o i2 w h
      generalize textS f = x at t1 z1 H
      generalize textS o = y at t2 z2 H
      clear h1 h2
      go_enter Tryd.func29, Tryd.ntmps29
      go_wp2_with fail
      refine (fund_any _ _).mono ?_; rw [hf]; rintro e w' ⟨rfl, rfl⟩
      go_wp2_with fail
      refine (obj_any _ _).mono ?_; rw [ho]; rintro e w' ⟨rfl, rfl⟩
      go_wp2_with fail
      refine (t1 _ ht).mono ?_
      rintro e w1 ⟨rfl, b1⟩
      go_wp2_with fail
      refine (t2 _ (ht.below b1)).mono ?_
      rintro e w2 ⟨rfl, b2⟩
      go_wp2_with fail
      go_ret
      rw [← H.out]
      exact ⟨rfl, b1.trans (b2.mono b1.size)⟩
set_option maxHeartbeats 800000 in
theorem refPrint_any (f o : Int) (w : World) : Calls Tryd.prog 30 #[.int .i64 f, .int .i64 o] w fun e w' => e = .returned (.string (printS f o)) ∧ w = w' := by
  cases hf : fundB f
  · rw [printS_no (by rw [hf]; rfl)]
    go_enter Tryd.func30, Tryd.ntmps30
    go_wp2_with fail
    refine (refFund_any _ _).mono ?_; rw [hf]; rintro e w' ⟨rfl, rfl⟩
    go_wp2_with fail
    go_ret
    exact ⟨rfl, rfl⟩
  · cases ho : objB o
    · rw [printS_no (by rw [hf, ho]; rfl)]
      go_enter Tryd.func30, Tryd.ntmps30
      go_wp2_with fail
      refine (refFund_any _ _).mono ?_; rw [hf]; rintro e w' ⟨rfl, rfl⟩
      go_wp2_with fail
      refine (refObj_any _ _).mono ?_; rw [ho]; rintro e w' ⟨rfl, rfl⟩
      go_wp2_with fail
      go_ret
      exact ⟨rfl, rfl⟩
    · have H := Lib.hid (printS_is (f := f) (o := o) (by rw [hf, ho]; rfl))
      have h1 := (fund_iff f).1 hf
      have h2 := (obj_iff o).1 ho
      have i1 : IsInt f := ⟨by omega, by omega⟩
      have i2 : IsInt o := ⟨by omega, by omega⟩
      have z1 := textS_size i1
      have z2 := textS_size i2
      have t1 := fun w => refText_any f i1 w
      have t2 := fun w => refText_any o i2 w
      generalize textS f = x at t1 z1 H
      generalize textS o = y at t2 z2 H
      clear h1 h2
      go_enter Tryd.func30, Tryd.ntmps30
      go_wp2_with fail
      refine (refFund_any _ _).mono ?_; rw [hf]; rintro e w' ⟨rfl, rfl⟩
      go_wp2_with fail
      refine (refObj_any _ _).mono ?_; rw [ho]; rintro e w' ⟨rfl, rfl⟩
      go_wp2_with fail
      refine (t1 _).mono ?_
      rintro e w1 ⟨rfl, rfl⟩
      go_wp2_with fail
      refine (t2 _).mono ?_
      rintro e w2 ⟨rfl, rfl⟩
      go_wp2_with fail
      go_ret
      rw [← H.out]
      exact ⟨rfl, rfl⟩
end Go.Proofs.YtlamngpodomknaaDoor
