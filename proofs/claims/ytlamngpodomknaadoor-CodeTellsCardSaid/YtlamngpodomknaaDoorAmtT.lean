/-
  Contracts of amount.Text, by the library's contract of strconv.Itoa, and of the plain digits and Text: for every int they answer its digits; nothing that was there is written. Condition: the library's table of powers of ten holds what its text lays in it.
-/
import Derived.Test.YtlamngpodomknaaDoorAmtA
import Derived.Test.YtlamngpodomknaaDoorStrc
import Derived.Lib.Strings
import Derived.Lib.Walk
import Derived.Lib.Slices
import Derived.Laws.Strings3
import Derived.Lib.ItoaLen
import Derived.Lib.AppendIntMem
namespace Go.Proofs.YtlamngpodomknaaDoor
open Go.RowKit
set_option maxRecDepth 100000
set_option linter.unusedVariables false

/-- The library's table holds what its text lays in it. -/
def Pows (w : World) : Prop := Lib.TabIs Tryd.prog w "internal/strconv.uint64pow10" .u64 Lib.pow10Tab

/-- The digits of a number, as a text. -/
def decS (n : Nat) : ByteArray := ⟨(Lib.decDigits n).toArray⟩
/-- An int's digits, as a text. -/
def textS (n : Int) : ByteArray := ⟨(Lib.itoa n).toArray⟩

theorem grow_bel (w : World) (k : Nat) (os : Array Obj) : Below w.heap.size w (Sort.grow (w.drewN k) os) := Lib.below_grow _ w (Nat.le_refl _) k os

set_option maxHeartbeats 400000 in
theorem text_any (n : Int) (hn : IsInt n) (w : World) (ht : Pows w) : Calls Tryd.prog 16 #[.int .i64 n] w fun e w' => e = .returned (.string (textS n)) ∧ Below w.heap.size w w' := by
  go_enter Tryd.func16, Tryd.ntmps16
  go_wp2_with fail
  refine (Any.strconv_Itoa Tryd.laysItoa n hn.1 hn.2 _ ht).mono ?_
  rintro e w' ⟨rfl, k, os, rfl⟩
  go_wp2_with fail
  go_ret
  exact ⟨rfl, grow_bel _ _ _⟩

theorem dec_one_fin : ∀ i : Fin 10, (⟨#[48, 49, 50, 51, 52, 53, 54, 55, 56, 57]⟩ : ByteArray).extract i.val (i.val + 1) = ⟨#[UInt8.ofNat (48 + i.val)]⟩ := by decide +kernel
theorem dec_one (n : Nat) : (⟨#[48, 49, 50, 51, 52, 53, 54, 55, 56, 57]⟩ : ByteArray).extract (n % 10) (n % 10 + 1) = decS (n % 10) := by
  rw [dec_one_fin ⟨n % 10, Nat.mod_lt _ (by decide)⟩]
  unfold decS
  rw [Lib.decDigits_one (Nat.mod_lt _ (by decide))]
theorem decS_size {n : Nat} (h : n < 18446744073709551616) : (decS n).size ≤ 20 := by
  show (Lib.decDigits n).toArray.size ≤ 20
  rw [List.size_toArray, Lib.decDigits_length]
  exact Lib.nDigits_le20 n h
theorem decS_small {n : Nat} (h : n < 10) : decS (n % 10) = decS n := by rw [Nat.mod_eq_of_lt h]
theorem decS_big {n : Nat} (h : ¬ n < 10) : decS (n / 10) ++ decS (n % 10) = decS n := by
  unfold decS
  rw [Lib.decDigits_one (Nat.mod_lt n (by decide))]
  rw [show Lib.decDigits n = Lib.decDigits (n / 10) ++ [UInt8.ofNat (48 + n % 10)] from by conv => lhs; rw [Lib.decDigits]; rw [dif_neg h]]
  apply ByteArray.ext
  simp

set_option maxHeartbeats 400000 in
theorem digits_any (n : Nat) : n < 9223372036854775808 → ∀ w : World, Calls Tryd.prog 32 #[.int .i64 n] w fun e w' => e = .returned (.string (decS n)) ∧ w = w' := by
  induction n using Nat.strongRecOn with
  | _ n ih =>
    intro hn w
    have k1 := dec_one n
    generalize hd : decS (n % 10) = d at k1
    by_cases h : n < 10
    · have H := Lib.hid ((decS_small h).symm.trans hd)
      clear hd ih
      go_enter Tryd.func32, Tryd.ntmps32
      go_wp2
      go_ret
      rw [H.out, k1]
      exact ⟨rfl, rfl⟩
    · have hI := ih (n / 10) (by omega) (by omega)
      rw [show ((n / 10 : Nat) : Int) = (n : Int) / 10 by omega] at hI
      have H := Lib.hid (decS_big h)
      have z1 := decS_size (n := n / 10) (by omega)
      have z2 := decS_size (n := n % 10) (by omega)
      rw [hd] at z2
      generalize decS (n / 10) = q at hI H z1
      go_enter Tryd.func32, Tryd.ntmps32
      go_wp2_with fail
      refine (hI _).mono ?_
      rintro e w' ⟨rfl, rfl⟩
      go_wp2_with fail
      go_ret
      rw [← H.out, hd]
      exact ⟨rfl, rfl⟩

theorem text_pos {n : Nat} : textS n = decS n := by
  unfold textS decS Lib.itoa
  rw [if_neg (by omega)]
  rfl
theorem text_neg {n : Nat} (h : 0 < n) : textS (-(n : Int)) = ⟨#[45]⟩ ++ decS n := by
  unfold textS decS Lib.itoa
  rw [if_pos (by omega), Int.natAbs_neg, Int.natAbs_natCast]
  apply ByteArray.ext
  simp

set_option maxHeartbeats 800000 in
theorem refText_any (n : Int) (hn : IsInt n) (w : World) : Calls Tryd.prog 17 #[.int .i64 n] w fun e w' => e = .returned (.string (textS n)) ∧ w = w' := by
  by_cases h : 0 ≤ n
  · obtain ⟨m, rfl⟩ := Int.eq_ofNat_of_zero_le h
    have h1 : m < 9223372036854775808 := by have := hn.2; omega
    rw [text_pos]
    clear hn
    go_enter Tryd.func17, Tryd.ntmps17
    go_wp2_with fail
    refine (digits_any _ h1 _).mono ?_
    rintro e w' ⟨rfl, rfl⟩
    go_wp2_with fail
    go_ret
    exact ⟨rfl, rfl⟩
  · obtain ⟨m, rfl⟩ : ∃ m : Nat, n = -(m : Int) := ⟨n.natAbs, by omega⟩
    have h0 : 0 < m := by omega
    have h1 : m ≤ 9223372036854775808 := by have := hn.1; omega
    rw [text_neg h0]
    clear hn h
    have z0 := decS_size (n := m) (by omega)
    by_cases h2 : m < 10
    · have d1 : decide ((0 : Int) ≤ -(m : Int)) = false := by simp; omega
      have d2 : decide ((-10 : Int) < -(m : Int)) = true := by simp; omega
      have k1 : IntKind.i64.wrap (-(-(m : Int))) = (m : Int) := by rw [IntKind.wrap_i64]; omega
      go_enter Tryd.func17, Tryd.ntmps17
      go_wp2_with fail
      refine (digits_any _ (by omega) _).mono ?_
      rintro e w' ⟨rfl, rfl⟩
      go_wp2_with fail
      go_ret
      exact ⟨rfl, rfl⟩
    · have d1 : decide ((0 : Int) ≤ -(m : Int)) = false := by simp; omega
      have d2 : decide ((-10 : Int) < -(m : Int)) = false := by simp; omega
      have H := Lib.hid (decS_big h2)
      have hI := fun w => digits_any (m / 10) (by omega) w
      have hJ := fun w => digits_any (m % 10) (by omega) w
      rw [show ((m / 10 : Nat) : Int) = (m : Int) / 10 by omega] at hI
      rw [show ((m % 10 : Nat) : Int) = (m : Int) % 10 by omega] at hJ
      have z1 := decS_size (n := m / 10) (by omega)
      have z2 := decS_size (n := m % 10) (by omega)
      generalize decS (m / 10) = q at hI H z1
      generalize decS (m % 10) = d at hJ H z2
      go_enter Tryd.func17, Tryd.ntmps17
      go_wp2_with fail
      refine (hI _).mono ?_
      rintro e w' ⟨rfl, rfl⟩
      go_wp2_with fail
      refine (hJ _).mono ?_
      rintro e w' ⟨rfl, rfl⟩
      go_wp2_with fail
      go_ret
      rw [← H.out]
      refine ⟨?_, rfl⟩
      show Ending.returned (Value.string _) = _
      rw [ByteArray.append_assoc]

end Go.Proofs.YtlamngpodomknaaDoor
