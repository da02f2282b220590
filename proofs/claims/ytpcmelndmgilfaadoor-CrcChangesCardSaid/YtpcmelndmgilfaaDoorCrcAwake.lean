/-
  Contract of the statement package's own check over known sums: it answers true; it makes memory, and writes nothing that was there. Condition: the table that crc.Step reads holds what the program's text lays in it.
-/
import Derived.Test.YtpcmelndmgilfaaDoorCrcW
import Derived.Lib.SlBytesConst
namespace Go.Proofs.YtpcmelndmgilfaaDoor
open Go.RowKit
set_option linter.unusedVariables false

theorem known_step : stepB 0 128 = 3988292384 := by decide
theorem known_sum : sumOf [49, 50, 51, 52, 53, 54, 55, 56, 57] = 3421780262 := by decide +kernel
theorem known_nil : sumOf [] = 0 := by decide

theorem step_known (w : World) (ht : Tab w) : Calls Tryd.prog 9 #[.int .u32 0, .int .u8 128] w fun e w' => e = .returned (.int .u32 3988292384) ∧ w = w' := by
  have h := Step_any 0 128 (by decide) (by decide) w ht
  rw [known_step] at h
  exact h

theorem sum_known (A : Option Addr) (n c B : Nat) (w : World) (hr : RB w B A n [49, 50, 51, 52, 53, 54, 55, 56, 57]) (hm : n ≤ maxLen) (ht : Tab w) : Calls Tryd.prog 7 #[.slice A n c] w fun e w' => e = .returned (.int .u32 3421780262) ∧ w = w' := by
  have h := Sum_any A n c B _ w hr hm ht
  rw [known_sum] at h
  exact h
theorem sum_nil (w : World) (ht : Tab w) : Calls Tryd.prog 7 #[.slice none 0 0] w fun e w' => e = .returned (.int .u32 0) ∧ w = w' := by
  have h := Sum_any none 0 0 0 [] w RB.nil_ (Nat.zero_le _) ht
  rw [known_nil] at h
  exact h

set_option maxHeartbeats 800000 in
theorem awake_any (w : World) (ht : Tab w) (hg : 0 < w.heap.size) : Calls Tryd.prog 6 #[] w fun e w' => e = .returned (.bool true) ∧ Below w.heap.size w w' := by
  have kc := fun (w : World) (C : Array Value) (n c : Nat) => Lib.run_convert_bytes_const (P := Tryd.prog) w 22 5 C n c Tryd.underlying22 Tryd.underlying5
  go_enter Tryd.func6, Tryd.ntmps6
  go_wp2_with fail
  refine (step_known _ ht).mono ?_
  rintro e w' ⟨rfl, rfl⟩
  go_wp2_with fail
  have hbel : Below w.heap.size w (w.alloc (.cells #[.int .u8 49, .int .u8 50, .int .u8 51, .int .u8 52, .int .u8 53, .int .u8 54, .int .u8 55, .int .u8 56, .int .u8 57] 5 (9, 10))) := (Below.refl _ _).alloc (Nat.le_refl _) _
  have ht2 := ht.below hbel hg
  have hm := RB.mark w 5 [49, 50, 51, 52, 53, 54, 55, 56, 57] _ (9, 10) rfl (by unfold AllBytes; decide)
  refine (sum_known _ _ _ _ _ hm (by decide) ht2).mono ?_
  rintro e w' ⟨rfl, rfl⟩
  clear hm kc
  have HT := Lib.hid ht2
  have HB := Lib.hid hbel
  clear ht2 hbel ht
  go_wp2_with fail
  refine (sum_nil _ HT.out).mono ?_
  rintro e w' ⟨rfl, rfl⟩
  go_wp2
  go_ret
  exact ⟨rfl, HB.out⟩

end Go.Proofs.YtpcmelndmgilfaaDoor
