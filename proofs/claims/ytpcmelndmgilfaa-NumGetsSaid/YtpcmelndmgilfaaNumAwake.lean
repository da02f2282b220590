/-
  Contract of the statement package's own check over known numbers: it answers true, whatever the memory; it makes memory, and writes nothing that was there. No condition.
-/
import Derived.Test.YtpcmelndmgilfaaGet
import Derived.Test.YtpcmelndmgilfaaRefPut
import Derived.Test.YtpcmelndmgilfaaNumBackP
namespace Go.Proofs.Ytpcmelndmgilfaa
open Go.RowKit
set_option linter.unusedVariables false

theorem putR_len9 : (putR [9] (-2) 8).length = 9 := by decide

set_option maxHeartbeats 1600000 in
theorem awake_any (w : World) : Calls Try.prog 6 #[] w fun e w' => e = .returned (.bool true) ∧ Below w.heap.size w w' := by
  have hb0 : RB (w.alloc (.cells #[.int .u8 9] 5)) (w.heap.size + 1) (some ⟨w.heap.size, 0, none⟩) 1 [9] := RB.one w 5 (by decide)
  go_enter Try.func6, Try.ntmps6
  go_wp2_with fail
  refine (Put_any _ 1 1 _ [9] (-2) 8 _ hb0 (by simp) (by decide) (by decide) (by decide) (by decide)).mono ?_
  rintro e w1 ⟨v1, rfl, hf1, hb1⟩
  obtain ⟨A1, rfl, hr1⟩ := hf1.read (putR_bytes hb0.bytes _ _)
  go_wp2_with fail
  have hg := get_put (l := [9]) (x := -2) (s := 8) (by decide) (by decide) (by decide)
  refine (Get_any _ _ _ _ _ 1 8 _ hr1 (Nat.le_refl _) (by simp [putR_len9]; decide)).mono ?_
  rw [show ((1 : Int)) = (([9] : List Int).length : Int) from rfl, hg]
  rintro e w2 ⟨rfl, rfl⟩
  clear hg hr1 hf1
  go_wp2_with fail
  refine (Put_any none 0 0 0 [] 258 2 _ RB.nil_ (Nat.zero_le _) (by decide) (by decide) (by decide) (by decide)).mono ?_
  rintro e w2 ⟨v2, rfl, hf2, hb2⟩
  obtain ⟨A2, rfl, hr2⟩ := hf2.read (putR_bytes AllBytes.nil _ _)
  go_wp2_with fail
  have hl := RB.lit w2 5 [1, 2] #[.int .u8 1, .int .u8 2] rfl (by unfold AllBytes; decide)
  refine (Equal_any _ _ (hr2.alloc (Nat.le_refl _) _) hl).mono ?_
  rw [show decide (putR [] 258 2 = [1, 2]) = true from rfl]
  rintro e w3 ⟨rfl, rfl⟩
  have hbel : Below w.heap.size w (w2.alloc (.cells #[.int .u8 1, .int .u8 2] 5)) := by
    have h1 := ((Below.refl w.heap.size w).alloc (Nat.le_refl _) (.cells #[.int .u8 9] 5)).trans (hb1.mono (by simp))
    exact (h1.trans (hb2.mono h1.size)).alloc ((h1.trans (hb2.mono h1.size)).size) _
  clear hl hr2 hf2
  go_wp2_with (go_at_call 9; refine (Right_no 256 1 _ (by decide)).mono ?_; rintro e w' ⟨rfl, rfl⟩)
  go_ret
  exact ⟨rfl, hbel⟩

end Go.Proofs.Ytpcmelndmgilfaa
