/-
  Contract of the statement package's own check over known amounts: it answers true; nothing that was there is written. Condition: the library's table of powers of ten holds what its text lays in it.
-/
import Derived.Test.YtlamngpodomknaaDoorAmtB
import Derived.Test.YtlamngpodomknaaDoorAmtT
namespace Go.Proofs.YtlamngpodomknaaDoor
open Go.RowKit
set_option maxRecDepth 100000
set_option linter.unusedVariables false

theorem Pows.below {w w' : World} (h : Pows w) (hb : Below w.heap.size w w') : Pows w' := Lib.tabBelow_of_tabIs h w' hb

theorem text_known : textS (-12) = ⟨#[45, 49, 50]⟩ := by
  unfold textS Lib.itoa
  rw [if_pos (by decide), show (-12 : Int).natAbs = 12 from rfl, Lib.decDigits_two (by decide) (by decide)]
  rfl

set_option maxHeartbeats 800000 in
theorem awake15_any (w : World) (ht : Pows w) : Calls Tryd.prog 7 #[] w fun e w' => e = .returned (.bool true) ∧ Below w.heap.size w w' := by
  have b1 : Below w.heap.size w (w.alloc (.cells #[.int .i64 1, .int .i64 2, .int .i64 3] 3)) := (Below.refl _ _).alloc (Nat.le_refl _) _
  have t1 := ht.below b1
  have hs : RI (w.alloc (.cells #[.int .i64 1, .int .i64 2, .int .i64 3] 3)) (w.heap.size + 1) (some ⟨w.heap.size, 0, none⟩) 3 [1, 2, 3] := by
    refine ⟨rfl, by decide, fun _ => ⟨w.heap.size, 0, rfl, by omega, fun j hj => ?_⟩⟩
    rw [Nat.zero_add, World.cell?_alloc_new]
    rcases (show j = 0 ∨ j = 1 ∨ j = 2 by omega) with rfl | rfl | rfl <;> rfl
  have hS := fun c => sum_any c hs (by decide)
  rw [show sumR 0 [1, 2, 3] = (6, 0) by decide] at hS
  have hT : ∀ w, Pows w → _ := fun w h => text_any (-12) ⟨by decide, by decide⟩ w h
  rw [text_known] at hT
  have hA := fun w => add_any 4611686018427387904 1 w
  rw [show addR 4611686018427387904 1 = (0, 9) by decide] at hA
  have hR := fun w => right_any 9007199254740992 w
  rw [show rightB 9007199254740992 = true by decide] at hR
  have T1 := Lib.hid t1
  have B1 := Lib.hid b1
  clear t1 b1 hs ht
  go_enter Tryd.func7, Tryd.ntmps7
  go_wp2_with fail
  refine (hS _).mono ?_
  rintro e w' ⟨rfl, rfl⟩
  clear hS
  go_wp2_with fail
  refine (hA _).mono ?_
  rintro e w' ⟨rfl, rfl⟩
  go_wp2_with fail
  refine (hR _).mono ?_
  rintro e w' ⟨rfl, rfl⟩
  go_wp2_with fail
  refine (hT _ T1.out).mono ?_
  rintro e w' ⟨rfl, hb⟩
  go_wp2_with fail
  go_ret
  exact ⟨rfl, B1.out.trans (hb.mono B1.out.size)⟩
end Go.Proofs.YtlamngpodomknaaDoor
