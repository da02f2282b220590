/-
  The statement package's own check over any layout that answers as it is to. No condition.
-/
import Derived.Test.YtkmlmbakgmafjaaLayApi
namespace Go.Proofs.Ytkmlmbakgmafjaa
open Go.RowKit
set_option maxRecDepth 100000
set_option linter.unusedVariables false

set_option maxHeartbeats 800000 in
theorem layAwake_any (api : LayApi) (w : World) : Calls Try.prog 11 #[] w fun e w' => e = .returned (.bool true) ∧ w = w' := by
  have HP := Lib.hid (api.pages 9 w (by decide))
  have HS := Lib.hid (api.slot 9 0 w (by decide) (by decide))
  have HH := Lib.hid (api.home 9 3 w (by decide) (by decide))
  have HM := Lib.hid (api.mark w)
  rw [show pagesOf 9 = 4 from by decide] at HP
  rw [show slotOf 9 0 = (1, true) from by decide] at HS
  rw [show homeOf 9 3 = (8, true) from by decide] at HH
  go_enter Try.func11, Try.ntmps11
  go_wp2_with (first
    | (go_at_call 9; refine HP.out.mono ?_; rintro e w1 ⟨rfl, rfl⟩)
    | (go_at_call 5; refine HS.out.mono ?_; rintro e w1 ⟨rfl, rfl⟩)
    | (go_at_call 7; refine HH.out.mono ?_; rintro e w1 ⟨rfl, rfl⟩)
    | (go_at_call 12; refine HM.out.mono ?_; rintro e w1 ⟨rfl, rfl⟩))
  go_ret
  exact ⟨rfl, rfl⟩

end Go.Proofs.Ytkmlmbakgmafjaa
