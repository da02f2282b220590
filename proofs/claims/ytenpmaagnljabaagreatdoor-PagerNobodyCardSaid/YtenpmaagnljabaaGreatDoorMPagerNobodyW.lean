/-
  What a pager that no call made answers; walk of PagerNobody: it returns true. Condition: the table that crc.Step reads holds what the program's text lays in it.
-/
import Derived.Test.YtenpmaagnljabaaGreatDoorG6
namespace Go.Proofs.YtenpmaagnljabaaGreatDoor
open Go.RowKit
set_option maxRecDepth 100000
set_option linter.unusedVariables false

set_option maxHeartbeats 400000 in
theorem pmade_nil (w : World) : Calls Tryz.prog 29 #[.pointer none] w fun e w' => e = .returned (.bool false) ∧ w = w' := by
  go_enter Tryz.func29, Tryz.ntmps29
  go_wp2
  go_ret
  exact ⟨rfl, rfl⟩
set_option maxHeartbeats 400000 in
theorem pmade_zero {w : World} {r : Nat} (h : w.cell? ⟨r, 0, none⟩ = some (.pointer none)) : Calls Tryz.prog 29 #[.pointer (some ⟨r, 0, none⟩)] w fun e w' => e = .returned (.bool false) ∧ w = w' := by
  go_enter Tryz.func29, Tryz.ntmps29
  go_wp2
  go_ret
  exact ⟨rfl, rfl⟩
section
variable {w : World} {v : Value}
set_option maxHeartbeats 400000 in
theorem pget_un (hm : Calls Tryz.prog 29 #[v] w fun e w' => e = .returned (.bool false) ∧ w = w') (i : Int) : Calls Tryz.prog 11 #[v, .int .i64 i] w fun e w' => e = .returned (.tuple #[.slice none 0 0, .int .i64 2]) ∧ w = w' := by
  have HM := Lib.hid hm
  clear hm
  go_enter Tryz.func11, Tryz.ntmps11
  go_wp2_with fail
  refine HM.out.mono ?_
  rintro e w1 ⟨rfl, rfl⟩
  go_wp2
  go_ret2
  exact ⟨rfl, rfl⟩
set_option maxHeartbeats 400000 in
theorem pset_un (hm : Calls Tryz.prog 29 #[v] w fun e w' => e = .returned (.bool false) ∧ w = w') (i : Int) (A : Option Addr) (n c : Nat) : Calls Tryz.prog 8 #[v, .int .i64 i, .slice A n c] w fun e w' => e = .returned (.int .i64 2) ∧ w = w' := by
  have HM := Lib.hid hm
  clear hm
  go_enter Tryz.func8, Tryz.ntmps8
  go_wp2_with fail
  refine HM.out.mono ?_
  rintro e w1 ⟨rfl, rfl⟩
  go_wp2
  go_ret
  exact ⟨rfl, rfl⟩
set_option maxHeartbeats 400000 in
theorem pcommit_un (hm : Calls Tryz.prog 29 #[v] w fun e w' => e = .returned (.bool false) ∧ w = w') : Calls Tryz.prog 14 #[v] w fun e w' => e = .returned (.int .i64 2) ∧ w = w' := by
  have HM := Lib.hid hm
  clear hm
  go_enter Tryz.func14, Tryz.ntmps14
  go_wp2_with fail
  refine HM.out.mono ?_
  rintro e w1 ⟨rfl, rfl⟩
  go_wp2
  go_ret
  exact ⟨rfl, rfl⟩
set_option maxHeartbeats 400000 in
theorem pchanged_un (hm : Calls Tryz.prog 29 #[v] w fun e w' => e = .returned (.bool false) ∧ w = w') : Calls Tryz.prog 18 #[v] w fun e w' => e = .returned (.slice none 0 0) ∧ w = w' := by
  have HM := Lib.hid hm
  clear hm
  go_enter Tryz.func18, Tryz.ntmps18
  go_wp2_with fail
  refine HM.out.mono ?_
  rintro e w1 ⟨rfl, rfl⟩
  go_wp2
  go_ret
  exact ⟨rfl, rfl⟩
set_option maxHeartbeats 400000 in
theorem ppages_un (hm : Calls Tryz.prog 29 #[v] w fun e w' => e = .returned (.bool false) ∧ w = w') : Calls Tryz.prog 20 #[v] w fun e w' => e = .returned (.int .i64 0) ∧ w = w' := by
  have HM := Lib.hid hm
  clear hm
  go_enter Tryz.func20, Tryz.ntmps20
  go_wp2_with fail
  refine HM.out.mono ?_
  rintro e w1 ⟨rfl, rfl⟩
  go_wp2
  go_ret
  exact ⟨rfl, rfl⟩
set_option maxHeartbeats 400000 in
theorem pabort_un (hm : Calls Tryz.prog 29 #[v] w fun e w' => e = .returned (.bool false) ∧ w = w') : Calls Tryz.prog 16 #[v] w fun e w' => e = .returned (.tuple #[]) ∧ w = w' := by
  have HM := Lib.hid hm
  clear hm
  go_enter Tryz.func16, Tryz.ntmps16
  go_wp2_with fail
  refine HM.out.mono ?_
  rintro e w1 ⟨rfl, rfl⟩
  go_wp2
  go_end0
  exact ⟨rfl, rfl⟩
end
set_option maxHeartbeats 400000 in
theorem pnew_nil (w : World) : Calls Tryz.prog 22 #[.pointer none] w fun e w' => e = .returned (.tuple #[.pointer none, .int .i64 1]) ∧ w = w' := by
  have HM := Lib.hid (pages_unmade (made_nil_log w))
  go_enter Tryz.func22, Tryz.ntmps22
  go_wp2_with fail
  refine HM.out.mono ?_
  rintro e w1 ⟨rfl, rfl⟩
  go_wp2
  go_ret2
  exact ⟨rfl, rfl⟩

set_option maxHeartbeats 1600000 in
theorem pagerNobody_walk {D : World → (Nat → Prop) → Addr → DS → Prop} (api : DiskApi D) (i : Int) (w : World) (ht : Tab w ∧ 1 < w.heap.size) :
    Calls Tryz.prog 5 #[.int .i64 i] w fun e w' => e = .returned (.bool true) ∧ Below w.heap.size w w' := by
  have hX : Below w.heap.size w (w.alloc (.cells #[.pointer none, .map none] 52)) := (Below.refl _ _).alloc (Nat.le_refl _) _
  have hz : (w.alloc (.cells #[.pointer none, .map none] 52)).cell? ⟨w.heap.size, 0, none⟩ = some (.pointer none) := by
    rw [cell_of_row _ w.heap.size 0 _ _ (0, 0) (heap_alloc_new _ _)]; rfl
  have htX : Tab (w.alloc (.cells #[.pointer none, .map none] 52)) ∧ 1 < (w.alloc (.cells #[.pointer none, .map none] 52)).heap.size := ⟨ht.1.below hX ht.2, Nat.lt_of_lt_of_le ht.2 hX.size⟩
  have HG := Lib.hid (pget_un (pmade_nil (w.alloc (.cells #[.pointer none, .map none] 52))) i)
  have HZ := Lib.hid (pget_un (pmade_zero hz) i)
  have HN := Lib.hid (pnew_nil (w.alloc (.cells #[.pointer none, .map none] 52)))
  have HA := Lib.hid (pabort_un (pmade_nil (w.alloc (.cells #[.pointer none, .map none] 52))))
  have HAZ := Lib.hid (pabort_un (pmade_zero hz))
  have HS := Lib.hid (pset_un (pmade_nil (w.alloc (.cells #[.pointer none, .map none] 52))) i none 0 0)
  have HC := Lib.hid (pcommit_un (pmade_zero hz))
  have HCH := Lib.hid (pchanged_un (pmade_nil (w.alloc (.cells #[.pointer none, .map none] 52))))
  have HP := Lib.hid (ppages_un (pmade_zero hz))
  have HAW := Lib.hid (pgAwake_any api _ htX)
  have HX := Lib.hid hX
  clear hX hz htX
  go_enter Tryz.func5, Tryz.ntmps5
  go_wp2_with fail
  refine HG.out.mono ?_
  rintro e w8 ⟨rfl, rfl⟩
  go_wp2_with fail
  refine HZ.out.mono ?_
  rintro e w8 ⟨rfl, rfl⟩
  go_wp2_with fail
  refine HN.out.mono ?_
  rintro e w8 ⟨rfl, rfl⟩
  go_wp2_with fail
  refine HA.out.mono ?_
  rintro e w8 ⟨rfl, rfl⟩
  go_wp2_with fail
  refine HAZ.out.mono ?_
  rintro e w8 ⟨rfl, rfl⟩
  go_wp2_with fail
  refine HS.out.mono ?_
  rintro e w8 ⟨rfl, rfl⟩
  go_wp2_with fail
  refine HC.out.mono ?_
  rintro e w8 ⟨rfl, rfl⟩
  go_wp2_with fail
  refine HCH.out.mono ?_
  rintro e w8 ⟨rfl, rfl⟩
  go_wp2_with fail
  refine HP.out.mono ?_
  rintro e w8 ⟨rfl, rfl⟩
  go_wp2_with fail
  refine HAW.out.mono ?_
  rintro e w9 ⟨rfl, hb9⟩
  have hF := Lib.hid (HX.out.trans (hb9.mono HX.out.size))
  clear hb9
  go_wp2
  go_ret
  exact ⟨rfl, hF.out⟩

end Go.Proofs.YtenpmaagnljabaaGreatDoor
