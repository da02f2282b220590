/-
  The laws' own check of layer 19: it returns true. No condition.
-/
import Derived.Test.YteojpnkfnflmbaaRecG
namespace Go.Proofs.Yteojpnkfnflmbaa
open Go.RowKit
set_option maxRecDepth 100000
set_option linter.unusedVariables false

set_option maxHeartbeats 1600000 in
theorem recAwake_any (w : World) : Calls Try.prog 18 #[] w fun e w' => e = .returned (.bool true) ∧ Below w.heap.size w w' := by
  have HN := Lib.hid (recNode_any 2020 3 0 0 0 true 5 0 0 0 0 0 w (by intro v hv; simp only [List.mem_cons, List.not_mem_nil, or_false] at hv; rcases hv with rfl | rfl | rfl | rfl | rfl | rfl | rfl | rfl | rfl | rfl | rfl <;> omega))
  have HM := Lib.hid (numsR_made (t := 78) (K := [2020, 3]) (V := [0, 0, 0, bitI true, 5, 0, 0, 0, 0, 0]) (i := 2) (j := 10) (by intro v hv; simp only [List.mem_cons, List.not_mem_nil, or_false] at hv; rcases hv with rfl | rfl <;> omega) (by intro v hv; simp only [List.mem_cons, List.not_mem_nil, or_false] at hv; rcases hv with rfl | rfl | rfl | rfl | rfl | rfl | rfl | rfl | rfl | rfl <;> first | omega | decide) rfl (by omega) rfl (by omega))
  go_enter Try.func18, Try.ntmps18
  go_wp2_with fail
  refine HN.out.mono ?_
  rintro e w1 hp
  obtain ⟨kA, kc, vA, vc, rfl, h2, hb1⟩ := hp.gets (nk := 9) (nv := 80) (by omega) (by decide) rfl rfl
  have HO := Lib.hid (recNodeOf_any kA 9 kc vA 80 vc (keyL 78 [2020, 3], packN 8 [0, 0, 0, bitI true, 5, 0, 0, 0, 0, 0]) _ w1 h2.k h2.v (Nat.le_refl _) h2.kc h2.vc (by unfold maxLen; omega) (by unfold maxLen; omega))
  rw [HM.out] at HO
  have HB := Lib.hid hb1
  clear h2 hb1 hp HN
  go_wp2_with fail
  refine HO.out.mono ?_
  rintro e w2 ⟨rfl, hb2⟩
  have hB2 := HB.out.trans (hb2.mono HB.out.size)
  have HX := Lib.hid (hB2.alloc hB2.size (.cells #[.int .i64 2020, .int .i64 3, .int .i64 0, .int .i64 0, .int .i64 0, .bool true, .int .i64 5, .int .i64 0, .int .i64 0, .int .i64 0, .int .i64 0, .int .i64 0] 23))
  clear HO hb2 hB2
  simp only [nodeV, List.getElem?_cons_zero, List.getElem?_cons_succ, Option.getD_some, Option.isSome_some, bitI, if_true]
  go_wp2_with fail
  go_ret
  exact ⟨rfl, HX.out⟩

end Go.Proofs.Yteojpnkfnflmbaa
