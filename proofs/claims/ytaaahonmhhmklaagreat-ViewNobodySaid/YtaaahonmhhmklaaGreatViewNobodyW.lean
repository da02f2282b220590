/-
  The walk of ViewNobody, for every key and value. No condition.
-/
import Derived.Test.YtaaahonmhhmklaaGreatViewG
namespace Go.Proofs.YtaaahonmhhmklaaGreat
open Go.RowKit Go.Maps
set_option maxRecDepth 100000
set_option linter.unusedVariables false

set_option maxHeartbeats 6400000 in
theorem viewNobody_walk (w : World) (a0 : Option Addr) (n0 c0 : Nat) (a1 : Option Addr) (n1 c1 : Nat) : Calls Tryz.prog 4 #[.slice a0 n0 c0, .slice a1 n1 c1] w fun e w' => e = .returned (.bool true) ∧ Below w.heap.size w w' := by
  obtain ⟨w1, hw1⟩ : ∃ w1, w1 = w.alloc (.cells #[.nilIface, .map none, .int .i64 0] 36 (0, 0)) := ⟨_, rfl⟩
  have hb1 : Below w.heap.size w w1 := by rw [hw1]; exact (Below.refl _ _).alloc (Nat.le_refl _) _
  have hbk : w1.heap[w.heap.size]? = some (.cells #[.nilIface, .map none, .int .i64 0] 36 (0, 0)) := by rw [hw1]; exact heap_alloc_new _ _
  have hc : w1.cell? ⟨w.heap.size, 0, none⟩ = some .nilIface := by rw [cell_of_row w1 _ 0 _ _ (0, 0) hbk]; rfl
  have hN := VUn.nil_ w1
  have hZ : VUn w1 (.pointer (some ⟨w.heap.size, 0, none⟩)) := VUn.zero_ hc (by rw [hw1]; simp)
  have HN := Lib.hid hN
  have HZ := Lib.hid hZ
  have HB1 := Lib.hid hb1
  have HS := Lib.hid hb1.size
  clear hb1 hbk hc hN hZ
  go_enter Tryz.func4, Tryz.ntmps4
  go_wp2_with fail
  rw [← hw1]
  clear hw1
  obtain ⟨bz, hbz⟩ : ∃ bz, bz = w.heap.size := ⟨_, rfl⟩
  have HBZ := Lib.hid hbz
  rw [← hbz] at HZ HB1 HS ⊢
  clear hbz
  refine (vGet_un HN.out _).mono ?_
  rintro e w2 ⟨rfl, rfl⟩
  go_wp2_with fail
  refine (vGet_un HZ.out _).mono ?_
  rintro e w2 ⟨rfl, rfl⟩
  go_wp2_with fail
  refine (vChangesP_un HN.out).mono ?_
  rintro e w2 ⟨rfl, rfl⟩
  go_wp2_with fail
  refine (vAbort_un HN.out).mono ?_
  rintro e w2 ⟨rfl, rfl⟩
  go_wp2_with fail
  refine (vAbort_un HZ.out).mono ?_
  rintro e w2 ⟨rfl, rfl⟩
  go_wp2_with fail
  refine (vPut_un HN.out _ _).mono ?_
  rintro e w2 ⟨rfl, rfl⟩
  go_wp2_with fail
  refine (vPut_un HZ.out _ _).mono ?_
  rintro e w2 ⟨rfl, rfl⟩
  go_wp2_with fail
  refine (vDelete_un HN.out _).mono ?_
  rintro e w2 ⟨rfl, rfl⟩
  go_wp2_with fail
  refine (vScan_un HN.out _).mono ?_
  rintro e w2 ⟨rfl, hb2⟩
  have HN2 := Lib.hid (HN.out.later hb2)
  have HZ2 := Lib.hid (HZ.out.later hb2)
  have HB2 := Lib.hid (HB1.out.trans (hb2.mono HS.out))
  have HS2 := Lib.hid (Nat.le_trans HS.out hb2.size)
  clear hb2
  go_wp2_with fail
  refine (vScan_un HZ2.out _).mono ?_
  rintro e w3 ⟨rfl, hb3⟩
  have HN3 := Lib.hid (HN2.out.later hb3)
  have HZ3 := Lib.hid (HZ2.out.later hb3)
  have HB3 := Lib.hid (HB2.out.trans (hb3.mono HS2.out))
  have HS3 := Lib.hid (Nat.le_trans HS2.out hb3.size)
  clear hb3
  go_wp2_with fail
  refine (vCommit_un HN3.out).mono ?_
  rintro e w4 ⟨rfl, rfl⟩
  go_wp2_with fail
  refine (vErr_un HZ3.out).mono ?_
  rintro e w4 ⟨rfl, rfl⟩
  go_wp2_with fail
  refine (vAwake_any _).mono ?_
  rintro e w5 ⟨rfl, hb5⟩
  have HB5 := Lib.hid (And.intro HB3.out hb5)
  clear hb5
  go_wp2_with fail
  go_ret
  obtain ⟨b3, b5⟩ := HB5.out
  have hB := b3.trans (b5.mono HS3.out)
  rw [HBZ.out] at hB
  exact ⟨rfl, hB⟩

end Go.Proofs.YtaaahonmhhmklaaGreat
