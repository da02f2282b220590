/-
  Walk of ExtNobody: it returns true. Condition: the table that crc.Step reads holds what the program's text lays in it.
-/
import Derived.Test.YtfbljmkjiaklfaaGreatDoorG49
import Derived.Test.YtfbljmkjiaklfaaGreatDoorG44
namespace Go.Proofs.YtfbljmkjiaklfaaGreatDoor
open Go.RowKit
set_option maxRecDepth 100000
set_option linter.unusedVariables false

theorem metaDepth_run (d f n c : Int) (A : Option Addr) (k cap : Nat) (w : World) : (Instr.field 41 (.agg #[.int .i64 d, .int .i64 f, .int .i64 n, .int .i64 c, .slice A k cap]) 0).run Tryz.prog w = .ok (.int .i64 d) w := by
  kernel_rfl
section
variable {D : World → (Nat → Prop) → Addr → DS → Prop}
set_option maxHeartbeats 3200000 in
theorem extNobody_walk (api : DiskApi D) (w : World) (A : Option Addr) (n c : Nat) (ht : Tab w ∧ 1 < w.heap.size) :
    Calls Tryz.prog 6 #[.slice A n c] w fun e w' => e = .returned (.bool true) ∧ Below w.heap.size w w' := by
  obtain ⟨Z, hZ⟩ : ∃ Z, Z = w.alloc (.cells #[.pointer none] 48) := ⟨_, rfl⟩
  have hbZ : Below w.heap.size w Z := by rw [hZ]; exact (Below.refl _ _).alloc (Nat.le_refl _) _
  have hzc : Z.cell? ⟨w.heap.size, 0, none⟩ = some (.pointer none) := by
    rw [hZ, cell_of_row _ w.heap.size 0 _ _ (0, 0) (heap_alloc_new _ _)]; rfl
  have hzs : w.heap.size < Z.heap.size := by rw [hZ]; simp
  have UZ := Unmade.zero_ hzc hzs
  have H1 := Lib.hid (extGet_un (Unmade.nil_ Z) A n c)
  have HZZ := Lib.hid UZ
  have HBZ := Lib.hid hbZ
  have HAW := Lib.hid (show ∀ W, Below w.heap.size w W → Calls Tryz.prog 9 #[] W fun e w' => e = .returned (.bool true) ∧ Below W.heap.size W w' from fun W hb => extAwake_any api W ⟨ht.1.below hb ht.2, Nat.lt_of_lt_of_le ht.2 hb.size⟩)
  clear hbZ hzc hzs UZ ht
  go_enter Tryz.func6, Tryz.ntmps6
  go_wp2_with fail
  rw [← hZ]
  clear hZ
  refine H1.out.mono ?_
  rintro e w2 ⟨rfl, hb2⟩
  have H2 := Lib.hid (extGet_un (HZZ.out.later hb2) A n c)
  have HZ2 := Lib.hid (And.intro (HZZ.out.later hb2) (HBZ.out.trans (hb2.mono HBZ.out.size)))
  clear hb2 H1 HZZ HBZ
  go_wp2_with fail
  refine H2.out.mono ?_
  rintro e w3 ⟨rfl, hb3⟩
  have H3 := Lib.hid (extDelete_un (Unmade.nil_ w3) A n c)
  have HZ3 := Lib.hid (And.intro (HZ2.out.1.later hb3) (HZ2.out.2.trans (hb3.mono HZ2.out.2.size)))
  clear hb3 H2 HZ2
  go_wp2_with fail
  refine H3.out.mono ?_
  rintro e w4 ⟨rfl, hb4⟩
  have H4 := Lib.hid (extAll_un (HZ3.out.1.later hb4))
  have HZ4 := Lib.hid (And.intro (HZ3.out.1.later hb4) (HZ3.out.2.trans (hb4.mono HZ3.out.2.size)))
  clear hb4 H3 HZ3
  go_wp2_with fail
  refine H4.out.mono ?_
  rintro e w5 ⟨rfl, hb5⟩
  have H5 := Lib.hid (extOpen_nil w5)
  have HZ5 := Lib.hid (And.intro (HZ4.out.1.later hb5) (HZ4.out.2.trans (hb5.mono HZ4.out.2.size)))
  clear hb5 H4 HZ4
  go_wp2_with fail
  refine H5.out.mono ?_
  rintro e w6 ⟨rfl, hb6⟩
  have H6 := Lib.hid (extPut_un (Unmade.nil_ w6) A none n c 0 0)
  have HZ6 := Lib.hid (And.intro (HZ5.out.1.later hb6) (HZ5.out.2.trans (hb6.mono HZ5.out.2.size)))
  clear hb6 H5 HZ5
  go_wp2_with fail
  refine H6.out.mono ?_
  rintro e w7 ⟨rfl, rfl⟩
  have H7 := Lib.hid (extLen_un HZ6.out.1)
  clear H6
  go_wp2_with fail
  refine H7.out.mono ?_
  rintro e w8 ⟨rfl, hb8⟩
  have H8 := Lib.hid (extMeta_un (Unmade.nil_ w8))
  have HZ8 := Lib.hid (HZ6.out.2.trans (hb8.mono HZ6.out.2.size))
  clear hb8 H7 HZ6
  go_wp2_with fail
  refine H8.out.mono ?_
  rintro e w9 ⟨rfl, hb9⟩
  have hfd := metaDepth_run 0 0 0 0 none 0 0 w9
  have HZ9 := Lib.hid (HZ8.out.trans (hb9.mono HZ8.out.size))
  have H9 := Lib.hid (HAW.out w9 HZ9.out)
  clear hb9 H8 HZ8
  go_wp2_with fail
  refine H9.out.mono ?_
  rintro e w10 ⟨rfl, hb10⟩
  have HE := Lib.hid (HZ9.out.trans (hb10.mono HZ9.out.size))
  clear hb10 H9
  go_wp2_with fail
  go_ret
  exact ⟨rfl, HE.out⟩
end
end Go.Proofs.YtfbljmkjiaklfaaGreatDoor
