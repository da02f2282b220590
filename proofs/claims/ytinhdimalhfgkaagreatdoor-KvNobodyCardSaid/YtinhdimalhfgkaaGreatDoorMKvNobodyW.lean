/-
  Walk of KvNobody: it returns true. Condition: the table that crc.Step reads holds what the program's text lays in it.
-/
import Derived.Test.YtinhdimalhfgkaaGreatDoorG46
namespace Go.Proofs.YtinhdimalhfgkaaGreatDoor
open Go.RowKit
set_option maxRecDepth 100000
set_option linter.unusedVariables false

section
variable {D : World → (Nat → Prop) → Addr → DS → Prop}
set_option maxHeartbeats 3200000 in
theorem kvNobody_walk (api : DiskApi D) (w : World) (A : Option Addr) (n c : Nat) (ht : Tab w ∧ 1 < w.heap.size) :
    Calls Tryz.prog 7 #[.slice A n c] w fun e w' => e = .returned (.bool true) ∧ Below w.heap.size w w' := by
  obtain ⟨Z, hZ⟩ : ∃ Z, Z = w.alloc (.cells #[.pointer none, .bool false] 60) := ⟨_, rfl⟩
  have hbZ : Below w.heap.size w Z := by rw [hZ]; exact (Below.refl _ _).alloc (Nat.le_refl _) _
  have hzc : Z.cell? ⟨w.heap.size, 0, none⟩ = some (.pointer none) := by
    rw [hZ, cell_of_row _ w.heap.size 0 _ _ (0, 0) (heap_alloc_new _ _)]; rfl
  have hzs : w.heap.size < Z.heap.size := by rw [hZ]; simp
  have UZ := KvUn.zero_ hzc hzs
  have H1 := Lib.hid (kvGet_un (KvUn.nil_ Z) A n c)
  have H2 := Lib.hid (kvScan_un UZ A n c)
  have HZZ := Lib.hid (And.intro UZ hbZ)
  have HTB := Lib.hid (fun W (hb : Below w.heap.size w W) => (show Tab W ∧ 1 < W.heap.size from ⟨ht.1.below hb ht.2, Nat.lt_of_lt_of_le ht.2 hb.size⟩))
  have HT := Lib.hid ht
  clear hbZ hzc hzs UZ ht
  go_enter Tryz.func7, Tryz.ntmps7
  go_wp2_with fail
  rw [← hZ]
  clear hZ
  refine H1.out.mono ?_
  rintro e w2 ⟨rfl, rfl⟩
  clear H1
  go_wp2_with fail
  refine H2.out.mono ?_
  rintro e w3 ⟨rfl, hb3⟩
  have HN := Lib.hid (law_new api (w0 := Z) (w := w3) (n := 9) (by decide) (by decide) (HTB.out Z HZZ.out.2) hb3)
  clear hb3 H2
  go_wp2_with fail
  refine HN.out.mono ?_
  rintro e w4 ⟨p, F, rfl, L4, _⟩
  have HO := Lib.hid (kvOpen_blank api (n := 9) L4)
  clear L4 HN
  go_wp2_with fail
  refine HO.out.mono ?_
  rintro e w5 ⟨rfl, hb5⟩
  have hbw5 := HZZ.out.2.trans (hb5.mono HZZ.out.2.size)
  have HF := Lib.hid (kvFormat_nil w5 (HTB.out w5 hbw5))
  have HZ5 := Lib.hid (And.intro (HZZ.out.1.later hb5) hbw5)
  clear hb5 hbw5 HO HZZ
  go_wp2_with fail
  refine HF.out.mono ?_
  rintro e w6 ⟨rfl, hb6⟩
  have HZ6 := Lib.hid (And.intro (HZ5.out.1.later hb6) (HZ5.out.2.trans (hb6.mono HZ5.out.2.size)))
  have HWR := Lib.hid (kvWrite_un (KvUn.nil_ w6) none none 0 0 0 0)
  have HLE := Lib.hid (kvLen_un HZ6.out.1)
  have HPA := Lib.hid (kvPages_un (KvUn.nil_ w6))
  have HAW := Lib.hid (kvAwake_any api w6 (HTB.out w6 HZ6.out.2))
  clear hb6 HF HZ5
  go_wp2_with fail
  refine HWR.out.mono ?_
  rintro e w7 ⟨rfl, rfl⟩
  clear HWR
  go_wp2_with fail
  refine HLE.out.mono ?_
  rintro e w7 ⟨rfl, rfl⟩
  clear HLE
  go_wp2_with fail
  refine HPA.out.mono ?_
  rintro e w7 ⟨rfl, rfl⟩
  clear HPA
  go_wp2_with fail
  refine HAW.out.mono ?_
  rintro e w8 ⟨rfl, hb8⟩
  have HE := Lib.hid (HZ6.out.2.trans (hb8.mono HZ6.out.2.size))
  clear hb8 HAW
  go_wp2
  go_ret
  exact ⟨rfl, HE.out⟩
end
end Go.Proofs.YtinhdimalhfgkaaGreatDoor
