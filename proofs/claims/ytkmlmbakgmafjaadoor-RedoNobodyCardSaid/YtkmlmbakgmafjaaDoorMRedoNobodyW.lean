/-
  Walk of RedoNobody, over any disk that answers as it is to: it returns true. Condition: the table that crc.Step reads holds what the program's text lays in it.
-/
import Derived.Test.YtkmlmbakgmafjaaDoorG5
namespace Go.Proofs.YtkmlmbakgmafjaaDoor
open Go.RowKit
set_option maxRecDepth 100000
set_option linter.unusedVariables false

set_option maxHeartbeats 1600000 in
theorem redoNobody_walk {D : World → (Nat → Prop) → Addr → DS → Prop} (api : DiskApi D) (n : Int) (w : World) (ht : Tab w ∧ 1 < w.heap.size) :
    Calls Tryd.prog 6 #[.int .i64 n] w fun e w' => e = .returned (.bool true) ∧ Below w.heap.size w w' := by
  have hX : Below w.heap.size w (w.alloc (.cells #[.pointer none, .int .i64 0] 69)) := (Below.refl _ _).alloc (Nat.le_refl _) _
  have hz : (w.alloc (.cells #[.pointer none, .int .i64 0] 69)).cell? ⟨w.heap.size, 0, none⟩ = some (.pointer none) := by
    rw [cell_of_row _ w.heap.size 0 _ _ (0, 0) (heap_alloc_new _ _)]; rfl
  have htX : Tab (w.alloc (.cells #[.pointer none, .int .i64 0] 69)) ∧ 1 < (w.alloc (.cells #[.pointer none, .int .i64 0] 69)).heap.size := ⟨ht.1.below hX ht.2, Nat.lt_of_lt_of_le ht.2 hX.size⟩
  generalize hW : w.alloc (.cells #[.pointer none, .int .i64 0] 69) = W at *
  have HW := Lib.hid hW
  have HLN := Lib.hid (load_unmade (made_nil_log W) n)
  have HLZ := Lib.hid (load_unmade (made_zero_log hz) n)
  have HON := Lib.hid (open_nil W)
  have HCN := Lib.hid (commit_unmade (made_nil_log W) none 0 0)
  have HCZ := Lib.hid (commit_unmade (made_zero_log hz) none 0 0)
  have HPN := Lib.hid (pages_unmade (made_nil_log W))
  have HSZ := Lib.hid (seq_unmade (made_zero_log hz))
  have HFN := Lib.hid (format_nil W htX)
  have HAW := Lib.hid (fun w1 (hb : Below W.heap.size W w1) => redoAwake_any api w1 ⟨htX.1.below hb htX.2, Nat.lt_of_lt_of_le htX.2 hb.size⟩)
  have HX := Lib.hid hX
  clear hX hz htX
  go_enter Tryd.func6, Tryd.ntmps6
  go_wp2_with fail
  refine HLN.out.mono ?_
  rintro e w8 ⟨rfl, rfl⟩
  go_wp2_with fail
  refine HLZ.out.mono ?_
  rintro e w8 ⟨rfl, rfl⟩
  go_wp2_with fail
  refine HON.out.mono ?_
  rintro e w8 ⟨rfl, rfl⟩
  go_wp2_with fail
  refine HCN.out.mono ?_
  rintro e w8 ⟨rfl, rfl⟩
  go_wp2_with fail
  refine HCZ.out.mono ?_
  rintro e w8 ⟨rfl, rfl⟩
  go_wp2_with fail
  refine HPN.out.mono ?_
  rintro e w8 ⟨rfl, rfl⟩
  go_wp2_with fail
  refine HSZ.out.mono ?_
  rintro e w8 ⟨rfl, rfl⟩
  go_wp2_with fail
  refine HFN.out.mono ?_
  rintro e w8 ⟨rfl, hb8⟩
  go_wp2_with fail
  refine (HAW.out w8 hb8).mono ?_
  rintro e w9 ⟨rfl, hb9⟩
  go_wp2
  go_ret
  have hb := hb8.trans (hb9.mono hb8.size)
  exact ⟨rfl, HX.out.trans (hb.mono HX.out.size)⟩

end Go.Proofs.YtkmlmbakgmafjaaDoor
