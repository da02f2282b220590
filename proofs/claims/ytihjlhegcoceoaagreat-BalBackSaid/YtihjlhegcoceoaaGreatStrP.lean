/-
  strings.HasPrefix and bytes.Compare by their contracts: whether a text begins with another one; how two slices of bytes stand to one another. No condition but that lengths are ints.
-/
import Derived.Test.YtihjlhegcoceoaaGreatViewA
import Derived.Test.YtihjlhegcoceoaaGreatBcmp
import Derived.Lib.BytesEntry
import Derived.Laws.Externs
import Derived.Lib.Walk
import Derived.Lib.Strings
import Derived.Lib.Slices
import Derived.Laws.Strings3
namespace Go.Proofs.YtihjlhegcoceoaaGreat
open Go.RowKit Go.Maps
set_option maxRecDepth 100000
set_option linter.unusedVariables false

/-! ### strings.HasPrefix -/
set_option maxHeartbeats 800000 in
theorem hasPre_in (s p : ByteArray) (w : World) :
    Calls Tryz.prog 35 #[.string s, .string p] w fun e w' => e = .returned (.bool (p.data.toList.isPrefixOf s.data.toList)) ∧ w = w' := by
  show Calls Tryz.prog 35 #[.string s, .string p] w fun e w' => e = .returned (.bool (Lib.hasPrefix s.data.toList p.data.toList)) ∧ w = w'
  rw [← Lib.hasPrefix_of_take, ← Lib.size_eq, ← Lib.size_eq]
  go_enter Tryz.func35, Tryz.ntmps35
  go_wp2
  · rename_i h
    go_ret
    refine ⟨?_, rfl⟩
    show Ending.returned (Value.bool ((s.extract 0 p.size).toList == p.toList)) = _
    rw [Lib.extract_toList, Lib.toList_data]
    simp [h]
  · rename_i h
    go_ret
    refine ⟨?_, rfl⟩
    show Ending.returned (Value.bool false) = _
    simp [h]
set_option maxHeartbeats 800000 in
theorem hasPre_any (x p : Txt) (w : World) :
    Calls Tryz.prog 19 #[encStr x, encStr p] w fun e w' => e = .returned (.bool (p.isPrefixOf x)) ∧ w = w' := by
  have H := Lib.hid (hasPre_in ⟨x.toArray⟩ ⟨p.toArray⟩ w)
  have e : p.toArray.toList.isPrefixOf x.toArray.toList = p.isPrefixOf x := by simp
  simp only at H
  generalize p.isPrefixOf x = r at H ⊢
  go_enter Tryz.func19, Tryz.ntmps19
  go_wp2_with fail
  refine H.out.mono ?_
  rintro e w' ⟨rfl, rfl⟩
  go_wp2
  go_ret
  exact ⟨rfl, rfl⟩

end Go.Proofs.YtihjlhegcoceoaaGreat
