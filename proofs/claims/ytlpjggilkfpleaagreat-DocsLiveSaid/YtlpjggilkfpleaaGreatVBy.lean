/-
  What stands in a view is bytes. No condition.
-/
import Derived.Test.YtlpjggilkfpleaaGreatViewC
import Derived.Test.YtlpjggilkfpleaaGreatNumsP
namespace Go.Proofs.YtlpjggilkfpleaaGreat
open Go.RowKit Go.Maps
set_option maxRecDepth 100000
set_option linter.unusedVariables false

/-- What stands in a view is bytes. -/
theorem ViewAt.bytes {w : World} {X : Nat → Prop} {v m c : Nat} {S : VS} (h : ViewAt w X v m c S) {x : Txt} {b : List Int} (hb : S.now x = some b) : AllBytes b := by
  unfold VS.now at hb
  split at hb
  · rename_i d hd
    obtain ⟨f, _, h2⟩ := h.chg
    obtain ⟨u, e, hu⟩ := (h2 x).2 _ hd
    subst hb
    obtain ⟨z, _, A, n, k, _, _, _, h3, _⟩ := hu
    exact h3.bytes
  · obtain ⟨f, _, h2⟩ := h.mem
    obtain ⟨u, e, hu⟩ := (h2 x).2 _ hb
    obtain ⟨A, n, k, _, _, _, h3, _⟩ := hu
    exact h3.bytes
theorem ViewAt.scanBytes {w : World} {X : Nat → Prop} {v m c : Nat} {S : VS} (h : ViewAt w X v m c S) (y : Txt) : ∀ x ∈ (S.scan y).map kvOf, AllBytes x.1 ∧ AllBytes x.2 := fun x hx => by
  obtain ⟨q, hq, rfl⟩ := List.mem_map.1 hx
  exact ⟨by_bytes q.1, h.bytes ((scan_mem h.ok).1 hq).1⟩
end Go.Proofs.YtlpjggilkfpleaaGreat
