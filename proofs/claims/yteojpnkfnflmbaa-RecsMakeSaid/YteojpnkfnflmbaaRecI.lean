/-
  Six boxes at the beginning of a call; an array that came in. No condition.
-/
import Derived.Test.YteojpnkfnflmbaaRecA
namespace Go.Proofs.Yteojpnkfnflmbaa
open Go.RowKit
set_option maxRecDepth 100000
set_option linter.unusedVariables false

theorem box_last (w : World) (o : Obj) {k : Nat} (h : w.heap.size = k) : (w.alloc o).heap[k]? = some o := by
  subst h
  exact Array.getElem?_push_size
theorem box_keep (w : World) (o : Obj) {k : Nat} {x : Obj} (h : w.heap[k]? = some x) : (w.alloc o).heap[k]? = some x := by
  have hk : k < w.heap.size := (Array.getElem?_eq_some_iff.1 h).1
  exact (((Below.refl w.heap.size w).alloc (Nat.le_refl _) o).block k hk).trans h
theorem box_size (w : World) (o : Obj) {k : Nat} (h : w.heap.size = k) : (w.alloc o).heap.size = k + 1 := by simp [h]
theorem six_boxes (w : World) (o0 o1 o2 o3 o4 o5 : Obj) :
    ((((((w.alloc o0).alloc o1).alloc o2).alloc o3).alloc o4).alloc o5).heap[w.heap.size]? = some o0 ∧
    ((((((w.alloc o0).alloc o1).alloc o2).alloc o3).alloc o4).alloc o5).heap[w.heap.size + 1]? = some o1 ∧
    ((((((w.alloc o0).alloc o1).alloc o2).alloc o3).alloc o4).alloc o5).heap[w.heap.size + 2]? = some o2 ∧
    ((((((w.alloc o0).alloc o1).alloc o2).alloc o3).alloc o4).alloc o5).heap[w.heap.size + 3]? = some o3 ∧
    ((((((w.alloc o0).alloc o1).alloc o2).alloc o3).alloc o4).alloc o5).heap[w.heap.size + 4]? = some o4 ∧
    ((((((w.alloc o0).alloc o1).alloc o2).alloc o3).alloc o4).alloc o5).heap[w.heap.size + 5]? = some o5 ∧
    Below w.heap.size w ((((((w.alloc o0).alloc o1).alloc o2).alloc o3).alloc o4).alloc o5) := by
  have s1 := box_size w o0 rfl
  have s2 := box_size _ o1 s1
  have s3 := box_size _ o2 s2
  have s4 := box_size _ o3 s3
  have s5 := box_size _ o4 s4
  refine ⟨?_, ?_, ?_, ?_, ?_, ?_, ?_⟩
  · exact box_keep _ _ (box_keep _ _ (box_keep _ _ (box_keep _ _ (box_keep _ _ (box_last _ _ rfl)))))
  · exact box_keep _ _ (box_keep _ _ (box_keep _ _ (box_keep _ _ (box_last _ _ s1))))
  · exact box_keep _ _ (box_keep _ _ (box_keep _ _ (box_last _ _ s2)))
  · exact box_keep _ _ (box_keep _ _ (box_last _ _ s3))
  · exact box_keep _ _ (box_last _ _ s4)
  · exact box_last _ _ s5
  · exact ((((((Below.refl _ _).alloc (Nat.le_refl _) _).alloc (by omega) _).alloc (by omega) _).alloc (by omega) _).alloc (by omega) _).alloc (by omega) _

theorem okWide_array_ {P : Program} {w : World} {r : Reach} {base : Nat} {t : TypeId} {v : Value} {n : Nat} {e : TypeId} (ht : P.underlying t = some (.array n e)) (h : Value.okWide P w r base t v) : ∃ cs, v = .agg cs ∧ cs.size = P.cellsOf t := by
  simp only [Value.okWide, ht] at h
  obtain ⟨cs, h1, h2, _⟩ := h
  exact ⟨cs, h1, h2⟩

end Go.Proofs.Yteojpnkfnflmbaa
