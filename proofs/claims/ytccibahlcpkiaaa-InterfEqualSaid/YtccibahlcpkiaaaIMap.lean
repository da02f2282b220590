/-
  Maps by whole numbers, as a function from numbers to what stands there, for any values: made, looked up, stored into, cleared; what keeps one. Condition of a store: fewer entries than 2^63 - 1.
-/
import Derived.Test.YtccibahlcpkiaaaBase
import Derived.Maps.OwnSet
import Derived.Maps.OwnOps
namespace Go.Proofs.Ytccibahlcpkiaaa
open Go.RowKit Go.Maps Go.ChangeMaps Go.MapKept
set_option maxRecDepth 100000
set_option linter.unusedVariables false

/-- An element as itself. -/
def asItself (v : Value) : Option (DataW Value × List MemPlace) := some (.held v, [])
theorem int_key : Keyed Try.prog 3 := int_keyed Try.underlying3
theorem key_of {i : Int} (h : -9223372036854775808 ≤ i ∧ i ≤ 9223372036854775807) : keyOf Try.prog 3 (.int .i64 i) = some (.int .i64 i) :=
  keyOf_int_mk Try.underlying3 (WalkArith.wf_i64 (by omega))

/-- Block b of w is a map of at most n entries: at i stands f i. -/
def IMap (w : World) (b n : Nat) (f : Int → Option Value) : Prop :=
  ∃ D : DataW Value, w.ownsMap Try.prog 3 asItself b n D ∧ ∀ i : Int, Maps.has D (.int .i64 i) = (f i).isSome ∧ ∀ v z, f i = some v → D.atKey (.int .i64 i) z = .held v

section
variable {w w' : World} {b n : Nat} {f : Int → Option Value}
theorem IMap.made (w : World) : IMap (w.alloc (.map #[] 0)) w.heap.size 0 (fun _ => none) :=
  ⟨_, World.ownsMap_made w _ _ _, fun i => ⟨rfl, fun v z h => by cases h⟩⟩
theorem IMap.lt (h : IMap w b n f) : b < w.heap.size := by
  obtain ⟨D, h1, _⟩ := h
  exact h1.lt
theorem IMap.block (h : IMap w b n f) : ∃ es c, w.heap[b]? = some (.map es c) := by
  obtain ⟨D, ⟨es, c, hb, _⟩, _⟩ := h
  exact ⟨es, c, hb⟩
theorem IMap.of_block (h : IMap w b n f) (e : w'.heap[b]? = w.heap[b]?) : IMap w' b n f := by
  obtain ⟨D, ⟨es, c, hb, rest⟩, hf⟩ := h
  exact ⟨D, ⟨es, c, e.trans hb, rest⟩, hf⟩
theorem IMap.mono (h : IMap w b n f) {m : Nat} (hm : n ≤ m) : IMap w b m f := by
  obtain ⟨D, h1, hf⟩ := h
  exact ⟨D, h1.mono hm, hf⟩
theorem IMap.congr (h : IMap w b n f) {g : Int → Option Value} (e : ∀ i, f i = g i) : IMap w b n g := by
  obtain ⟨D, h1, hf⟩ := h
  exact ⟨D, h1, fun i => by rw [← e i]; exact hf i⟩
theorem atKey_not {D : DataW Value} {k : Lit} (h : Maps.has D k = false) (z : DataW Value) : D.atKey k z = z := Maps.atKey_of_not_has h z

theorem IMap.look (h : IMap w b n f) {t e : TypeId} (ht : Try.prog.underlying t = some (.map 3 e)) {z : Value} (hz : (zeroValue e).run Try.prog w = .ok z w) {i : Int} (hi : -9223372036854775808 ≤ i ∧ i ≤ 9223372036854775807) :
    (Instr.lookup t (.map (some b)) (.int .i64 i) true).run Try.prog w = .ok (.tuple #[(f i).getD z, .bool (f i).isSome]) w := by
  obtain ⟨D, h1, hf⟩ := h
  obtain ⟨v, ps, hrun, hv⟩ := h1.look_ok int_key ht hz (show asItself z = some (.held z, []) from rfl) (key_of hi)
  obtain ⟨hh, ha⟩ := hf i
  rw [hrun, hh]
  have hv' : DataW.held v = D.atKey (.int .i64 i) (.held z) := by
    have := Option.some.inj hv
    exact congrArg Prod.fst this
  rcases hfi : f i with _ | u
  · rw [hfi] at hh
    rw [atKey_not hh] at hv'
    cases hv'; rfl
  · rw [ha u _ hfi] at hv'
    cases hv'; rfl
theorem IMap.get (h : IMap w b n f) {t e : TypeId} (ht : Try.prog.underlying t = some (.map 3 e)) {z : Value} (hz : (zeroValue e).run Try.prog w = .ok z w) {i : Int} (hi : -9223372036854775808 ≤ i ∧ i ≤ 9223372036854775807) {u : Value} (hu : f i = some u) :
    (Instr.lookup t (.map (some b)) (.int .i64 i) false).run Try.prog w = .ok u w := by
  obtain ⟨D, h1, hf⟩ := h
  obtain ⟨v, ps, hrun, hv⟩ := h1.lookup int_key ht hz (show asItself z = some (.held z, []) from rfl) (key_of hi)
  obtain ⟨hh, ha⟩ := hf i
  rw [hrun]
  have hv' : DataW.held v = D.atKey (.int .i64 i) (.held z) := by
    have := Option.some.inj hv
    exact congrArg Prod.fst this
  rw [ha u _ hu] at hv'
  cases hv'; rfl
theorem IMap.store (h : IMap w b n f) {t e : TypeId} (ht : Try.prog.underlying t = some (.map 3 e)) (hn : n < maxLen) {i : Int} (hi : -9223372036854775808 ≤ i ∧ i ≤ 9223372036854775807) (u : Value) :
    ∃ w', (Instr.mapUpdate t (.map (some b)) (.int .i64 i) u).run Try.prog w = .ok () w' ∧ IMap w' b (n + 1) (fun j => if j = i then some u else f j) ∧ w.grownBy w' (some b) := by
  obtain ⟨D, h1, hf⟩ := h
  obtain ⟨w', hrun, h2, h3⟩ := h1.update int_key ht hn (key_of hi) (show asItself u = some (.held u, []) from rfl)
  refine ⟨w', hrun, ⟨_, h2, fun j => ?_⟩, h3⟩
  by_cases e : j = i
  · subst e
    show Maps.has _ _ = (if j = j then some u else f j).isSome ∧ ∀ v z, (if j = j then some u else f j) = some v → _
    rw [if_pos rfl]
    refine ⟨has_put_same h1.isMap (by trivial) _, fun v z hv => ?_⟩
    cases hv
    exact atKey_put_same h1.isMap (by trivial) _ _
  · show Maps.has _ _ = (if j = i then some u else f j).isSome ∧ ∀ v z, (if j = i then some u else f j) = some v → _
    rw [if_neg e]
    have hne : (Lit.int IntKind.i64 j) ≠ Lit.int IntKind.i64 i := fun h => e (by injection h)
    rw [has_put_other hne]
    refine ⟨(hf j).1, fun v z hv => ?_⟩
    rw [atKey_put_other hne]
    exact (hf j).2 v z hv
theorem IMap.clear_ (h : IMap w b n f) {t e : TypeId} (ht : Try.prog.underlying t = some (.map 3 e)) (ty : TypeId) :
    ∃ w', (Builtin.clear_ #[t] ty #[.map (some b)]).run Try.prog w = .ok (.tuple #[]) w' ∧ IMap w' b 0 (fun _ => none) ∧ w.grownBy w' (some b) := by
  obtain ⟨D, ⟨es, c, hb, _⟩, _⟩ := h
  refine ⟨ChangeMaps.setBlock w b (.map #[] c), ?_, ⟨.map [], ⟨#[], c, heap_setBlock_same hb _, ⟨by simp, stamped_empty c, by simp⟩, Nat.le_refl _, rfl⟩, fun i => ⟨rfl, fun v z h => by cases h⟩⟩, ⟨rfl, rfl, rfl, by simp [ChangeMaps.setBlock], fun i _ hi => heap_setBlock_other hb _ (fun e => hi (by rw [e]))⟩⟩
  simp [Builtin.clear_, run_underlying ht, MapKept.run_getObj_map hb, MapKept.run_setObj_map _ hb, Result.andThen]
  rfl
end

end Go.Proofs.Ytccibahlcpkiaaa
