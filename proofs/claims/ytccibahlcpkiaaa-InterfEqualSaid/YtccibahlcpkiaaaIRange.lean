/-
  A range over a map by whole numbers: what is left to come, what comes next; how many entries such a map has at most. No condition.
-/
import Derived.Test.YtccibahlcpkiaaaIMap
import Derived.Maps.RangeWalk
import Derived.Sort.KeysCollected
namespace Go.Proofs.Ytccibahlcpkiaaa
open Go.RowKit Go.Maps Go.ChangeMaps Go.MapKept Go.WideMaps
set_option maxRecDepth 100000
set_option linter.unusedVariables false

theorem asItself_inv {v : Value} {y : DataW Value × List MemPlace} (h : asItself v = some y) : y = (.held v, []) := (Option.some.inj h).symm
theorem keyOf_int_inv {kv : Value} {kl : Lit} (h : keyOf Try.prog 3 kv = some kl) : ∃ i : Int, kv = .int .i64 i ∧ kl = .int .i64 i ∧ -9223372036854775808 ≤ i ∧ i ≤ 9223372036854775807 := by
  have hk := Try.underlying3
  cases kv <;> simp [keyOf, hk, mapKey] at h
  obtain ⟨⟨rfl, hw⟩, rfl⟩ := h
  refine ⟨_, rfl, rfl, ?_⟩
  simp [Lit.wf, IntKind.min, IntKind.max, IntKind.signed, IntKind.bits] at hw
  omega

/-- An iterator at block r over the map at block b: left x: the entry at x is still to come. -/
def IRange (w : World) (b r n : Nat) (f : Int → Option Value) (left : Int → Bool) (cnt : Nat) : Prop :=
  ∃ (D : DataW Value) (lf : Lit → Bool), w.ranges Try.prog 3 asItself b r n D lf cnt ∧ (∀ i : Int, Maps.has D (.int .i64 i) = (f i).isSome ∧ ∀ v z, f i = some v → D.atKey (.int .i64 i) z = .held v) ∧ ∀ x, lf (.int .i64 x) = left x

section
variable {w w' : World} {b r n cnt : Nat} {f : Int → Option Value} {left : Int → Bool}
theorem IMap.range (h : IMap w b n f) {t e : TypeId} (ht : Try.prog.underlying t = some (.map 3 e)) :
    ∃ w' cnt, (Instr.range t (.map (some b))).run Try.prog w = .ok (.pointer (some ⟨w.heap.size, 0, none⟩)) w' ∧ IRange w' b w.heap.size n f (fun x => (f x).isSome) cnt ∧ cnt ≤ n ∧ w.grownBy w' none ∧ w'.heap.size = w.heap.size + 1 := by
  obtain ⟨D, h1, hf⟩ := h
  obtain ⟨w', hrun, h2, h3, h4⟩ := h1.range int_key ht
  exact ⟨w', _, hrun, ⟨D, _, h2, hf, fun x => (hf x).1⟩, h1.size_le, h3, h4⟩
theorem IMap.getD (h : IMap w b n f) {t e : TypeId} (ht : Try.prog.underlying t = some (.map 3 e)) {z : Value} (hz : (zeroValue e).run Try.prog w = .ok z w) {i : Int} (hi : -9223372036854775808 ≤ i ∧ i ≤ 9223372036854775807) :
    (Instr.lookup t (.map (some b)) (.int .i64 i) false).run Try.prog w = .ok ((f i).getD z) w := by
  obtain ⟨D, h1, hf⟩ := h
  obtain ⟨v, ps, hrun, hv⟩ := h1.lookup int_key ht hz (show asItself z = some (.held z, []) from rfl) (key_of hi)
  obtain ⟨hh, ha⟩ := hf i
  rw [hrun]
  have hv' : DataW.held v = D.atKey (.int .i64 i) (.held z) := by
    have := Option.some.inj hv
    exact congrArg Prod.fst this
  rcases hfi : f i with _ | u
  · rw [hfi] at hh
    rw [atKey_not hh] at hv'
    cases hv'; rfl
  · rw [ha u _ hfi] at hv'
    cases hv'; rfl
theorem IRange.owns (h : IRange w b r n f left cnt) : IMap w b n f := by
  obtain ⟨D, lf, h1, hf, _⟩ := h
  exact ⟨D, h1.owns, hf⟩
theorem IRange.ne (h : IRange w b r n f left cnt) : r ≠ b := by
  obtain ⟨D, lf, h1, _⟩ := h
  exact h1.ne
theorem IRange.lt (h : IRange w b r n f left cnt) : r < w.heap.size := by
  obtain ⟨D, lf, h1, _⟩ := h
  exact h1.lt
theorem IRange.left_eq (h : IRange w b r n f left cnt) : w.rangeLeft b r = cnt := by
  obtain ⟨D, lf, h1, _⟩ := h
  exact h1.left_eq
theorem IRange.keep (h : IRange w b r n f left cnt) (e1 : w'.heap[b]? = w.heap[b]?) (e2 : w'.heap[r]? = w.heap[r]?) : IRange w' b r n f left cnt := by
  obtain ⟨D, lf, ⟨es, clock, since, seen, c0, hb, F, hs, hD, hr, rest⟩, hf, hl⟩ := h
  exact ⟨D, lf, ⟨es, clock, since, seen, c0, e1.trans hb, F, hs, hD, e2.trans hr, rest⟩, hf, hl⟩
theorem IRange.next (h : IRange w b r n f left cnt) (ty : TypeId) :
    (cnt = 0 ∧ (∀ x, left x = false) ∧ (Instr.next (.pointer (some ⟨r, 0, none⟩)) false ty).run Try.prog w = .ok (.tuple #[.bool false]) w) ∨
    ∃ x v w' cnt', (-9223372036854775808 ≤ x ∧ x ≤ 9223372036854775807) ∧ left x = true ∧ f x = some v ∧ (Instr.next (.pointer (some ⟨r, 0, none⟩)) false ty).run Try.prog w = .ok (.tuple #[.bool true, .int .i64 x, v]) w' ∧
      IRange w' b r n f (fun z => left z && !decide (z = x)) cnt' ∧ cnt' < cnt ∧ w.grownBy w' (some r) ∧ w'.heap.size = w.heap.size ∧ (Instr.entry (.pointer (some ⟨r, 0, none⟩))).run Try.prog w' = .ok (.tuple #[.int .i64 x, v]) w' := by
  obtain ⟨D, lf, h1, hf, hl⟩ := h
  rcases h1.next int_key ty with ⟨h0, hn, hrun⟩ | ⟨key, v, kl, y, w', cnt', hkey, hlk, hv, hat, hrun, hrg, hlt, hgr, hsz, hen⟩
  · exact .inl ⟨h0, fun x => by rw [← hl x]; exact hn _, hrun⟩
  · obtain ⟨x, rfl, rfl, hx⟩ := keyOf_int_inv hkey
    obtain rfl := asItself_inv hv
    refine .inr ⟨x, v, w', cnt', hx, by rw [← hl x]; exact hlk, ?_, hrun, ⟨D, _, hrg, hf, fun z => ?_⟩, hlt, hgr, hsz, hen⟩
    · rcases hfx : f x with _ | u
      · have h2 := hat (.map [])
        have h3 := (hf x).1
        rw [hfx] at h3
        rw [atKey_not h3] at h2
        cases h2
      · have h2 := hat (.map [])
        rw [(hf x).2 u _ hfx] at h2
        cases h2; rfl
    · show (lf (.int .i64 z) && !(Lit.int .i64 z).sameKey (.int .i64 x)) = _
      rw [hl z]
      congr 2
      rw [Bool.eq_iff_iff]
      simp [Lit.sameKey]
end
end Go.Proofs.Ytccibahlcpkiaaa
