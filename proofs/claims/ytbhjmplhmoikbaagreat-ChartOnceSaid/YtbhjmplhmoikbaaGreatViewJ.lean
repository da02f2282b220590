/-
  Contracts of the library's IndexFunc and DeleteFunc over pairs, with Scan's first closure. Condition: fewer than 2^32 pairs; what the closure says of each pair.
-/
import Derived.Test.YtbhjmplhmoikbaaGreatViewI
namespace Go.Proofs.YtbhjmplhmoikbaaGreat
open Go.RowKit Go.Maps
set_option maxRecDepth 100000
set_option linter.unusedVariables false

/-- Block g is a row of cap pairs' cells, the first n pairs' being vs. -/
def RowIs (w : World) (g n cap : Nat) (vs : List Value) : Prop := ∃ cur : Array Value, w.heap[g]? = some (.cells cur 42 (0, 0)) ∧ n ≤ cap ∧ cap ≤ maxLen ∧ cur.size = cap * 2 ∧ cur.toList.take (n * 2) = vs
/-- The pair x at place a of these cells. -/
def PairI (w : World) (Y : Nat → Prop) (vs : List Value) (a : Nat) (x : KV) : Prop := ∃ u1 u2, vs[a * 2]? = some u1 ∧ vs[a * 2 + 1]? = some u2 ∧ SV w Y u1 x.1 ∧ SV w Y u2 x.2
section
variable {w w' : World} {Y : Nat → Prop} {g n cap base : Nat} {vs : List Value}
theorem RowIs.len (h : RowIs w g n cap vs) : vs.length = n * 2 := by
  obtain ⟨cur, _, h1, _, h2, rfl⟩ := h
  rw [List.length_take, Array.length_toList, h2]
  omega
theorem RowIs.lt (h : RowIs w g n cap vs) : g < w.heap.size := by
  obtain ⟨cur, h1, _⟩ := h
  exact (Array.getElem?_eq_some_iff.1 h1).1
theorem RowIs.keep (h : RowIs w g n cap vs) (e : w'.heap[g]? = w.heap[g]?) : RowIs w' g n cap vs := by
  obtain ⟨cur, h1, h2⟩ := h
  exact ⟨cur, e.trans h1, h2⟩
theorem RowIs.cell (h : RowIs w g n cap vs) {k : Nat} {u : Value} (hu : vs[k]? = some u) : w.cell? ⟨g, k, none⟩ = some u := by
  have hl := h.len
  obtain ⟨cur, h1, h2, h3, h4, rfl⟩ := h
  have hk := (List.getElem?_eq_some_iff.1 hu).1
  rw [cell_of_row w g k cur _ (0, 0) h1, ← hu, List.getElem?_take, if_pos (by omega)]
  simp
theorem RowIs.frozen (h : RowIs w g n cap vs) (k : Nat) : w.frozen? ⟨g, k, none⟩ = false := by
  obtain ⟨cur, h1, _⟩ := h
  exact frozen_of_row w g k _ _ h1
theorem RowIs.set2 (h : RowIs w g n cap vs) {i : Nat} (hi : i < n) (u1 u2 : Value) : RowIs ((w.setCell ⟨g, i * 2, none⟩ u1).setCell ⟨g, i * 2 + 1, none⟩ u2) g n cap ((vs.set (i * 2) u1).set (i * 2 + 1) u2) := by
  obtain ⟨cur, h1, h2, h3, h4, rfl⟩ := h
  have e1 := heap_setCell_same w g (i * 2) cur 42 u1 h1
  have e2 := heap_setCell_same _ g (i * 2 + 1) _ 42 u2 e1
  refine ⟨_, e2, h2, h3, by simpa using h4, ?_⟩
  simp only [Array.toList_setIfInBounds, List.take_set]
theorem PairI.keep {a : Nat} {x : KV} (h : PairI w Y vs a x) (ht : Touch (fun k => k = g) w w') (hY : Y g) : PairI w' Y vs a x := by
  obtain ⟨u1, u2, h1, h2, h3, h4⟩ := h
  have hk : ∀ k, k < w.heap.size → ¬ Y k → w'.heap[k]? = w.heap[k]? := fun k hk hy => ht.block k hk fun e => hy (by rw [e]; exact hY)
  exact ⟨u1, u2, h1, h2, h3.keep ht.size (fun _ _ h => h) hk, h4.keep ht.size (fun _ _ h => h) hk⟩
theorem PairI.of {us : List Value} {a : Nat} {x : KV} (h : PairI w Y vs a x) (e1 : us[a * 2]? = vs[a * 2]?) (e2 : us[a * 2 + 1]? = vs[a * 2 + 1]?) : PairI w Y us a x := by
  obtain ⟨u1, u2, h1, h2, h3⟩ := h
  exact ⟨u1, u2, e1.trans h1, e2.trans h2, h3⟩
theorem GRow.open_ {l : List KV} (h : GRow PairR 42 2 w Y base (.slice (some ⟨g, 0, none⟩) n cap) l) : n = l.length ∧ base ≤ g ∧ Y g ∧ ∃ vs, RowIs w g n cap vs ∧ ∀ a x, l[a]? = some x → PairI w Y vs a x := by
  obtain ⟨vs, h1, h2⟩ := h.row
  have hY := h.own g rfl
  rcases h1.2 with ⟨e, h0⟩ | ⟨g', cap', cur, e, hb, hg, hc, hm, hs, htake⟩
  · cases e
  · cases e
    refine ⟨rfl, hb, hY, vs, ⟨cur, hg, hc, hm, hs, htake⟩, fun a x hx => ?_⟩
    obtain ⟨u1, u2, e3, s1, s2⟩ := h2 a x hx
    refine ⟨u1, u2, ?_, ?_, s1, s2⟩
    · have : ((vs.drop (a * 2)).take 2)[0]? = some u1 := by rw [e3]; rfl
      rw [List.getElem?_take, if_pos (by decide), List.getElem?_drop] at this
      simpa using this
    · have : ((vs.drop (a * 2)).take 2)[1]? = some u2 := by rw [e3]; rfl
      rw [List.getElem?_take, if_pos (by decide), List.getElem?_drop] at this
      simpa using this
theorem take_two {vs : List Value} {k : Nat} {a b : Value} (h1 : vs[k]? = some a) (h2 : vs[k + 1]? = some b) : (vs.drop k).take 2 = [a, b] := by
  obtain ⟨l1, rfl⟩ := List.getElem?_eq_some_iff.1 h1
  obtain ⟨l2, rfl⟩ := List.getElem?_eq_some_iff.1 h2
  rw [List.drop_eq_getElem_cons l1, List.drop_eq_getElem_cons l2]
  rfl
theorem GRow.shut {l : List KV} (h : RowIs w g n cap vs) (hl : l.length ≤ n) (hb : base ≤ g) (hY : Y g) (hp : ∀ a x, l[a]? = some x → PairI w Y vs a x) : GRow PairR 42 2 w Y base (.slice (some ⟨g, 0, none⟩) l.length cap) l := by
  have hlen := h.len
  obtain ⟨cur, h1, h2, h3, h4, h5⟩ := h
  refine ⟨⟨vs.take (l.length * 2), ⟨by rw [List.length_take, hlen]; omega, .inr ⟨g, cap, cur, rfl, hb, h1, Nat.le_trans hl h2, h3, h4, by rw [← h5, List.take_take]; congr 1; omega⟩⟩, fun a x hx => ?_⟩, fun r hr => by
    simp [Value.ownBlock] at hr
    rw [← hr]
    exact hY⟩
  have ha := (List.getElem?_eq_some_iff.1 hx).1
  obtain ⟨u1, u2, e1, e2, s1, s2⟩ := hp a x hx
  exact ⟨u1, u2, take_two (by rw [List.getElem?_take, if_pos (by omega)]; exact e1) (by rw [List.getElem?_take, if_pos (by omega)]; exact e2), s1, s2⟩

/-- clear of the pairs from place i on. -/
theorem RowIs.clear_ (h : RowIs w g n cap vs) {i k : Nat} (hi : i < n) (ty : TypeId) :
    ∃ w', (Builtin.clear_ #[36] ty #[.slice (some ⟨g, i * 2, none⟩) (n - i) k]).run Tryz.prog w = .ok (.tuple #[]) w' ∧ (∃ vs', RowIs w' g n cap vs' ∧ ∀ j, j < i * 2 → vs'[j]? = vs[j]?) ∧ Touch (fun k => k = g) w w' := by
  obtain ⟨i0, hi0, hz0, hz1, hz2⟩ := info_parts info_pairG
  obtain ⟨cur, h1, h2, h3, h4, rfl⟩ := h
  have hz : (zeroValue 42).run Tryz.prog w = .ok (.agg #[.slice none 0 0, .slice none 0 0]) w := by kernel_rfl
  have hzl : (Builtin.zeroCells (Value.agg #[.slice none 0 0, .slice none 0 0]).cells (n - i)).toList.length = (n - i) * 2 := by
    rw [Array.length_toList, size_zeroCells]
    rfl
  have hone : ∀ v ∈ (Builtin.zeroCells (Value.agg #[.slice none 0 0, .slice none 0 0]).cells (n - i)).toList, v.oneCell' = true := by
    intro v hv
    have hv' : v ∈ ((Array.range ((n - i) * 2)).map fun k => #[Value.slice none 0 0, Value.slice none 0 0][k % 2]!).toList := hv
    rw [Array.toList_map] at hv'
    obtain ⟨k, _, rfl⟩ := List.mem_map.1 hv'
    have : k % 2 = 0 ∨ k % 2 = 1 := by omega
    rcases this with e | e <;> rw [e] <;> rfl
  have hst := run_storeCells_at Tryz.prog g (i * 2) 42 _ 0 cur w h1 (by rw [hzl]; omega) hone
  have hrun : (Builtin.clear_ #[36] ty #[.slice (some ⟨g, i * 2, none⟩) (n - i) k]).run Tryz.prog w = .ok (.tuple #[]) (w.setRow g (cur.toList.take (i * 2 + 0) ++ (Builtin.zeroCells (Value.agg #[.slice none 0 0, .slice none 0 0]).cells (n - i)).toList ++ cur.toList.drop (i * 2 + 0 + (Builtin.zeroCells (Value.agg #[.slice none 0 0, .slice none 0 0]).cells (n - i)).toList.length)).toArray) := by
    obtain ⟨k', hk'⟩ : ∃ k', n - i = k' + 1 := ⟨n - i - 1, by omega⟩
    rw [hk'] at hst ⊢
    simp only [Builtin.clear_]
    simp only [List.getElem?_toArray, List.getElem?_cons_zero]
    simp only [Sem.run_bind, run_underlying Tryz.underlying36, hz, Result.andThen]
    rw [hst]
    rfl
  generalize (Builtin.zeroCells (Value.agg #[.slice none 0 0, .slice none 0 0]).cells (n - i)).toList = C at hrun hzl
  refine ⟨_, hrun, ⟨_, ⟨_, setRow_heap w g cur _ 42 _ h1, h2, h3, ?_, rfl⟩, fun j hj => ?_⟩, ⟨rfl, rfl, rfl, by simp [World.setRow], fun k hk hne => setRow_other w g k _ (fun e => hne e)⟩⟩
  · rw [List.size_toArray, List.length_append, List.length_append, hzl, List.length_take, List.length_drop, Array.length_toList]
    omega
  · rw [List.append_assoc, List.getElem?_take, if_pos (by omega), List.getElem?_append_left (by rw [List.length_take, Array.length_toList]; omega), List.getElem?_take, if_pos (by omega), List.getElem?_take, if_pos (by omega)]
end

end Go.Proofs.YtbhjmplhmoikbaaGreat
