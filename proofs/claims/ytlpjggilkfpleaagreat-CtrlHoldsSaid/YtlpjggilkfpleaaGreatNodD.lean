/-
  The library's IndexFunc and DeleteFunc over nodes, with a closure that says of each node whether it goes; slices.Equal over nodes. Condition: fewer than 2^32 nodes; what the closure says.
-/
import Derived.Test.YtlpjggilkfpleaaGreatNodA
import Derived.Test.YtlpjggilkfpleaaGreatViewC
namespace Go.Proofs.YtlpjggilkfpleaaGreat
open Go.RowKit Go.Maps
set_option maxRecDepth 100000
set_option linter.unusedVariables false

/-- The function value says P of each node, while no block but g is written. -/
def ChdN (w : World) (g : Nat) (fid : FuncId) (fv : Array Value) (P : Nd → Bool) : Prop := ∀ (W : World) (x : Nd), Touch (fun k => k = g) w W → Calls Tryz.prog fid (#[.agg #[.int .i64 x.y, .int .i64 x.i, .int .i64 x.p, .int .i64 x.f, .int .i64 x.o, .bool x.ab, .int .i64 x.li, .int .i64 x.pr, .int .i64 x.en, .int .i64 x.ex, .int .i64 x.la, .int .i64 x.ca]] ++ fv) W fun e w' => e = .returned (.bool (P x)) ∧ Below W.heap.size W w'
/-- The slice at block g: its cells. -/
def RowNd (w : World) (g n cap : Nat) (vs : List Value) : Prop := ∃ cur : Array Value, w.heap[g]? = some (.cells cur 23 (0, 0)) ∧ n ≤ cap ∧ cap ≤ maxLen ∧ cur.size = cap * 12 ∧ cur.toList.take (n * 12) = vs
/-- The node x at place a of these cells. -/
def NdI (vs : List Value) (a : Nat) (x : Nd) : Prop := ∀ k, k < 12 → vs[a * 12 + k]? = (ndV x)[k]?
section
variable {w w' : World} {g n cap base : Nat} {vs : List Value} {l : List Nd} {P : Nd → Bool}
theorem RowNd.len (h : RowNd w g n cap vs) : vs.length = n * 12 := by
  obtain ⟨cur, _, h1, _, h2, rfl⟩ := h
  rw [List.length_take, Array.length_toList, h2]
  omega
theorem RowNd.lt (h : RowNd w g n cap vs) : g < w.heap.size := by
  obtain ⟨cur, h1, _⟩ := h
  exact (Array.getElem?_eq_some_iff.1 h1).1
theorem RowNd.keep (h : RowNd w g n cap vs) (e : w'.heap[g]? = w.heap[g]?) : RowNd w' g n cap vs := by
  obtain ⟨cur, h1, h2⟩ := h
  exact ⟨cur, e.trans h1, h2⟩
theorem RowNd.cell (h : RowNd w g n cap vs) {k : Nat} {u : Value} (hu : vs[k]? = some u) : w.cell? ⟨g, k, none⟩ = some u := by
  have hl := h.len
  obtain ⟨cur, h1, h2, h3, h4, rfl⟩ := h
  have hk := (List.getElem?_eq_some_iff.1 hu).1
  rw [cell_of_row w g k cur _ (0, 0) h1, ← hu, List.getElem?_take, if_pos (by omega)]
  simp
theorem RowNd.at_ (h : RowNd w g n cap vs) {a : Nat} {x : Nd} (hx : NdI vs a x) : NdE.At w g (a * 12) x := fun k hk => by
  have h1 := hx k hk
  have h2 : (ndV x)[k]? = some ((ndV x)[k]'hk) := List.getElem?_eq_getElem hk
  rw [h2] at h1
  show _ = (ndV x)[k]?
  rw [h2]
  exact h.cell h1
theorem RowNd.frozen (h : RowNd w g n cap vs) (k : Nat) : w.frozen? ⟨g, k, none⟩ = false := by
  obtain ⟨cur, h1, _⟩ := h
  exact frozen_of_row w g k _ _ h1
def setNd (vs : List Value) (i : Nat) (x : Nd) : List Value := ((((((((((((vs.set (i * 12) (.int .i64 x.y)).set (i * 12 + 1) (.int .i64 x.i)).set (i * 12 + 2) (.int .i64 x.p)).set (i * 12 + 3) (.int .i64 x.f)).set (i * 12 + 4) (.int .i64 x.o)).set (i * 12 + 5) (.bool x.ab)).set (i * 12 + 6) (.int .i64 x.li)).set (i * 12 + 7) (.int .i64 x.pr)).set (i * 12 + 8) (.int .i64 x.en)).set (i * 12 + 9) (.int .i64 x.ex)).set (i * 12 + 10) (.int .i64 x.la)).set (i * 12 + 11) (.int .i64 x.ca))
theorem RowNd.set12 (h : RowNd w g n cap vs) {i : Nat} (hi : i < n) (x : Nd) : RowNd ((((((((((((w.setCell ⟨g, i * 12, none⟩ (.int .i64 x.y)).setCell ⟨g, i * 12 + 1, none⟩ (.int .i64 x.i)).setCell ⟨g, i * 12 + 2, none⟩ (.int .i64 x.p)).setCell ⟨g, i * 12 + 3, none⟩ (.int .i64 x.f)).setCell ⟨g, i * 12 + 4, none⟩ (.int .i64 x.o)).setCell ⟨g, i * 12 + 5, none⟩ (.bool x.ab)).setCell ⟨g, i * 12 + 6, none⟩ (.int .i64 x.li)).setCell ⟨g, i * 12 + 7, none⟩ (.int .i64 x.pr)).setCell ⟨g, i * 12 + 8, none⟩ (.int .i64 x.en)).setCell ⟨g, i * 12 + 9, none⟩ (.int .i64 x.ex)).setCell ⟨g, i * 12 + 10, none⟩ (.int .i64 x.la)).setCell ⟨g, i * 12 + 11, none⟩ (.int .i64 x.ca)) g n cap (setNd vs i x) := by
  obtain ⟨cur, h1, h2, h3, h4, rfl⟩ := h
  have e0 := heap_setCell_same _ g (i * 12) _ 23 (.int .i64 x.y) h1
  have e1 := heap_setCell_same _ g (i * 12 + 1) _ 23 (.int .i64 x.i) e0
  have e2 := heap_setCell_same _ g (i * 12 + 2) _ 23 (.int .i64 x.p) e1
  have e3 := heap_setCell_same _ g (i * 12 + 3) _ 23 (.int .i64 x.f) e2
  have e4 := heap_setCell_same _ g (i * 12 + 4) _ 23 (.int .i64 x.o) e3
  have e5 := heap_setCell_same _ g (i * 12 + 5) _ 23 (.bool x.ab) e4
  have e6 := heap_setCell_same _ g (i * 12 + 6) _ 23 (.int .i64 x.li) e5
  have e7 := heap_setCell_same _ g (i * 12 + 7) _ 23 (.int .i64 x.pr) e6
  have e8 := heap_setCell_same _ g (i * 12 + 8) _ 23 (.int .i64 x.en) e7
  have e9 := heap_setCell_same _ g (i * 12 + 9) _ 23 (.int .i64 x.ex) e8
  have e10 := heap_setCell_same _ g (i * 12 + 10) _ 23 (.int .i64 x.la) e9
  have e11 := heap_setCell_same _ g (i * 12 + 11) _ 23 (.int .i64 x.ca) e10
  refine ⟨_, e11, h2, h3, by simpa using h4, ?_⟩
  unfold setNd
  simp only [Array.toList_setIfInBounds, List.take_set]
theorem setNd_len (vs : List Value) (i : Nat) (x : Nd) : (setNd vs i x).length = vs.length := by unfold setNd; simp only [List.length_set]
theorem setNd_other {vs : List Value} {i a : Nat} {x y : Nd} (h : NdI vs a y) (ha : a ≠ i) : NdI (setNd vs i x) a y := fun k hk => by
  have q : ∀ j, j < 12 → i * 12 + j ≠ a * 12 + k := fun j hj => by omega
  have q0 : i * 12 ≠ a * 12 + k := by omega
  have h0 := h k hk
  generalize a * 12 + k = z at q q0 h0 ⊢
  unfold setNd
  rw [List.getElem?_set_ne (q 11 (by decide)), List.getElem?_set_ne (q 10 (by decide)), List.getElem?_set_ne (q 9 (by decide)), List.getElem?_set_ne (q 8 (by decide)), List.getElem?_set_ne (q 7 (by decide)), List.getElem?_set_ne (q 6 (by decide)), List.getElem?_set_ne (q 5 (by decide)), List.getElem?_set_ne (q 4 (by decide)), List.getElem?_set_ne (q 3 (by decide)), List.getElem?_set_ne (q 2 (by decide)), List.getElem?_set_ne (q 1 (by decide)), List.getElem?_set_ne q0]
  exact h0
theorem setNd_same {vs : List Value} {i n : Nat} (x : Nd) (hl : vs.length = n * 12) (hi : i < n) : NdI (setNd vs i x) i x := fun k hk => by
  have hk : k = 0 ∨ k = 1 ∨ k = 2 ∨ k = 3 ∨ k = 4 ∨ k = 5 ∨ k = 6 ∨ k = 7 ∨ k = 8 ∨ k = 9 ∨ k = 10 ∨ k = 11 := by omega
  have hlen : ∀ j, j < 12 → i * 12 + j < vs.length := fun j hj => by omega
  have h0 : i * 12 < vs.length := by omega
  unfold setNd
  generalize i * 12 = z at hlen h0 ⊢
  rcases hk with rfl | rfl | rfl | rfl | rfl | rfl | rfl | rfl | rfl | rfl | rfl | rfl
  · rw [List.getElem?_set_ne (by omega), List.getElem?_set_ne (by omega), List.getElem?_set_ne (by omega), List.getElem?_set_ne (by omega), List.getElem?_set_ne (by omega), List.getElem?_set_ne (by omega), List.getElem?_set_ne (by omega), List.getElem?_set_ne (by omega), List.getElem?_set_ne (by omega), List.getElem?_set_ne (by omega), List.getElem?_set_ne (by omega)]; exact List.getElem?_set_self (by exact h0)
  · rw [List.getElem?_set_ne (by omega), List.getElem?_set_ne (by omega), List.getElem?_set_ne (by omega), List.getElem?_set_ne (by omega), List.getElem?_set_ne (by omega), List.getElem?_set_ne (by omega), List.getElem?_set_ne (by omega), List.getElem?_set_ne (by omega), List.getElem?_set_ne (by omega), List.getElem?_set_ne (by omega)]; exact List.getElem?_set_self (by simp only [List.length_set]; exact hlen 1 (by decide))
  · rw [List.getElem?_set_ne (by omega), List.getElem?_set_ne (by omega), List.getElem?_set_ne (by omega), List.getElem?_set_ne (by omega), List.getElem?_set_ne (by omega), List.getElem?_set_ne (by omega), List.getElem?_set_ne (by omega), List.getElem?_set_ne (by omega), List.getElem?_set_ne (by omega)]; exact List.getElem?_set_self (by simp only [List.length_set]; exact hlen 2 (by decide))
  · rw [List.getElem?_set_ne (by omega), List.getElem?_set_ne (by omega), List.getElem?_set_ne (by omega), List.getElem?_set_ne (by omega), List.getElem?_set_ne (by omega), List.getElem?_set_ne (by omega), List.getElem?_set_ne (by omega), List.getElem?_set_ne (by omega)]; exact List.getElem?_set_self (by simp only [List.length_set]; exact hlen 3 (by decide))
  · rw [List.getElem?_set_ne (by omega), List.getElem?_set_ne (by omega), List.getElem?_set_ne (by omega), List.getElem?_set_ne (by omega), List.getElem?_set_ne (by omega), List.getElem?_set_ne (by omega), List.getElem?_set_ne (by omega)]; exact List.getElem?_set_self (by simp only [List.length_set]; exact hlen 4 (by decide))
  · rw [List.getElem?_set_ne (by omega), List.getElem?_set_ne (by omega), List.getElem?_set_ne (by omega), List.getElem?_set_ne (by omega), List.getElem?_set_ne (by omega), List.getElem?_set_ne (by omega)]; exact List.getElem?_set_self (by simp only [List.length_set]; exact hlen 5 (by decide))
  · rw [List.getElem?_set_ne (by omega), List.getElem?_set_ne (by omega), List.getElem?_set_ne (by omega), List.getElem?_set_ne (by omega), List.getElem?_set_ne (by omega)]; exact List.getElem?_set_self (by simp only [List.length_set]; exact hlen 6 (by decide))
  · rw [List.getElem?_set_ne (by omega), List.getElem?_set_ne (by omega), List.getElem?_set_ne (by omega), List.getElem?_set_ne (by omega)]; exact List.getElem?_set_self (by simp only [List.length_set]; exact hlen 7 (by decide))
  · rw [List.getElem?_set_ne (by omega), List.getElem?_set_ne (by omega), List.getElem?_set_ne (by omega)]; exact List.getElem?_set_self (by simp only [List.length_set]; exact hlen 8 (by decide))
  · rw [List.getElem?_set_ne (by omega), List.getElem?_set_ne (by omega)]; exact List.getElem?_set_self (by simp only [List.length_set]; exact hlen 9 (by decide))
  · rw [List.getElem?_set_ne (by omega)]; exact List.getElem?_set_self (by simp only [List.length_set]; exact hlen 10 (by decide))
  · exact List.getElem?_set_self (by simp only [List.length_set]; exact hlen 11 (by decide))
theorem touch_oneN (w : World) (g o : Nat) (u : Value) : Touch (fun k => k = g) w (w.setCell ⟨g, o, none⟩ u) :=
  ⟨rfl, rfl, rfl, by simp [World.setCell], fun k _ hne => Below.heap_setCell _ _ _ _ (by simpa using hne)⟩
theorem touch_set12 (w : World) (g o : Nat) (x : Nd) : Touch (fun k => k = g) w ((((((((((((w.setCell ⟨g, o, none⟩ (.int .i64 x.y)).setCell ⟨g, o + 1, none⟩ (.int .i64 x.i)).setCell ⟨g, o + 2, none⟩ (.int .i64 x.p)).setCell ⟨g, o + 3, none⟩ (.int .i64 x.f)).setCell ⟨g, o + 4, none⟩ (.int .i64 x.o)).setCell ⟨g, o + 5, none⟩ (.bool x.ab)).setCell ⟨g, o + 6, none⟩ (.int .i64 x.li)).setCell ⟨g, o + 7, none⟩ (.int .i64 x.pr)).setCell ⟨g, o + 8, none⟩ (.int .i64 x.en)).setCell ⟨g, o + 9, none⟩ (.int .i64 x.ex)).setCell ⟨g, o + 10, none⟩ (.int .i64 x.la)).setCell ⟨g, o + 11, none⟩ (.int .i64 x.ca)) :=
  (((((((((((touch_oneN _ _ _ _).trans (touch_oneN _ _ _ _)).trans (touch_oneN _ _ _ _)).trans (touch_oneN _ _ _ _)).trans (touch_oneN _ _ _ _)).trans (touch_oneN _ _ _ _)).trans (touch_oneN _ _ _ _)).trans (touch_oneN _ _ _ _)).trans (touch_oneN _ _ _ _)).trans (touch_oneN _ _ _ _)).trans (touch_oneN _ _ _ _)).trans (touch_oneN _ _ _ _)

def stayN (P : Nd → Bool) (l : List Nd) (j : Nat) : List Nd := (l.take j).filter fun x => !P x
theorem stayN_succ {P : Nd → Bool} {l : List Nd} {j : Nat} {x : Nd} (hx : l[j]? = some x) : stayN P l (j + 1) = if P x then stayN P l j else stayN P l j ++ [x] := by
  obtain ⟨hi, rfl⟩ := List.getElem?_eq_some_iff.1 hx
  unfold stayN
  rw [List.take_succ_eq_append_getElem hi, List.filter_append]
  cases h : P l[j] <;> simp [h]
/-- Where DeleteFunc stands: the first j nodes were looked at. -/
def DelN (w wr : World) (g n cap : Nat) (P : Nd → Bool) (l : List Nd) (j : Nat) : Prop :=
  ∃ vs, RowNd wr g n cap vs ∧ (∀ a x, (stayN P l j)[a]? = some x → NdI vs a x) ∧ (∀ a x, j ≤ a → l[a]? = some x → NdI vs a x) ∧ Touch (fun k => k = g) w wr
theorem DelN.touch {wr wr' : World} {j : Nat} (h : DelN w wr g n cap P l j) (hb : Below wr.heap.size wr wr') : DelN w wr' g n cap P l j := by
  obtain ⟨vs, h1, h2, h3, h4⟩ := h
  exact ⟨vs, h1.keep (hb.block g h1.lt), h2, h3, h4.trans (Touch.of_below hb)⟩
theorem DelN.drop {wr : World} {j : Nat} {x : Nd} (h : DelN w wr g n cap P l j) (hx : l[j]? = some x) (hp : P x = true) : DelN w wr g n cap P l (j + 1) := by
  obtain ⟨vs, h1, h2, h3, h4⟩ := h
  refine ⟨vs, h1, fun a y hy => h2 a y ?_, fun a y ha hy => h3 a y (by omega) hy, h4⟩
  rw [stayN_succ hx, if_pos hp] at hy
  exact hy
theorem DelN.move {wr : World} {j i : Nat} {x : Nd} (h : DelN w wr g n cap P l j) (hx : l[j]? = some x) (hp : P x = false) (hi : (stayN P l j).length = i) (hij : i < j) (hjn : j < n) :
    DelN w ((((((((((((wr.setCell ⟨g, i * 12, none⟩ (.int .i64 x.y)).setCell ⟨g, i * 12 + 1, none⟩ (.int .i64 x.i)).setCell ⟨g, i * 12 + 2, none⟩ (.int .i64 x.p)).setCell ⟨g, i * 12 + 3, none⟩ (.int .i64 x.f)).setCell ⟨g, i * 12 + 4, none⟩ (.int .i64 x.o)).setCell ⟨g, i * 12 + 5, none⟩ (.bool x.ab)).setCell ⟨g, i * 12 + 6, none⟩ (.int .i64 x.li)).setCell ⟨g, i * 12 + 7, none⟩ (.int .i64 x.pr)).setCell ⟨g, i * 12 + 8, none⟩ (.int .i64 x.en)).setCell ⟨g, i * 12 + 9, none⟩ (.int .i64 x.ex)).setCell ⟨g, i * 12 + 10, none⟩ (.int .i64 x.la)).setCell ⟨g, i * 12 + 11, none⟩ (.int .i64 x.ca)) g n cap P l (j + 1) := by
  obtain ⟨vs, h1, h2, h3, h4⟩ := h
  have hlen := h1.len
  refine ⟨_, h1.set12 (by omega) x, fun a y hy => ?_, fun a y ha hy => setNd_other (h3 a y (by omega) hy) (by omega), h4.trans (touch_set12 wr g (i * 12) x)⟩
  rw [stayN_succ hx, if_neg (by rw [hp]; decide)] at hy
  rcases Nat.lt_or_ge a i with h' | h'
  · rw [List.getElem?_append_left (by omega)] at hy
    exact setNd_other (h2 a y hy) (by omega)
  · rw [List.getElem?_append_right (by omega)] at hy
    have ha0 : a - (stayN P l j).length = 0 := by
      have := (List.getElem?_eq_some_iff.1 hy).1
      simp at this
      omega
    rw [ha0] at hy
    obtain rfl : x = y := by simpa using hy
    obtain rfl : a = i := by omega
    exact setNd_same x hlen (by omega)
theorem RowNd.clear_ (h : RowNd w g n cap vs) {i k : Nat} (hi : i < n) (ty : TypeId) :
    ∃ w', (Builtin.clear_ #[29] ty #[.slice (some ⟨g, i * 12, none⟩) (n - i) k]).run Tryz.prog w = .ok (.tuple #[]) w' ∧ (∃ vs', RowNd w' g n cap vs' ∧ ∀ j, j < i * 12 → vs'[j]? = vs[j]?) ∧ Touch (fun k => k = g) w w' := by
  obtain ⟨cur, h1, h2, h3, h4, rfl⟩ := h
  have hz : (zeroValue 23).run Tryz.prog w = .ok (.agg #[.int .i64 0, .int .i64 0, .int .i64 0, .int .i64 0, .int .i64 0, .bool false, .int .i64 0, .int .i64 0, .int .i64 0, .int .i64 0, .int .i64 0, .int .i64 0]) w := by kernel_rfl
  have hzl : (Builtin.zeroCells (Value.agg #[.int .i64 0, .int .i64 0, .int .i64 0, .int .i64 0, .int .i64 0, .bool false, .int .i64 0, .int .i64 0, .int .i64 0, .int .i64 0, .int .i64 0, .int .i64 0]).cells (n - i)).toList.length = (n - i) * 12 := by
    rw [Array.length_toList, size_zeroCells]
    rfl
  have hone : ∀ v ∈ (Builtin.zeroCells (Value.agg #[.int .i64 0, .int .i64 0, .int .i64 0, .int .i64 0, .int .i64 0, .bool false, .int .i64 0, .int .i64 0, .int .i64 0, .int .i64 0, .int .i64 0, .int .i64 0]).cells (n - i)).toList, v.oneCell' = true := by
    intro v hv
    have hv' : v ∈ ((Array.range ((n - i) * 12)).map fun k => (#[.int .i64 0, .int .i64 0, .int .i64 0, .int .i64 0, .int .i64 0, .bool false, .int .i64 0, .int .i64 0, .int .i64 0, .int .i64 0, .int .i64 0, .int .i64 0] : Array Value)[k % 12]!).toList := hv
    rw [Array.toList_map] at hv'
    obtain ⟨k, _, rfl⟩ := List.mem_map.1 hv'
    have : k % 12 = 0 ∨ k % 12 = 1 ∨ k % 12 = 2 ∨ k % 12 = 3 ∨ k % 12 = 4 ∨ k % 12 = 5 ∨ k % 12 = 6 ∨ k % 12 = 7 ∨ k % 12 = 8 ∨ k % 12 = 9 ∨ k % 12 = 10 ∨ k % 12 = 11 := by omega
    rcases this with e | e | e | e | e | e | e | e | e | e | e | e <;> rw [e] <;> rfl
  have hst := run_storeCells_at Tryz.prog g (i * 12) 23 _ 0 cur w h1 (by rw [hzl]; omega) hone
  have hrun : (Builtin.clear_ #[29] ty #[.slice (some ⟨g, i * 12, none⟩) (n - i) k]).run Tryz.prog w = .ok (.tuple #[]) (w.setRow g (cur.toList.take (i * 12 + 0) ++ (Builtin.zeroCells (Value.agg #[.int .i64 0, .int .i64 0, .int .i64 0, .int .i64 0, .int .i64 0, .bool false, .int .i64 0, .int .i64 0, .int .i64 0, .int .i64 0, .int .i64 0, .int .i64 0]).cells (n - i)).toList ++ cur.toList.drop (i * 12 + 0 + (Builtin.zeroCells (Value.agg #[.int .i64 0, .int .i64 0, .int .i64 0, .int .i64 0, .int .i64 0, .bool false, .int .i64 0, .int .i64 0, .int .i64 0, .int .i64 0, .int .i64 0, .int .i64 0]).cells (n - i)).toList.length)).toArray) := by
    obtain ⟨k', hk'⟩ : ∃ k', n - i = k' + 1 := ⟨n - i - 1, by omega⟩
    rw [hk'] at hst ⊢
    simp only [Builtin.clear_]
    simp only [List.getElem?_toArray, List.getElem?_cons_zero]
    simp only [Sem.run_bind, run_underlying Tryz.underlying29, hz, Result.andThen]
    rw [hst]
    rfl
  generalize (Builtin.zeroCells (Value.agg #[.int .i64 0, .int .i64 0, .int .i64 0, .int .i64 0, .int .i64 0, .bool false, .int .i64 0, .int .i64 0, .int .i64 0, .int .i64 0, .int .i64 0, .int .i64 0]).cells (n - i)).toList = C at hrun hzl
  refine ⟨_, hrun, ⟨_, ⟨_, setRow_heap w g cur _ 23 _ h1, h2, h3, ?_, rfl⟩, fun j hj => ?_⟩, ⟨rfl, rfl, rfl, by simp [World.setRow], fun k hk hne => setRow_other w g k _ (fun e => hne e)⟩⟩
  · rw [List.size_toArray, List.length_append, List.length_append, hzl, List.length_take, List.length_drop, Array.length_toList]
    omega
  · rw [List.append_assoc, List.getElem?_take, if_pos (by omega), List.getElem?_append_left (by rw [List.length_take, Array.length_toList]; omega), List.getElem?_take, if_pos (by omega), List.getElem?_take, if_pos (by omega)]
theorem own_rowNd {v : Value} (h : NdE.Own 23 w base (.slice (some ⟨g, 0, none⟩) n cap) l) : l.length = n ∧ base ≤ g ∧ RowNd w g n cap (NdE.all l) := by
  rcases h.2 with ⟨e, _⟩ | ⟨g', cap', cur, e, hb, hg, hc, hm, hs, ht⟩
  · cases e
  · cases e
    exact ⟨rfl, hb, cur, hg, hc, hm, hs, ht⟩
theorem rowNd_own (h : RowNd w g n cap vs) {k : Nat} (hk : l.length = k) (hkn : k ≤ n) (hb : base ≤ g) (hvs : ∀ a x, l[a]? = some x → NdI vs a x) : NdE.Own 23 w base (.slice (some ⟨g, 0, none⟩) k cap) l := by
  have hlen := h.len
  obtain ⟨cur, h1, h2, h3, h4, rfl⟩ := h
  subst hk
  refine ⟨Enc.all_length l, .inr ⟨g, cap, cur, rfl, hb, h1, Nat.le_trans hkn h2, h3, h4, ?_⟩⟩
  apply List.ext_getElem?
  intro j
  show (cur.toList.take (l.length * 12))[j]? = _
  rcases Nat.lt_or_ge j (l.length * 12) with hj | hj
  · obtain ⟨x, hx⟩ : ∃ x, l[j / 12]? = some x := ⟨_, List.getElem?_eq_getElem (by omega)⟩
    have e1 := hvs (j / 12) x hx (j % 12) (by omega)
    have e2 := Enc.all_at (E := NdE) hx (j % 12) (show j % 12 < 12 by omega)
    rw [show j / 12 * NdE.K + j % 12 = j by show j / 12 * 12 + j % 12 = j; omega] at e2
    rw [show j / 12 * 12 + j % 12 = j by omega] at e1
    rw [e2, List.getElem?_take, if_pos hj]
    rw [List.getElem?_take, if_pos (by omega)] at e1
    exact e1
  · rw [List.getElem?_eq_none (by rw [List.length_take]; omega), List.getElem?_eq_none (by rw [Enc.all_length]; exact hj)]
end

section
variable {w w' : World} {A A' : Option Addr} {n m k B B' : Nat} {l l' : List Nd}
theorem below_drewNd {B : Nat} {w w' : World} (h : Below B w w') : ∀ n, Below B w (w'.drewN n) := fun n => ⟨h.os, h.tape, h.output, h.size, h.block⟩
end
end Go.Proofs.YtlpjggilkfpleaaGreat
