/-
  The texts TreB, NodD, TreC joined. Conditions: those that each part says at its head.
-/
import Derived.Test.YtlcbmobdokicaaaGreatTreA
import Derived.Test.YtlcbmobdokicaaaGreatViewN
import Derived.Test.YtlcbmobdokicaaaGreatManS
import Derived.Lib.AppendZeros
import Derived.StillTailTactics
import Derived.Test.YtlcbmobdokicaaaGreatTreP
import Derived.Test.YtlcbmobdokicaaaGreatViewC
import Derived.WalkMore

/-
  Contracts of tree over a view in memory: a year's nodes, those below one, the path above one, what limits are together. Conditions: which numbers are ints; what a scan comes to.
-/

namespace Go.Proofs.YtlcbmobdokicaaaGreat
open Go.RowKit Go.Maps
set_option maxRecDepth 100000
set_option linter.unusedVariables false

/-- A row of nodes that a call built. -/
def NodesR (w w' : World) (u : Value) (l : List Nd) : Prop := NdE.Own 41 w' w.heap.size u l ∧ (∀ x ∈ l, NdOk x) ∧ Below w.heap.size w w'
section
variable {w w' : World} {v : Nat}
end
end Go.Proofs.YtlcbmobdokicaaaGreat

/-
  The library's IndexFunc and DeleteFunc over nodes, with a closure that says of each node whether it goes; slices.Equal over nodes. Condition: fewer than 2^32 nodes; what the closure says.
-/
namespace Go.Proofs.YtlcbmobdokicaaaGreat
open Go.RowKit Go.Maps
set_option maxRecDepth 100000
set_option linter.unusedVariables false

/-- The slice at block g: its cells. -/
def RowNd (w : World) (g n cap : Nat) (vs : List Value) : Prop := ∃ cur : Array Value, w.heap[g]? = some (.cells cur 41 (0, 0)) ∧ n ≤ cap ∧ cap ≤ maxLen ∧ cur.size = cap * 12 ∧ cur.toList.take (n * 12) = vs
/-- The node x at place a of these cells. -/
def NdI (vs : List Value) (a : Nat) (x : Nd) : Prop := ∀ k, k < 12 → vs[a * 12 + k]? = (ndV x)[k]?
section
variable {w w' : World} {g n cap base : Nat} {vs : List Value} {l : List Nd} {P : Nd → Bool}
theorem RowNd.len (h : RowNd w g n cap vs) : vs.length = n * 12 := by
  obtain ⟨cur, _, h1, _, h2, rfl⟩ := h
  rw [List.length_take, Array.length_toList, h2]
  omega
theorem RowNd.lt (h : RowNd w g n cap vs) : g < w.heap.size := by
  obtain ⟨cur, h1, _⟩ := h
  exact (Array.getElem?_eq_some_iff.1 h1).1
theorem RowNd.keep (h : RowNd w g n cap vs) (e : w'.heap[g]? = w.heap[g]?) : RowNd w' g n cap vs := by
  obtain ⟨cur, h1, h2⟩ := h
  exact ⟨cur, e.trans h1, h2⟩
theorem RowNd.cell (h : RowNd w g n cap vs) {k : Nat} {u : Value} (hu : vs[k]? = some u) : w.cell? ⟨g, k, none⟩ = some u := by
  have hl := h.len
  obtain ⟨cur, h1, h2, h3, h4, rfl⟩ := h
  have hk := (List.getElem?_eq_some_iff.1 hu).1
  rw [cell_of_row w g k cur _ (0, 0) h1, ← hu, List.getElem?_take, if_pos (by omega)]
  simp
theorem RowNd.at_ (h : RowNd w g n cap vs) {a : Nat} {x : Nd} (hx : NdI vs a x) : NdE.At w g (a * 12) x := fun k hk => by
  have h1 := hx k hk
  have h2 : (ndV x)[k]? = some ((ndV x)[k]'hk) := List.getElem?_eq_getElem hk
  rw [h2] at h1
  show _ = (ndV x)[k]?
  rw [h2]
  exact h.cell h1
theorem RowNd.frozen (h : RowNd w g n cap vs) (k : Nat) : w.frozen? ⟨g, k, none⟩ = false := by
  obtain ⟨cur, h1, _⟩ := h
  exact frozen_of_row w g k _ _ h1
def setNd (vs : List Value) (i : Nat) (x : Nd) : List Value := ((((((((((((vs.set (i * 12) (.int .i64 x.y)).set (i * 12 + 1) (.int .i64 x.i)).set (i * 12 + 2) (.int .i64 x.p)).set (i * 12 + 3) (.int .i64 x.f)).set (i * 12 + 4) (.int .i64 x.o)).set (i * 12 + 5) (.bool x.ab)).set (i * 12 + 6) (.int .i64 x.li)).set (i * 12 + 7) (.int .i64 x.pr)).set (i * 12 + 8) (.int .i64 x.en)).set (i * 12 + 9) (.int .i64 x.ex)).set (i * 12 + 10) (.int .i64 x.la)).set (i * 12 + 11) (.int .i64 x.ca))
theorem RowNd.set12 (h : RowNd w g n cap vs) {i : Nat} (hi : i < n) (x : Nd) : RowNd ((((((((((((w.setCell ⟨g, i * 12, none⟩ (.int .i64 x.y)).setCell ⟨g, i * 12 + 1, none⟩ (.int .i64 x.i)).setCell ⟨g, i * 12 + 2, none⟩ (.int .i64 x.p)).setCell ⟨g, i * 12 + 3, none⟩ (.int .i64 x.f)).setCell ⟨g, i * 12 + 4, none⟩ (.int .i64 x.o)).setCell ⟨g, i * 12 + 5, none⟩ (.bool x.ab)).setCell ⟨g, i * 12 + 6, none⟩ (.int .i64 x.li)).setCell ⟨g, i * 12 + 7, none⟩ (.int .i64 x.pr)).setCell ⟨g, i * 12 + 8, none⟩ (.int .i64 x.en)).setCell ⟨g, i * 12 + 9, none⟩ (.int .i64 x.ex)).setCell ⟨g, i * 12 + 10, none⟩ (.int .i64 x.la)).setCell ⟨g, i * 12 + 11, none⟩ (.int .i64 x.ca)) g n cap (setNd vs i x) := by
  obtain ⟨cur, h1, h2, h3, h4, rfl⟩ := h
  have e0 := heap_setCell_same _ g (i * 12) _ 41 (.int .i64 x.y) h1
  have e1 := heap_setCell_same _ g (i * 12 + 1) _ 41 (.int .i64 x.i) e0
  have e2 := heap_setCell_same _ g (i * 12 + 2) _ 41 (.int .i64 x.p) e1
  have e3 := heap_setCell_same _ g (i * 12 + 3) _ 41 (.int .i64 x.f) e2
  have e4 := heap_setCell_same _ g (i * 12 + 4) _ 41 (.int .i64 x.o) e3
  have e5 := heap_setCell_same _ g (i * 12 + 5) _ 41 (.bool x.ab) e4
  have e6 := heap_setCell_same _ g (i * 12 + 6) _ 41 (.int .i64 x.li) e5
  have e7 := heap_setCell_same _ g (i * 12 + 7) _ 41 (.int .i64 x.pr) e6
  have e8 := heap_setCell_same _ g (i * 12 + 8) _ 41 (.int .i64 x.en) e7
  have e9 := heap_setCell_same _ g (i * 12 + 9) _ 41 (.int .i64 x.ex) e8
  have e10 := heap_setCell_same _ g (i * 12 + 10) _ 41 (.int .i64 x.la) e9
  have e11 := heap_setCell_same _ g (i * 12 + 11) _ 41 (.int .i64 x.ca) e10
  refine ⟨_, e11, h2, h3, by simpa using h4, ?_⟩
  unfold setNd
  simp only [Array.toList_setIfInBounds, List.take_set]
theorem setNd_other {vs : List Value} {i a : Nat} {x y : Nd} (h : NdI vs a y) (ha : a ≠ i) : NdI (setNd vs i x) a y := fun k hk => by
  have q : ∀ j, j < 12 → i * 12 + j ≠ a * 12 + k := fun j hj => by omega
  have q0 : i * 12 ≠ a * 12 + k := by omega
  have h0 := h k hk
  generalize a * 12 + k = z at q q0 h0 ⊢
  unfold setNd
  rw [List.getElem?_set_ne (q 11 (by decide)), List.getElem?_set_ne (q 10 (by decide)), List.getElem?_set_ne (q 9 (by decide)), List.getElem?_set_ne (q 8 (by decide)), List.getElem?_set_ne (q 7 (by decide)), List.getElem?_set_ne (q 6 (by decide)), List.getElem?_set_ne (q 5 (by decide)), List.getElem?_set_ne (q 4 (by decide)), List.getElem?_set_ne (q 3 (by decide)), List.getElem?_set_ne (q 2 (by decide)), List.getElem?_set_ne (q 1 (by decide)), List.getElem?_set_ne q0]
  exact h0
theorem setNd_same {vs : List Value} {i n : Nat} (x : Nd) (hl : vs.length = n * 12) (hi : i < n) : NdI (setNd vs i x) i x := fun k hk => by
  have hk : k = 0 ∨ k = 1 ∨ k = 2 ∨ k = 3 ∨ k = 4 ∨ k = 5 ∨ k = 6 ∨ k = 7 ∨ k = 8 ∨ k = 9 ∨ k = 10 ∨ k = 11 := by omega
  have hlen : ∀ j, j < 12 → i * 12 + j < vs.length := fun j hj => by omega
  have h0 : i * 12 < vs.length := by omega
  unfold setNd
  generalize i * 12 = z at hlen h0 ⊢
  rcases hk with rfl | rfl | rfl | rfl | rfl | rfl | rfl | rfl | rfl | rfl | rfl | rfl
  · rw [List.getElem?_set_ne (by omega), List.getElem?_set_ne (by omega), List.getElem?_set_ne (by omega), List.getElem?_set_ne (by omega), List.getElem?_set_ne (by omega), List.getElem?_set_ne (by omega), List.getElem?_set_ne (by omega), List.getElem?_set_ne (by omega), List.getElem?_set_ne (by omega), List.getElem?_set_ne (by omega), List.getElem?_set_ne (by omega)]; exact List.getElem?_set_self (by exact h0)
  · rw [List.getElem?_set_ne (by omega), List.getElem?_set_ne (by omega), List.getElem?_set_ne (by omega), List.getElem?_set_ne (by omega), List.getElem?_set_ne (by omega), List.getElem?_set_ne (by omega), List.getElem?_set_ne (by omega), List.getElem?_set_ne (by omega), List.getElem?_set_ne (by omega), List.getElem?_set_ne (by omega)]; exact List.getElem?_set_self (by simp only [List.length_set]; exact hlen 1 (by decide))
  · rw [List.getElem?_set_ne (by omega), List.getElem?_set_ne (by omega), List.getElem?_set_ne (by omega), List.getElem?_set_ne (by omega), List.getElem?_set_ne (by omega), List.getElem?_set_ne (by omega), List.getElem?_set_ne (by omega), List.getElem?_set_ne (by omega), List.getElem?_set_ne (by omega)]; exact List.getElem?_set_self (by simp only [List.length_set]; exact hlen 2 (by decide))
  · rw [List.getElem?_set_ne (by omega), List.getElem?_set_ne (by omega), List.getElem?_set_ne (by omega), List.getElem?_set_ne (by omega), List.getElem?_set_ne (by omega), List.getElem?_set_ne (by omega), List.getElem?_set_ne (by omega), List.getElem?_set_ne (by omega)]; exact List.getElem?_set_self (by simp only [List.length_set]; exact hlen 3 (by decide))
  · rw [List.getElem?_set_ne (by omega), List.getElem?_set_ne (by omega), List.getElem?_set_ne (by omega), List.getElem?_set_ne (by omega), List.getElem?_set_ne (by omega), List.getElem?_set_ne (by omega), List.getElem?_set_ne (by omega)]; exact List.getElem?_set_self (by simp only [List.length_set]; exact hlen 4 (by decide))
  · rw [List.getElem?_set_ne (by omega), List.getElem?_set_ne (by omega), List.getElem?_set_ne (by omega), List.getElem?_set_ne (by omega), List.getElem?_set_ne (by omega), List.getElem?_set_ne (by omega)]; exact List.getElem?_set_self (by simp only [List.length_set]; exact hlen 5 (by decide))
  · rw [List.getElem?_set_ne (by omega), List.getElem?_set_ne (by omega), List.getElem?_set_ne (by omega), List.getElem?_set_ne (by omega), List.getElem?_set_ne (by omega)]; exact List.getElem?_set_self (by simp only [List.length_set]; exact hlen 6 (by decide))
  · rw [List.getElem?_set_ne (by omega), List.getElem?_set_ne (by omega), List.getElem?_set_ne (by omega), List.getElem?_set_ne (by omega)]; exact List.getElem?_set_self (by simp only [List.length_set]; exact hlen 7 (by decide))
  · rw [List.getElem?_set_ne (by omega), List.getElem?_set_ne (by omega), List.getElem?_set_ne (by omega)]; exact List.getElem?_set_self (by simp only [List.length_set]; exact hlen 8 (by decide))
  · rw [List.getElem?_set_ne (by omega), List.getElem?_set_ne (by omega)]; exact List.getElem?_set_self (by simp only [List.length_set]; exact hlen 9 (by decide))
  · rw [List.getElem?_set_ne (by omega)]; exact List.getElem?_set_self (by simp only [List.length_set]; exact hlen 10 (by decide))
  · exact List.getElem?_set_self (by simp only [List.length_set]; exact hlen 11 (by decide))
theorem touch_oneN (w : World) (g o : Nat) (u : Value) : Touch (fun k => k = g) w (w.setCell ⟨g, o, none⟩ u) :=
  ⟨rfl, rfl, rfl, by simp [World.setCell], fun k _ hne => Below.heap_setCell _ _ _ _ (by simpa using hne)⟩
theorem touch_set12 (w : World) (g o : Nat) (x : Nd) : Touch (fun k => k = g) w ((((((((((((w.setCell ⟨g, o, none⟩ (.int .i64 x.y)).setCell ⟨g, o + 1, none⟩ (.int .i64 x.i)).setCell ⟨g, o + 2, none⟩ (.int .i64 x.p)).setCell ⟨g, o + 3, none⟩ (.int .i64 x.f)).setCell ⟨g, o + 4, none⟩ (.int .i64 x.o)).setCell ⟨g, o + 5, none⟩ (.bool x.ab)).setCell ⟨g, o + 6, none⟩ (.int .i64 x.li)).setCell ⟨g, o + 7, none⟩ (.int .i64 x.pr)).setCell ⟨g, o + 8, none⟩ (.int .i64 x.en)).setCell ⟨g, o + 9, none⟩ (.int .i64 x.ex)).setCell ⟨g, o + 10, none⟩ (.int .i64 x.la)).setCell ⟨g, o + 11, none⟩ (.int .i64 x.ca)) :=
  (((((((((((touch_oneN _ _ _ _).trans (touch_oneN _ _ _ _)).trans (touch_oneN _ _ _ _)).trans (touch_oneN _ _ _ _)).trans (touch_oneN _ _ _ _)).trans (touch_oneN _ _ _ _)).trans (touch_oneN _ _ _ _)).trans (touch_oneN _ _ _ _)).trans (touch_oneN _ _ _ _)).trans (touch_oneN _ _ _ _)).trans (touch_oneN _ _ _ _)).trans (touch_oneN _ _ _ _)

theorem own_rowNd {v : Value} (h : NdE.Own 41 w base (.slice (some ⟨g, 0, none⟩) n cap) l) : l.length = n ∧ base ≤ g ∧ RowNd w g n cap (NdE.all l) := by
  rcases h.2 with ⟨e, _⟩ | ⟨g', cap', cur, e, hb, hg, hc, hm, hs, ht⟩
  · cases e
  · cases e
    exact ⟨rfl, hb, cur, hg, hc, hm, hs, ht⟩
end

section
variable {w w' : World} {A A' : Option Addr} {n m k B B' : Nat} {l l' : List Nd}
end
end Go.Proofs.YtlcbmobdokicaaaGreat

/-
  Contracts of tree over a view in memory: the path above a node, the nodes below one. Conditions: which numbers are ints; what a scan comes to.
-/
namespace Go.Proofs.YtlcbmobdokicaaaGreat
open Go.RowKit Go.Maps
set_option maxRecDepth 100000
set_option linter.unusedVariables false

def sliceLen : Value → Nat
  | .slice _ n _ => n
  | _ => 0
theorem pathN_none {S : VS} {y i : Int} {k : Nat} (h : nodeAt S y i = none) : pathN S y (k + 1) i = [] := by unfold pathN; rw [h]
theorem pathN_zero {S : VS} {y i : Int} {k : Nat} {n : Nd} (h : nodeAt S y i = some n) (h0 : n.p = 0) : pathN S y (k + 1) i = [n] := by unfold pathN; rw [h]; simp only [h0, if_true]
theorem pathN_more {S : VS} {y i : Int} {k : Nat} {n : Nd} (h : nodeAt S y i = some n) (h0 : n.p ≠ 0) : pathN S y (k + 1) i = n :: pathN S y k n.p := by
  conv => lhs; unfold pathN
  rw [h]
  simp only [h0, if_false]
section
variable {w w' : World} {X : Nat → Prop} {v m c : Nat} {S : VS}
set_option maxHeartbeats 6400000 in
theorem budgetPath_any (h : ViewAt w X v m c S) (y i : Int) (hy : Nd64 y) (hi : Nd64 i) :
    Calls Tryz.prog 167 #[.agg #[.pointer (some ⟨v, 0, none⟩), .int .i64 y], .int .i64 i] w fun e w' => ∃ u, e = .returned u ∧ NodesR w w' u (pathN S y 8 i) := by
  obtain ⟨w1, hw1⟩ : ∃ w1, w1 = w.alloc (.cells #[.pointer (some ⟨v, 0, none⟩), .int .i64 y] 93) := ⟨_, rfl⟩
  have hb1 : Below w.heap.size w w1 := by rw [hw1]; exact (Below.refl _ _).alloc (Nat.le_refl _) _
  have hs1 : w1.heap.size = w.heap.size + 1 := by rw [hw1]; simp
  have c0 : w1.cell? ⟨w.heap.size, 0, none⟩ = some (.pointer (some ⟨v, 0, none⟩)) := by rw [hw1]; exact cell_of_row _ _ 0 _ _ (0, 0) (heap_alloc_new w _)
  have c1 : w1.cell? ⟨w.heap.size, 1, none⟩ = some (.int .i64 y) := by rw [hw1]; exact cell_of_row _ _ 1 _ _ (0, 0) (heap_alloc_new w _)
  have HB := Lib.hid hb1
  have HC := Lib.hid (show ∀ W, Below w1.heap.size w1 W → W.cell? ⟨w.heap.size, 0, none⟩ = some (.pointer (some ⟨v, 0, none⟩)) ∧ W.cell? ⟨w.heap.size, 1, none⟩ = some (.int .i64 y) from fun W hW =>
    ⟨(hW.cell (p := ⟨w.heap.size, 0, none⟩) (by show w.heap.size < w1.heap.size; omega)).trans c0, (hW.cell (p := ⟨w.heap.size, 1, none⟩) (by show w.heap.size < w1.heap.size; omega)).trans c1⟩)
  have HV := Lib.hid (show ∀ W, Below w1.heap.size w1 W → ViewAt W X v m c S from fun W hW => h.below (hb1.trans (hW.mono hb1.size)))
  have HY := Lib.hid hy
  have HS1 := Lib.hid hs1
  have HI := Lib.hid hi
  clear hb1 h hs1 c0 c1 hy hi
  go_enter Tryz.func167, Tryz.ntmps167
  go_wp2_with fail
  rw [← hw1]
  clear hw1
  go_step3
  go_wp2_with fail
  go_step3
  go_wp2_with fail
  go_loopw [1, 5] (fun iv u wr => ∃ (j : Int) (l : List Nd) (A : Option Addr) (k : Nat), iv = .int .i64 j ∧ u = .slice A l.length k ∧ l.length ≤ 8 ∧ Hid (NdE.Own 41 wr w1.heap.size (.slice A l.length k) l ∧ (∀ x ∈ l, NdOk x) ∧ Nd64 j ∧ pathN S y 8 i = l ++ pathN S y (8 - l.length) j) ∧ Hid (Below w1.heap.size w1 wr)) (fun _ u _ => 8 - sliceLen u)
  case atStart => exact ⟨i, [], none, 0, rfl, rfl, by simp, Lib.hid ⟨Enc.Own.start _ _ _, (fun x hx => by cases hx), HI.out, rfl⟩, Lib.hid (Below.refl _ _)⟩
  case round =>
    obtain ⟨j, l, A, k, rfl, rfl, hl8, hown, hbw⟩ := hrel
    obtain ⟨ho, hlok, hj, hp⟩ := hown.out
    by_cases hlt : l.length < 8
    · have hlt' : (l.length : Int) < 8 := by omega
      obtain ⟨d0, d1⟩ := HC.out wr hbw.out
      obtain ⟨k8, hk8⟩ : ∃ k8, 8 - l.length = k8 + 1 := ⟨7 - l.length, by omega⟩
      have HG := Lib.hid (treeNode_any (HV.out wr hbw.out) y j HY.out hj)
      rw [hk8] at hp
      have HPN := Lib.hid (fun (q : nodeAt S y j = none) => show pathN S y 8 i = l from by rw [hp, pathN_none q, List.append_nil])
      have HPZ := Lib.hid (fun (n : Nd) (q : nodeAt S y j = some n) (q0 : n.p = 0) => show pathN S y 8 i = l ++ [n] from by rw [hp, pathN_zero q q0])
      have HPM := Lib.hid (fun (n : Nd) (q : nodeAt S y j = some n) (q0 : n.p ≠ 0) => show pathN S y 8 i = (l ++ [n]) ++ pathN S y (8 - (l ++ [n]).length) n.p from by
        rw [hp, pathN_more q q0, List.append_assoc, List.length_append, List.length_singleton, show 8 - (l.length + 1) = k8 by omega]; rfl)
      have HOW := Lib.hid (And.intro ho hlok)
      have hBW := hbw.out
      generalize nodeAt S y j = o at HG HPN HPZ HPM
      clear ho hlok hp hown hk8
      go_wp2_with fail
      refine HG.out.mono ?_
      rintro e w5 ⟨rfl, hno, hb5⟩
      have ha5 := hBW.trans (hb5.mono hBW.size)
      have ho5 := HOW.out.1.below hb5
      cases o with
      | none =>
        have hX : Below w5.heap.size w5 (w5.alloc (.cells #[.int .i64 0, .int .i64 0, .int .i64 0, .int .i64 0, .int .i64 0, .bool false, .int .i64 0, .int .i64 0, .int .i64 0, .int .i64 0, .int .i64 0, .int .i64 0] 41 (0, 0))) := (Below.refl _ _).alloc (Nat.le_refl _) _
        have HE := Lib.hid (show NodesR w (w5.alloc (.cells #[.int .i64 0, .int .i64 0, .int .i64 0, .int .i64 0, .int .i64 0, .bool false, .int .i64 0, .int .i64 0, .int .i64 0, .int .i64 0, .int .i64 0, .int .i64 0] 41 (0, 0))) (.slice A l.length k) (pathN S y 8 i) from by
          rw [HPN.out rfl]
          exact ⟨(ho5.below hX).base_le (by have := HS1.out; omega), HOW.out.2, HB.out.trans ((ha5.trans (hX.mono ha5.size)).mono HB.out.size)⟩)
        clear hX ha5 ho5 HPN HPZ HPM HG hno hb5 hbw hBW
        simp only [ndW, ndO, Option.getD_none, ndNil]
        go_wp2_with fail
        rw [Exit.noGoto_ret]
        go_ret
        exact ⟨_, rfl, HE.out⟩
      | some n =>
        have hok := hno n rfl
        have hcl : NdOk n := hok
        obtain ⟨a0, a1, a2, a3, a4, a5, a6, a7, a8, a9, a10, a11⟩ := n
        have hX : Below w5.heap.size w5 (w5.alloc (.cells #[.int .i64 a0, .int .i64 a1, .int .i64 a2, .int .i64 a3, .int .i64 a4, .bool a5, .int .i64 a6, .int .i64 a7, .int .i64 a8, .int .i64 a9, .int .i64 a10, .int .i64 a11] 41 (0, 0))) := (Below.refl _ _).alloc (Nat.le_refl _) _
        obtain ⟨wx, hwx⟩ : ∃ wx, wx = w5.alloc (.cells #[.int .i64 a0, .int .i64 a1, .int .i64 a2, .int .i64 a3, .int .i64 a4, .bool a5, .int .i64 a6, .int .i64 a7, .int .i64 a8, .int .i64 a9, .int .i64 a10, .int .i64 a11] 41 (0, 0)) := ⟨_, rfl⟩
        have hblk : wx.heap[w5.heap.size]? = some (.cells #[.int .i64 a0, .int .i64 a1, .int .i64 a2, .int .i64 a3, .int .i64 a4, .bool a5, .int .i64 a6, .int .i64 a7, .int .i64 a8, .int .i64 a9, .int .i64 a10, .int .i64 a11] 41 (0, 0)) := by rw [hwx]; exact heap_alloc_new w5 _
        have hsz : wx.heap.size = w5.heap.size + 1 := by rw [hwx]; simp
        rw [← hwx] at hX
        obtain ⟨r0, r1, r2, r3, r4, r5, r6, r7, r8, r9, r10, r11⟩ := node_cells hblk
        have hY : Below wx.heap.size wx (wx.alloc (.cells #[.int .i64 a0, .int .i64 a1, .int .i64 a2, .int .i64 a3, .int .i64 a4, .bool a5, .int .i64 a6, .int .i64 a7, .int .i64 a8, .int .i64 a9, .int .i64 a10, .int .i64 a11] 41 (0, 0))) := (Below.refl _ _).alloc (Nat.le_refl _) _
        have hXY := hX.trans (hY.mono hX.size)
        obtain ⟨v', w6, hrun, hown6, hb6, hg, hgr⟩ := (ho5.below hXY).append1 NdT (x := ⟨a0, a1, a2, a3, a4, a5, a6, a7, a8, a9, a10, a11⟩) (heap_alloc_new wx _) rfl hok (by omega) (Nat.le_trans ha5.size hXY.size) 22
        rw [hsz] at hrun
        obtain ⟨A6, k6, rfl, hk6⟩ := hown6.shape
        have hlen6 : (l ++ [(⟨a0, a1, a2, a3, a4, a5, a6, a7, a8, a9, a10, a11⟩ : Nd)]).length = l.length + 1 := by rw [List.length_append]; rfl
        rw [hlen6] at hrun hown6
        have HBX := Lib.hid ((ha5.trans (hXY.mono ha5.size)).trans hb6)
        have hcell2 : w6.cell? ⟨w5.heap.size, 2, none⟩ = some (.int .i64 a2) := by
          have hno : (Value.slice A l.length k).ownBlock ≠ some w5.heap.size := fun q => Nat.lt_irrefl _ ((ho5.at_ _ q).2)
          have hb := (hg.block w5.heap.size (by show w5.heap.size < (wx.alloc _).heap.size; have := hY.size; omega) (fun q => hno q.symm)).trans (hY.block _ (by omega))
          exact (World.cell?_of_block (a := ⟨w5.heap.size, 2, none⟩) hb).trans r2
        have hl' : ∀ x ∈ l ++ [(⟨a0, a1, a2, a3, a4, a5, a6, a7, a8, a9, a10, a11⟩ : Nd)], NdOk x := fun x hx => by
          rcases List.mem_append.1 hx with hx | hx
          · exact HOW.out.2 x hx
          · obtain rfl := List.mem_singleton.1 hx
            exact hok
        have HL' := Lib.hid hl'
        have HO6 := Lib.hid hown6
        have HA2 := Lib.hid (show Nd64 a2 from hcl _ (by simp))
        by_cases h0 : a2 = 0
        · have h0' : (a2 == 0) = true := by simp [h0]
          have HE := Lib.hid (show NodesR w w6 (.slice A6 (l.length + 1) k6) (pathN S y 8 i) from by
            rw [HPZ.out _ rfl h0]
            have q := HO6.out
            exact ⟨q.base_le (by have := HS1.out; omega), HL'.out, HB.out.trans (HBX.out.mono HB.out.size)⟩)
          have HRUN := Lib.hid hrun
          subst hwx
          clear hX hY hXY ha5 ho5 HPN HPZ HPM HG hno hb5 hbw hBW hrun hown6 hb6 hblk hok hcl hsz hl' hcell2 hgr hk6 hlen6 h0
          simp only [ndW, ndO, Option.getD_some]
          go_wp2_with (at_builtin; refine Lib.wpList_append_run _ rfl _ _ _ _ rfl _ _ rfl rfl _ _ HRUN.out ?_)
          rw [Exit.noGoto_ret]
          go_ret
          exact ⟨_, rfl, HE.out⟩
        · have h0' : (a2 == 0) = false := by simp [h0]
          have HE := Lib.hid (show NdE.Own 41 w6 w1.heap.size (.slice A6 (l ++ [(⟨a0, a1, a2, a3, a4, a5, a6, a7, a8, a9, a10, a11⟩ : Nd)]).length k6) (l ++ [⟨a0, a1, a2, a3, a4, a5, a6, a7, a8, a9, a10, a11⟩]) ∧ (∀ x ∈ l ++ [(⟨a0, a1, a2, a3, a4, a5, a6, a7, a8, a9, a10, a11⟩ : Nd)], NdOk x) ∧ Nd64 a2 ∧ pathN S y 8 i = (l ++ [⟨a0, a1, a2, a3, a4, a5, a6, a7, a8, a9, a10, a11⟩]) ++ pathN S y (8 - (l ++ [(⟨a0, a1, a2, a3, a4, a5, a6, a7, a8, a9, a10, a11⟩ : Nd)]).length) a2 from
            ⟨by rw [hlen6]; exact HO6.out, HL'.out, HA2.out, HPM.out _ rfl h0⟩)
          have HLEN := Lib.hid hlen6
          have HRUN := Lib.hid hrun
          subst hwx
          clear hX hY hXY ha5 ho5 HPN HPZ HPM HG hno hb5 hbw hBW hrun hown6 hb6 hblk hok hcl hsz hl' hgr hk6 hlen6 h0
          simp only [ndW, ndO, Option.getD_some]
          go_wp2_with (at_builtin; refine Lib.wpList_append_run _ rfl _ _ _ _ rfl _ _ rfl rfl _ _ HRUN.out ?_)
          go_roundw
          case rel => exact ⟨a2, _, A6, k6, rfl, by rw [HLEN.out], by rw [HLEN.out]; omega, HE, HBX⟩
          case measure => simp [sliceLen]; omega
    · have hl : l.length = 8 := by omega
      have HE := Lib.hid (show NodesR w wr (.slice A l.length k) (pathN S y 8 i) from by
        rw [hp, hl]
        show NodesR _ _ _ (l ++ pathN S y 0 j)
        unfold pathN
        rw [List.append_nil, ← hl]
        exact ⟨ho.base_le (by have := HS1.out; omega), hlok, HB.out.trans (hbw.out.mono HB.out.size)⟩)
      clear ho hlok hp hown
      go_wp2
      rw [Exit.noGoto_ret]
      go_ret
      exact ⟨_, rfl, HE.out⟩
set_option maxHeartbeats 800000 in
theorem treePath_any (h : ViewAt w X v m c S) (y i : Int) (hy : Nd64 y) (hi : Nd64 i) :
    Calls Tryz.prog 145 #[.pointer (some ⟨v, 0, none⟩), .int .i64 y, .int .i64 i] w fun e w' => ∃ u, e = .returned u ∧ NodesR w w' u (pathN S y 8 i) := by
  have HL := Lib.hid (budgetPath_any h y i hy hi)
  generalize pathN S y 8 i = o at HL ⊢
  clear h
  go_enter Tryz.func145, Tryz.ntmps145
  go_wp2_with fail
  refine HL.out.mono ?_
  rintro e w2 ⟨u, rfl, h2⟩
  have HE := Lib.hid h2
  clear h2 HL
  go_wp2_with fail
  go_ret
  exact ⟨_, rfl, HE.out⟩
end
end Go.Proofs.YtlcbmobdokicaaaGreat
