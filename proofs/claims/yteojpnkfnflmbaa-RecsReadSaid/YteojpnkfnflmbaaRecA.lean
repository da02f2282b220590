/-
  Contracts of recs.pair and of the plain pair: what they make a pair of. No condition but that lengths are ints.
-/
import Derived.Test.YteojpnkfnflmbaaKeyB
import Derived.Test.YteojpnkfnflmbaaRecO
import Derived.Deep.RegionHeld3
namespace Go.Proofs.Yteojpnkfnflmbaa
open Go.RowKit
set_option maxRecDepth 100000
set_option linter.unusedVariables false

/-- A pair of the call's own: its key and its value. -/
def PairR (w w' : World) (e : Ending) (K V : List Int) : Prop := ∃ kv vv, e = .returned (.agg #[kv, vv]) ∧ OwnB w w' kv K ∧ OwnB w w' vv V

theorem OwnB.later {w w1 w2 : World} {v : Value} {l : List Int} (h : OwnB w w1 v l) (hb : Below w1.heap.size w1 w2) : OwnB w w2 v l := ⟨own_later h.1 hb, h.2.trans (hb.mono h.2.size)⟩

theorem pairSize : (Try.prog.info? 36).map (·.size) = some (#[Value.slice none 0 0, Value.slice none 0 0] : Array Value).size := by kernel_rfl
theorem box_set {w2 : World} {g : Nat} {u v x y : Value} {T : TypeId} (h : w2.heap[g]? = some (.cells #[u, v] T (0, 0))) : ((w2.setCell ⟨g, 0, none⟩ x).setCell ⟨g, 1, none⟩ y).heap[g]? = some (.cells #[x, y] T (0, 0)) := by
  have h1 := heap_setCell_same w2 g 0 _ T x h
  have h2 := heap_setCell_same _ g 1 _ T y h1
  rw [h2]
  rfl
theorem OwnB.boxed {w w1 w2 : World} {v : Value} {l : List Int} {x y : Value} {g : Nat} (h : OwnB w1 w2 v l) (hb : Below w.heap.size w w1) (hg : w.heap.size ≤ g) (hlt : g < w1.heap.size) : OwnB w ((w2.setCell ⟨g, 0, none⟩ x).setCell ⟨g, 1, none⟩ y) v l := by
  refine ⟨?_, ((hb.trans (h.2.mono hb.size)).setCell hg _).setCell hg _⟩
  rcases h.1.2 with h' | ⟨k, cap, cur, rfl, hk, hbk, h3⟩
  · exact ⟨h.1.1, .inl h'⟩
  · refine ⟨h.1.1, .inr ⟨k, cap, cur, rfl, Nat.le_trans hb.size hk, ?_, h3⟩⟩
    rw [heap_setCell_other _ _ _ _ (show k ≠ g by omega), heap_setCell_other _ _ _ _ (show k ≠ g by omega)]
    exact hbk
theorem box_frozen {w : World} {g o : Nat} {cs : Array Value} {T : TypeId} (h : w.heap[g]? = some (.cells cs T (0, 0))) : w.frozen? ⟨g, o, none⟩ = false := by simp [World.frozen?, h]

theorem box_cell0 {w : World} {g : Nat} {u v : Value} {T : TypeId} (h : w.heap[g]? = some (.cells #[u, v] T (0, 0))) : w.cell? ⟨g, 0, none⟩ = some u := cell_of_row w g 0 _ T (0, 0) h
theorem box_cell1 {w : World} {g : Nat} {u v : Value} {T : TypeId} (h : w.heap[g]? = some (.cells #[u, v] T (0, 0))) : w.cell? ⟨g, 1, none⟩ = some v := cell_of_row w g 1 _ T (0, 0) h

/-- A row of ints, a block of its own. -/
def RowN (w : World) (g : Nat) (l : List Int) : Prop := ∃ T, w.heap[g]? = some (.cells (l.map (Value.int .i64)).toArray T (0, 0))
theorem RowN.later {w w' : World} {g : Nat} {l : List Int} (h : RowN w g l) (hb : Below w.heap.size w w') : RowN w' g l := by
  obtain ⟨T, hT⟩ := h
  exact ⟨T, (hb.block g (Array.getElem?_eq_some_iff.1 hT).1).trans hT⟩
theorem RowN.ri {w : World} {g : Nat} {l : List Int} (h : RowN w g l) (hl : In64 l) : RI w w.heap.size (some ⟨g, 0, none⟩) l.length l := by
  obtain ⟨T, hT⟩ := h
  refine ⟨rfl, hl, fun _ => ⟨g, 0, rfl, (Array.getElem?_eq_some_iff.1 hT).1, fun j hj => ?_⟩⟩
  rw [Nat.zero_add, cell_of_row w g j _ T (0, 0) hT]
  simp [List.getElem?_eq_getElem hj]
theorem RowN.a {l : List Int} (X : World) (e : TypeId) : RowN (X.alloc (.cells (l.map (Value.int .i64)).toArray e)).drew X.heap.size l := ⟨e, heap_alloc_new X _⟩
theorem RowN.a' {l : List Int} (X : World) (e : TypeId) : RowN (X.alloc (.cells (l.map (Value.int .i64)).toArray e)) X.heap.size l := ⟨e, heap_alloc_new X _⟩
theorem RowN.b {l : List Int} (X : World) (e : TypeId) (o : Obj) : RowN ((X.alloc (.cells (l.map (Value.int .i64)).toArray e)).alloc o).drew X.heap.size l := (RowN.a' X e).later (((Below.refl _ _).alloc (Nat.le_refl _) o).drew)
theorem RowN.c {l : List Int} (X : World) (e : TypeId) (o : Obj) : RowN ((X.alloc o).alloc (.cells (l.map (Value.int .i64)).toArray e)).drew (X.heap.size + 1) l := by
  have := RowN.a (l := l) (X.alloc o) e
  rwa [show (X.alloc o).heap.size = X.heap.size + 1 by simp] at this
theorem RowN.d {l : List Int} (X : World) (e : TypeId) (o : Obj) : RowN ((X.alloc o).alloc (.cells (l.map (Value.int .i64)).toArray e)).drew (X.alloc o).heap.size l := RowN.a (l := l) (X.alloc o) e

/-- A call of Key over a row of ints. -/
theorem key_at (t : Int) (l : List Int) (n m : Nat) (ht : 0 ≤ t ∧ t < 256) (hl : In64 l) (hn : l.length = n) (h7 : n ≤ 7) (hm : 1 + 4 * n = m) (W : World) (g : Nat) (hr : RowN W g l) :
    Calls Try.prog 34 #[.int .u8 t, .slice (some ⟨g, 0, none⟩) n n] W fun e w' => ∃ A c, e = .returned (.slice A m c) ∧ OwnB W w' (.slice A m c) (keyL t l) := by
  subst hn hm
  refine (kKey_any t _ _ _ _ l W ht (hr.ri hl) (Nat.le_refl _) (Nat.le_refl _) (by unfold maxLen; omega)).mono ?_
  rintro e w' ⟨v, rfl, ho⟩
  obtain ⟨A, c, e1, _, _⟩ := ho.read (tagL_bytes ht _)
  subst e1
  have e2 : (keyL t l).length = 1 + 4 * l.length := by unfold keyL; rw [tagL_length, List.length_map, List.length_take]; omega
  rw [e2] at ho ⊢
  exact ⟨A, c, rfl, ho⟩
theorem rkey_at (t : Int) (l : List Int) (n m : Nat) (ht : 0 ≤ t ∧ t < 256) (hl : In64 l) (hn : l.length = n) (h7 : n ≤ 7) (hm : 1 + 4 * n = m) (W : World) (g : Nat) (hr : RowN W g l) :
    Calls Try.prog 45 #[.int .u8 t, .slice (some ⟨g, 0, none⟩) n n] W fun e w' => ∃ A c, e = .returned (.slice A m c) ∧ OwnB W w' (.slice A m c) (keyL t l) := by
  subst hn hm
  refine (rKey_any t _ _ _ _ l W ht (hr.ri hl) (Nat.le_refl _) (Nat.le_refl _) (by unfold maxLen; omega)).mono ?_
  rintro e w' ⟨v, rfl, ho⟩
  obtain ⟨A, c, e1, _, _⟩ := ho.read (tagL_bytes ht _)
  subst e1
  have e2 : (keyL t l).length = 1 + 4 * l.length := by unfold keyL; rw [tagL_length, List.length_map, List.length_take]; omega
  rw [e2] at ho ⊢
  exact ⟨A, c, rfl, ho⟩

set_option maxHeartbeats 1600000 in
theorem pair_any (kA : Option Addr) (kn kc : Nat) (A : Option Addr) (n c B : Nat) (l : List Int) (w : World) (hr : RI w B A n l) (hB : B ≤ w.heap.size) (hc : n ≤ c) (hm : n ≤ 15) :
    Calls Try.prog 33 #[.slice kA kn kc, .slice A n c] w fun e w' => ∃ vv, e = .returned (.agg #[.slice kA kn kc, vv]) ∧ OwnB w w' vv (packN 8 l) := by
  have hb1 : Below w.heap.size w (w.alloc (.cells #[.slice none 0 0, .slice none 0 0] 36)) := (Below.refl _ _).alloc (Nat.le_refl _) _
  have HP := Lib.hid (fPack_any A n c B l _ (hr.below (hb1.mono hB)) (Nat.le_trans hB hb1.size) hc (by unfold maxLen; omega))
  rw [List.take_of_length_le (by rw [hr.len]; exact hm)] at HP
  go_enter Try.func33, Try.ntmps33
  go_wp2_with fail
  refine HP.out.mono ?_
  rintro e w2 ⟨vv, rfl, ho⟩
  have c0 := (ho.2.cell (p := ⟨w.heap.size, 0, none⟩) (by simp)).trans (cell_of_row (w.alloc (.cells #[.slice none 0 0, .slice none 0 0] 36)) w.heap.size 0 _ _ (0, 0) (heap_alloc_new w _))
  have c1 := (ho.2.cell (p := ⟨w.heap.size, 1, none⟩) (by simp)).trans (cell_of_row (w.alloc (.cells #[.slice none 0 0, .slice none 0 0] 36)) w.heap.size 1 _ _ (0, 0) (heap_alloc_new w _))
  simp only [List.getElem?_toArray, List.getElem?_cons_zero, List.getElem?_cons_succ] at c0 c1
  have hblk := (ho.2.block w.heap.size (by simp)).trans (heap_alloc_new w (.cells #[.slice none 0 0, .slice none 0 0] 36))
  have hf0 : w2.frozen? ⟨w.heap.size, 0, none⟩ = false := by simp [World.frozen?, hblk]
  have hf1 : w2.frozen? ⟨w.heap.size, 1, none⟩ = false := by simp [World.frozen?, hblk]
  have HG := Lib.hid (fun x y => box_set (x := x) (y := y) hblk)
  have HO := Lib.hid (fun x y => ho.boxed (g := w.heap.size) (x := x) (y := y) hb1 (Nat.le_refl _) (by simp))
  obtain ⟨vA, vc, rfl, hvc, hrv⟩ := ho.read (packN_bytes _ _)
  clear ho hrv hblk
  go_wp2_with fail
  refine bodyPost_ret (results_cell_row rfl _ _ w.heap.size _ _ _ _ rfl (HG.out _ _) Try.underlying36 rfl pairSize) rfl ?_
  exact ⟨_, rfl, HO.out _ _⟩

/-- A call of pair over a row of ints. -/
theorem pair_at (l : List Int) (n m : Nat) (hl : In64 l) (hn : l.length = n) (h15 : n ≤ 15) (hm : 8 * n = m) (kA : Option Addr) (kn kc : Nat) (W : World) (g : Nat) (hr : RowN W g l) :
    Calls Try.prog 33 #[.slice kA kn kc, .slice (some ⟨g, 0, none⟩) n n] W fun e w' => ∃ A c, e = .returned (.agg #[.slice kA kn kc, .slice A m c]) ∧ OwnB W w' (.slice A m c) (packN 8 l) := by
  subst hn hm
  refine (pair_any kA kn kc _ _ _ _ l W (hr.ri hl) (Nat.le_refl _) (Nat.le_refl _) h15).mono ?_
  rintro e w' ⟨v, rfl, ho⟩
  obtain ⟨A, c, e1, _, _⟩ := ho.read (packN_bytes _ _)
  subst e1
  rw [packN_length] at ho ⊢
  exact ⟨A, c, rfl, ho⟩

/-- What a call that made a pair leaves, its own result boxed. -/
theorem pairR_boxed {w w1 w2 w3 : World} {g : Nat} {k v x y : Value} {K V : List Int} (hb : Below w.heap.size w w1) (hg : w.heap.size ≤ g) (hlt : g < w1.heap.size) (hk : OwnB w1 w2 k K) (h23 : Below w2.heap.size w2 w3) (hv : OwnB w1 w3 v V) :
    PairR w ((w3.setCell ⟨g, 0, none⟩ x).setCell ⟨g, 1, none⟩ y) (.returned (.agg #[k, v])) K V :=
  ⟨k, v, rfl, (hk.later h23).boxed hb hg hlt, hv.boxed hb hg hlt⟩

end Go.Proofs.Yteojpnkfnflmbaa
