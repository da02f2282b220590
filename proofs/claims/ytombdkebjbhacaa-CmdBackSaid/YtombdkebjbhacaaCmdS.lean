/-
  Contracts of cmd.Same and of the document's Same. Conditions: lines lie in memory.
-/
import Derived.Test.YtombdkebjbhacaaCmdE
import Derived.ChangeKeysEq
import Derived.StillTailTactics
namespace Go.Proofs.Ytombdkebjbhacaa
open Go.RowKit Go.Maps
set_option maxRecDepth 100000
set_option linter.unusedVariables false

theorem cells_int_c : Try.prog.cellsOf 3 = 1 := by kernel_rfl
theorem eqItems_ints (w : World) (d : Nat) (l m : List Int) : ∀ is : List Nat, (∀ i ∈ is, i < l.length ∧ i < m.length) →
    (Op.eqItems (d + 1) 3 1 (l.map (Value.int .i64)).toArray (m.map (Value.int .i64)).toArray is).run Try.prog w = .ok (is.all fun i => decide (l[i]? = m[i]?)) w
  | [], _ => by simp [Op.eqItems]
  | i :: is, h => by
    obtain ⟨h1, h2⟩ := h i (List.mem_cons_self ..)
    have p1 := run_part_plain (P := Try.prog) w (e := 3) (by kernel_rfl) (xs := (l.map (Value.int .i64)).toArray) (off := i * 1) (v := .int .i64 l[i]) (by simp [h1])
    have p2 := run_part_plain (P := Try.prog) w (e := 3) (by kernel_rfl) (xs := (m.map (Value.int .i64)).toArray) (off := i * 1) (v := .int .i64 m[i]) (by simp [h2])
    have p3 := run_equalIn_int (P := Try.prog) w d 3 .i64 .i64 l[i] m[i] Try.underlying3
    simp only [Op.eqItems, Sem.run_bind, p1, p2, p3, Result.andThen_ok]
    have ih := eqItems_ints w d l m is (fun j hj => h j (List.mem_cons_of_mem _ hj))
    rw [List.all_cons]
    by_cases e : l[i] = m[i]
    · have e1 : (l[i] == m[i]) = true := by simpa using e
      have e2 : decide (l[i]? = m[i]?) = true := by simp [h1, h2, e]
      rw [e1, e2]
      simpa using ih
    · have e1 : (l[i] == m[i]) = false := by simpa using e
      have e2 : decide (l[i]? = m[i]?) = false := by simp [h1, h2, e]
      rw [e1, e2]
      simp
def nums11 (x : Cm) : List Int := [x.k, x.y, x.n, x.f, x.o, x.d, x.p, x.c, x.i, x.a, ab1 x.ab]
theorem ab1_inj {a b : Bool} : ab1 a = ab1 b ↔ a = b := by cases a <;> cases b <;> simp [ab1]
theorem same11 (x y : Cm) (W : World) : (Op.equalIn 10000 50 (.agg ((nums11 x).map (Value.int .i64)).toArray) (.agg ((nums11 y).map (Value.int .i64)).toArray)).run Try.prog W = .ok (decide (x.k = y.k ∧ x.y = y.y ∧ x.n = y.n ∧ x.f = y.f ∧ x.o = y.o ∧ x.d = y.d ∧ x.p = y.p ∧ x.c = y.c ∧ x.i = y.i ∧ x.a = y.a ∧ x.ab = y.ab)) W := by
  obtain ⟨i0, hi, hz0, hz1, hz2⟩ := info_parts info_int
  rw [show (10000 : Nat) = 9999 + 1 from rfl, run_equalIn_array W 9999 _ _ Try.underlying50 hi, cells_int_c, show (9999 : Nat) = 9998 + 1 from rfl, eqItems_ints W 9998 (nums11 x) (nums11 y) (List.range 11) (fun i hi => by simpa [nums11] using hi)]
  congr 1
  rw [Bool.eq_iff_iff]
  simp only [List.all_eq_true, List.mem_range, decide_eq_true_eq]
  constructor
  · intro h
    have g : ∀ i, i < 11 → (nums11 x)[i]? = (nums11 y)[i]? := h
    have e := List.ext_getElem? (l₁ := nums11 x) (l₂ := nums11 y) (fun i => by
      rcases Nat.lt_or_ge i 11 with hi | hi
      · exact g i hi
      · rw [List.getElem?_eq_none (by simpa [nums11] using hi), List.getElem?_eq_none (by simpa [nums11] using hi)])
    unfold nums11 at e
    simp only [List.cons.injEq, and_true, ab1_inj] at e
    exact e
  · rintro ⟨h1, h2, h3, h4, h5, h6, h7, h8, h9, h10, h11⟩ i _
    have e : nums11 x = nums11 y := by unfold nums11; rw [h1, h2, h3, h4, h5, h6, h7, h8, h9, h10, h11]
    rw [e]

theorem nums_box {w0 w : World} {g : Nat} (x : Cm) (hz : w.heap[g]? = some (.cells #[.int .i64 0, .int .i64 0, .int .i64 0, .int .i64 0, .int .i64 0, .int .i64 0, .int .i64 0, .int .i64 0, .int .i64 0, .int .i64 0, .int .i64 0] 50 (0, 0))) (hb : Below w0.heap.size w0 w) (hg : w0.heap.size ≤ g) :
    (((((((((((w.setCell ⟨g, 0, none⟩ (.int .i64 x.k)).setCell ⟨g, 1, none⟩ (.int .i64 x.y)).setCell ⟨g, 2, none⟩ (.int .i64 x.n)).setCell ⟨g, 3, none⟩ (.int .i64 x.f)).setCell ⟨g, 4, none⟩ (.int .i64 x.o)).setCell ⟨g, 5, none⟩ (.int .i64 x.d)).setCell ⟨g, 6, none⟩ (.int .i64 x.p)).setCell ⟨g, 7, none⟩ (.int .i64 x.c)).setCell ⟨g, 8, none⟩ (.int .i64 x.i)).setCell ⟨g, 9, none⟩ (.int .i64 x.a)).setCell ⟨g, 10, none⟩ (.int .i64 (ab1 x.ab))).heap[g]? = some (.cells ((nums11 x).map (Value.int .i64)).toArray 50 (0, 0)) ∧ Below w0.heap.size w0 (((((((((((w.setCell ⟨g, 0, none⟩ (.int .i64 x.k)).setCell ⟨g, 1, none⟩ (.int .i64 x.y)).setCell ⟨g, 2, none⟩ (.int .i64 x.n)).setCell ⟨g, 3, none⟩ (.int .i64 x.f)).setCell ⟨g, 4, none⟩ (.int .i64 x.o)).setCell ⟨g, 5, none⟩ (.int .i64 x.d)).setCell ⟨g, 6, none⟩ (.int .i64 x.p)).setCell ⟨g, 7, none⟩ (.int .i64 x.c)).setCell ⟨g, 8, none⟩ (.int .i64 x.i)).setCell ⟨g, 9, none⟩ (.int .i64 x.a)).setCell ⟨g, 10, none⟩ (.int .i64 (ab1 x.ab))) ∧ ∀ k o, k ≠ g → (((((((((((w.setCell ⟨g, 0, none⟩ (.int .i64 x.k)).setCell ⟨g, 1, none⟩ (.int .i64 x.y)).setCell ⟨g, 2, none⟩ (.int .i64 x.n)).setCell ⟨g, 3, none⟩ (.int .i64 x.f)).setCell ⟨g, 4, none⟩ (.int .i64 x.o)).setCell ⟨g, 5, none⟩ (.int .i64 x.d)).setCell ⟨g, 6, none⟩ (.int .i64 x.p)).setCell ⟨g, 7, none⟩ (.int .i64 x.c)).setCell ⟨g, 8, none⟩ (.int .i64 x.i)).setCell ⟨g, 9, none⟩ (.int .i64 x.a)).setCell ⟨g, 10, none⟩ (.int .i64 (ab1 x.ab))).cell? ⟨k, o, none⟩ = w.cell? ⟨k, o, none⟩ := by
  have e0 : (w.setCell ⟨g, 0, none⟩ (.int .i64 x.k)).heap[g]? = some (.cells #[.int .i64 x.k, .int .i64 0, .int .i64 0, .int .i64 0, .int .i64 0, .int .i64 0, .int .i64 0, .int .i64 0, .int .i64 0, .int .i64 0, .int .i64 0] 50 (0, 0)) := heap_setCell_same _ g 0 _ _ (.int .i64 x.k) hz
  have e1 : ((w.setCell ⟨g, 0, none⟩ (.int .i64 x.k)).setCell ⟨g, 1, none⟩ (.int .i64 x.y)).heap[g]? = some (.cells #[.int .i64 x.k, .int .i64 x.y, .int .i64 0, .int .i64 0, .int .i64 0, .int .i64 0, .int .i64 0, .int .i64 0, .int .i64 0, .int .i64 0, .int .i64 0] 50 (0, 0)) := heap_setCell_same _ g 1 _ _ (.int .i64 x.y) e0
  have e2 : (((w.setCell ⟨g, 0, none⟩ (.int .i64 x.k)).setCell ⟨g, 1, none⟩ (.int .i64 x.y)).setCell ⟨g, 2, none⟩ (.int .i64 x.n)).heap[g]? = some (.cells #[.int .i64 x.k, .int .i64 x.y, .int .i64 x.n, .int .i64 0, .int .i64 0, .int .i64 0, .int .i64 0, .int .i64 0, .int .i64 0, .int .i64 0, .int .i64 0] 50 (0, 0)) := heap_setCell_same _ g 2 _ _ (.int .i64 x.n) e1
  have e3 : ((((w.setCell ⟨g, 0, none⟩ (.int .i64 x.k)).setCell ⟨g, 1, none⟩ (.int .i64 x.y)).setCell ⟨g, 2, none⟩ (.int .i64 x.n)).setCell ⟨g, 3, none⟩ (.int .i64 x.f)).heap[g]? = some (.cells #[.int .i64 x.k, .int .i64 x.y, .int .i64 x.n, .int .i64 x.f, .int .i64 0, .int .i64 0, .int .i64 0, .int .i64 0, .int .i64 0, .int .i64 0, .int .i64 0] 50 (0, 0)) := heap_setCell_same _ g 3 _ _ (.int .i64 x.f) e2
  have e4 : (((((w.setCell ⟨g, 0, none⟩ (.int .i64 x.k)).setCell ⟨g, 1, none⟩ (.int .i64 x.y)).setCell ⟨g, 2, none⟩ (.int .i64 x.n)).setCell ⟨g, 3, none⟩ (.int .i64 x.f)).setCell ⟨g, 4, none⟩ (.int .i64 x.o)).heap[g]? = some (.cells #[.int .i64 x.k, .int .i64 x.y, .int .i64 x.n, .int .i64 x.f, .int .i64 x.o, .int .i64 0, .int .i64 0, .int .i64 0, .int .i64 0, .int .i64 0, .int .i64 0] 50 (0, 0)) := heap_setCell_same _ g 4 _ _ (.int .i64 x.o) e3
  have e5 : ((((((w.setCell ⟨g, 0, none⟩ (.int .i64 x.k)).setCell ⟨g, 1, none⟩ (.int .i64 x.y)).setCell ⟨g, 2, none⟩ (.int .i64 x.n)).setCell ⟨g, 3, none⟩ (.int .i64 x.f)).setCell ⟨g, 4, none⟩ (.int .i64 x.o)).setCell ⟨g, 5, none⟩ (.int .i64 x.d)).heap[g]? = some (.cells #[.int .i64 x.k, .int .i64 x.y, .int .i64 x.n, .int .i64 x.f, .int .i64 x.o, .int .i64 x.d, .int .i64 0, .int .i64 0, .int .i64 0, .int .i64 0, .int .i64 0] 50 (0, 0)) := heap_setCell_same _ g 5 _ _ (.int .i64 x.d) e4
  have e6 : (((((((w.setCell ⟨g, 0, none⟩ (.int .i64 x.k)).setCell ⟨g, 1, none⟩ (.int .i64 x.y)).setCell ⟨g, 2, none⟩ (.int .i64 x.n)).setCell ⟨g, 3, none⟩ (.int .i64 x.f)).setCell ⟨g, 4, none⟩ (.int .i64 x.o)).setCell ⟨g, 5, none⟩ (.int .i64 x.d)).setCell ⟨g, 6, none⟩ (.int .i64 x.p)).heap[g]? = some (.cells #[.int .i64 x.k, .int .i64 x.y, .int .i64 x.n, .int .i64 x.f, .int .i64 x.o, .int .i64 x.d, .int .i64 x.p, .int .i64 0, .int .i64 0, .int .i64 0, .int .i64 0] 50 (0, 0)) := heap_setCell_same _ g 6 _ _ (.int .i64 x.p) e5
  have e7 : ((((((((w.setCell ⟨g, 0, none⟩ (.int .i64 x.k)).setCell ⟨g, 1, none⟩ (.int .i64 x.y)).setCell ⟨g, 2, none⟩ (.int .i64 x.n)).setCell ⟨g, 3, none⟩ (.int .i64 x.f)).setCell ⟨g, 4, none⟩ (.int .i64 x.o)).setCell ⟨g, 5, none⟩ (.int .i64 x.d)).setCell ⟨g, 6, none⟩ (.int .i64 x.p)).setCell ⟨g, 7, none⟩ (.int .i64 x.c)).heap[g]? = some (.cells #[.int .i64 x.k, .int .i64 x.y, .int .i64 x.n, .int .i64 x.f, .int .i64 x.o, .int .i64 x.d, .int .i64 x.p, .int .i64 x.c, .int .i64 0, .int .i64 0, .int .i64 0] 50 (0, 0)) := heap_setCell_same _ g 7 _ _ (.int .i64 x.c) e6
  have e8 : (((((((((w.setCell ⟨g, 0, none⟩ (.int .i64 x.k)).setCell ⟨g, 1, none⟩ (.int .i64 x.y)).setCell ⟨g, 2, none⟩ (.int .i64 x.n)).setCell ⟨g, 3, none⟩ (.int .i64 x.f)).setCell ⟨g, 4, none⟩ (.int .i64 x.o)).setCell ⟨g, 5, none⟩ (.int .i64 x.d)).setCell ⟨g, 6, none⟩ (.int .i64 x.p)).setCell ⟨g, 7, none⟩ (.int .i64 x.c)).setCell ⟨g, 8, none⟩ (.int .i64 x.i)).heap[g]? = some (.cells #[.int .i64 x.k, .int .i64 x.y, .int .i64 x.n, .int .i64 x.f, .int .i64 x.o, .int .i64 x.d, .int .i64 x.p, .int .i64 x.c, .int .i64 x.i, .int .i64 0, .int .i64 0] 50 (0, 0)) := heap_setCell_same _ g 8 _ _ (.int .i64 x.i) e7
  have e9 : ((((((((((w.setCell ⟨g, 0, none⟩ (.int .i64 x.k)).setCell ⟨g, 1, none⟩ (.int .i64 x.y)).setCell ⟨g, 2, none⟩ (.int .i64 x.n)).setCell ⟨g, 3, none⟩ (.int .i64 x.f)).setCell ⟨g, 4, none⟩ (.int .i64 x.o)).setCell ⟨g, 5, none⟩ (.int .i64 x.d)).setCell ⟨g, 6, none⟩ (.int .i64 x.p)).setCell ⟨g, 7, none⟩ (.int .i64 x.c)).setCell ⟨g, 8, none⟩ (.int .i64 x.i)).setCell ⟨g, 9, none⟩ (.int .i64 x.a)).heap[g]? = some (.cells #[.int .i64 x.k, .int .i64 x.y, .int .i64 x.n, .int .i64 x.f, .int .i64 x.o, .int .i64 x.d, .int .i64 x.p, .int .i64 x.c, .int .i64 x.i, .int .i64 x.a, .int .i64 0] 50 (0, 0)) := heap_setCell_same _ g 9 _ _ (.int .i64 x.a) e8
  have e10 : (((((((((((w.setCell ⟨g, 0, none⟩ (.int .i64 x.k)).setCell ⟨g, 1, none⟩ (.int .i64 x.y)).setCell ⟨g, 2, none⟩ (.int .i64 x.n)).setCell ⟨g, 3, none⟩ (.int .i64 x.f)).setCell ⟨g, 4, none⟩ (.int .i64 x.o)).setCell ⟨g, 5, none⟩ (.int .i64 x.d)).setCell ⟨g, 6, none⟩ (.int .i64 x.p)).setCell ⟨g, 7, none⟩ (.int .i64 x.c)).setCell ⟨g, 8, none⟩ (.int .i64 x.i)).setCell ⟨g, 9, none⟩ (.int .i64 x.a)).setCell ⟨g, 10, none⟩ (.int .i64 (ab1 x.ab))).heap[g]? = some (.cells #[.int .i64 x.k, .int .i64 x.y, .int .i64 x.n, .int .i64 x.f, .int .i64 x.o, .int .i64 x.d, .int .i64 x.p, .int .i64 x.c, .int .i64 x.i, .int .i64 x.a, .int .i64 (ab1 x.ab)] 50 (0, 0)) := heap_setCell_same _ g 10 _ _ (.int .i64 (ab1 x.ab)) e9
  exact ⟨e10, (((((((((((hb.setCell (p := ⟨g, 0, none⟩) hg _).setCell (p := ⟨g, 1, none⟩) hg _).setCell (p := ⟨g, 2, none⟩) hg _).setCell (p := ⟨g, 3, none⟩) hg _).setCell (p := ⟨g, 4, none⟩) hg _).setCell (p := ⟨g, 5, none⟩) hg _).setCell (p := ⟨g, 6, none⟩) hg _).setCell (p := ⟨g, 7, none⟩) hg _).setCell (p := ⟨g, 8, none⟩) hg _).setCell (p := ⟨g, 9, none⟩) hg _).setCell (p := ⟨g, 10, none⟩) hg _), fun k o hk => by rw [World.cell?_setCell_far _ _ _ _ (fun e => hk e.symm), World.cell?_setCell_far _ _ _ _ (fun e => hk e.symm), World.cell?_setCell_far _ _ _ _ (fun e => hk e.symm), World.cell?_setCell_far _ _ _ _ (fun e => hk e.symm), World.cell?_setCell_far _ _ _ _ (fun e => hk e.symm), World.cell?_setCell_far _ _ _ _ (fun e => hk e.symm), World.cell?_setCell_far _ _ _ _ (fun e => hk e.symm), World.cell?_setCell_far _ _ _ _ (fun e => hk e.symm), World.cell?_setCell_far _ _ _ _ (fun e => hk e.symm), World.cell?_setCell_far _ _ _ _ (fun e => hk e.symm), World.cell?_setCell_far _ _ _ _ (fun e => hk e.symm)]⟩
theorem nums_size : (Try.prog.info? 50).map (·.size) = some 11 := by kernel_rfl
set_option maxHeartbeats 3200000 in
theorem numbers_any (x : Cm) (u : Value) (w : World) :
    Calls Try.prog 25 #[.agg (cmC x u)] w fun e w' => e = .returned (.agg ((nums11 x).map (Value.int .i64)).toArray) ∧ Below w.heap.size w w' := by
  obtain ⟨w1, hw1⟩ : ∃ w1, w1 = (w.alloc (.cells (cmC x u) 24)).alloc (.cells #[.int .i64 0, .int .i64 0, .int .i64 0, .int .i64 0, .int .i64 0, .int .i64 0, .int .i64 0, .int .i64 0, .int .i64 0, .int .i64 0, .int .i64 0] 50) := ⟨_, rfl⟩
  have b0 : Below w.heap.size w (w.alloc (.cells (cmC x u) 24)) := (Below.refl _ _).alloc (Nat.le_refl _) _
  have s0 : (w.alloc (.cells (cmC x u) 24)).heap.size = w.heap.size + 1 := by simp
  have b1 : Below (w.heap.size + 1) (w.alloc (.cells (cmC x u) 24)) w1 := by rw [hw1]; exact (Below.refl _ _).alloc (by omega) _
  have m0 : CmAt w1 w.heap.size x u := (b1.block _ (by omega)).trans (heap_alloc_new w _)
  have m1 : w1.heap[w.heap.size + 1]? = some (.cells #[.int .i64 0, .int .i64 0, .int .i64 0, .int .i64 0, .int .i64 0, .int .i64 0, .int .i64 0, .int .i64 0, .int .i64 0, .int .i64 0, .int .i64 0] 50 (0, 0)) := by
    have := heap_alloc_new (w.alloc (.cells (cmC x u) 24)) (.cells #[.int .i64 0, .int .i64 0, .int .i64 0, .int .i64 0, .int .i64 0, .int .i64 0, .int .i64 0, .int .i64 0, .int .i64 0, .int .i64 0, .int .i64 0] 50)
    rw [s0] at this
    rw [hw1]; exact this
  have bb := b0.trans (b1.mono (by omega))
  obtain ⟨hE1, hE2, hE3⟩ := nums_box x (w := w1.drew) (w0 := w) (g := w.heap.size + 1) m1 (bb.trans ((Below.refl _ _).drew)) (by omega)
  obtain ⟨c0, c1, c2, c3, c4, c5, c6, c7, c8, c9, c10, _, _⟩ := m0.cells
  have z0 : w1.cell? ⟨w.heap.size + 1, 0, none⟩ = some (.int .i64 0) := cell_of_row w1 (w.heap.size + 1) 0 _ _ (0, 0) m1
  have z1 : w1.cell? ⟨w.heap.size + 1, 1, none⟩ = some (.int .i64 0) := cell_of_row w1 (w.heap.size + 1) 1 _ _ (0, 0) m1
  have z2 : w1.cell? ⟨w.heap.size + 1, 2, none⟩ = some (.int .i64 0) := cell_of_row w1 (w.heap.size + 1) 2 _ _ (0, 0) m1
  have z3 : w1.cell? ⟨w.heap.size + 1, 3, none⟩ = some (.int .i64 0) := cell_of_row w1 (w.heap.size + 1) 3 _ _ (0, 0) m1
  have z4 : w1.cell? ⟨w.heap.size + 1, 4, none⟩ = some (.int .i64 0) := cell_of_row w1 (w.heap.size + 1) 4 _ _ (0, 0) m1
  have z5 : w1.cell? ⟨w.heap.size + 1, 5, none⟩ = some (.int .i64 0) := cell_of_row w1 (w.heap.size + 1) 5 _ _ (0, 0) m1
  have z6 : w1.cell? ⟨w.heap.size + 1, 6, none⟩ = some (.int .i64 0) := cell_of_row w1 (w.heap.size + 1) 6 _ _ (0, 0) m1
  have z7 : w1.cell? ⟨w.heap.size + 1, 7, none⟩ = some (.int .i64 0) := cell_of_row w1 (w.heap.size + 1) 7 _ _ (0, 0) m1
  have z8 : w1.cell? ⟨w.heap.size + 1, 8, none⟩ = some (.int .i64 0) := cell_of_row w1 (w.heap.size + 1) 8 _ _ (0, 0) m1
  have z9 : w1.cell? ⟨w.heap.size + 1, 9, none⟩ = some (.int .i64 0) := cell_of_row w1 (w.heap.size + 1) 9 _ _ (0, 0) m1
  have z10 : w1.cell? ⟨w.heap.size + 1, 10, none⟩ = some (.int .i64 0) := cell_of_row w1 (w.heap.size + 1) 10 _ _ (0, 0) m1
  have f0 : w1.frozen? ⟨w.heap.size + 1, 0, none⟩ = false := frozen_of_row w1 _ 0 _ _ m1
  have f1 : w1.frozen? ⟨w.heap.size + 1, 1, none⟩ = false := frozen_of_row w1 _ 1 _ _ m1
  have f2 : w1.frozen? ⟨w.heap.size + 1, 2, none⟩ = false := frozen_of_row w1 _ 2 _ _ m1
  have f3 : w1.frozen? ⟨w.heap.size + 1, 3, none⟩ = false := frozen_of_row w1 _ 3 _ _ m1
  have f4 : w1.frozen? ⟨w.heap.size + 1, 4, none⟩ = false := frozen_of_row w1 _ 4 _ _ m1
  have f5 : w1.frozen? ⟨w.heap.size + 1, 5, none⟩ = false := frozen_of_row w1 _ 5 _ _ m1
  have f6 : w1.frozen? ⟨w.heap.size + 1, 6, none⟩ = false := frozen_of_row w1 _ 6 _ _ m1
  have f7 : w1.frozen? ⟨w.heap.size + 1, 7, none⟩ = false := frozen_of_row w1 _ 7 _ _ m1
  have f8 : w1.frozen? ⟨w.heap.size + 1, 8, none⟩ = false := frozen_of_row w1 _ 8 _ _ m1
  have f9 : w1.frozen? ⟨w.heap.size + 1, 9, none⟩ = false := frozen_of_row w1 _ 9 _ _ m1
  have f10 : w1.frozen? ⟨w.heap.size + 1, 10, none⟩ = false := frozen_of_row w1 _ 10 _ _ m1
  have HE := Lib.hid (And.intro hE1 hE2)
  go_enter Try.func25, Try.ntmps25
  go_wp2_with fail
  rw [← hw1]
  clear hw1 b0 s0 b1 m0 m1 bb hE1 hE2 hE3
  go_still_tail 23, (by kernel_rfl)
  still_call ((bit_any x.ab _).mono (by rintro e w' ⟨rfl, rfl⟩; exact ⟨rfl, rfl⟩))
  refine wpStill_nil ?_
  change wpList _ _ _ _ _ w1.drew
  obtain ⟨w3, hw3⟩ : ∃ w3 : World, w3 = w1.drew := ⟨_, rfl⟩
  rw [← hw3] at HE ⊢
  have z0 : w3.cell? ⟨w.heap.size + 1, 0, none⟩ = some (.int .i64 0) := by rw [hw3]; exact z0
  have f0 : w3.frozen? ⟨w.heap.size + 1, 0, none⟩ = false := by rw [hw3]; exact f0
  have z1 : w3.cell? ⟨w.heap.size + 1, 1, none⟩ = some (.int .i64 0) := by rw [hw3]; exact z1
  have f1 : w3.frozen? ⟨w.heap.size + 1, 1, none⟩ = false := by rw [hw3]; exact f1
  have z2 : w3.cell? ⟨w.heap.size + 1, 2, none⟩ = some (.int .i64 0) := by rw [hw3]; exact z2
  have f2 : w3.frozen? ⟨w.heap.size + 1, 2, none⟩ = false := by rw [hw3]; exact f2
  have z3 : w3.cell? ⟨w.heap.size + 1, 3, none⟩ = some (.int .i64 0) := by rw [hw3]; exact z3
  have f3 : w3.frozen? ⟨w.heap.size + 1, 3, none⟩ = false := by rw [hw3]; exact f3
  have z4 : w3.cell? ⟨w.heap.size + 1, 4, none⟩ = some (.int .i64 0) := by rw [hw3]; exact z4
  have f4 : w3.frozen? ⟨w.heap.size + 1, 4, none⟩ = false := by rw [hw3]; exact f4
  have z5 : w3.cell? ⟨w.heap.size + 1, 5, none⟩ = some (.int .i64 0) := by rw [hw3]; exact z5
  have f5 : w3.frozen? ⟨w.heap.size + 1, 5, none⟩ = false := by rw [hw3]; exact f5
  have z6 : w3.cell? ⟨w.heap.size + 1, 6, none⟩ = some (.int .i64 0) := by rw [hw3]; exact z6
  have f6 : w3.frozen? ⟨w.heap.size + 1, 6, none⟩ = false := by rw [hw3]; exact f6
  have z7 : w3.cell? ⟨w.heap.size + 1, 7, none⟩ = some (.int .i64 0) := by rw [hw3]; exact z7
  have f7 : w3.frozen? ⟨w.heap.size + 1, 7, none⟩ = false := by rw [hw3]; exact f7
  have z8 : w3.cell? ⟨w.heap.size + 1, 8, none⟩ = some (.int .i64 0) := by rw [hw3]; exact z8
  have f8 : w3.frozen? ⟨w.heap.size + 1, 8, none⟩ = false := by rw [hw3]; exact f8
  have z9 : w3.cell? ⟨w.heap.size + 1, 9, none⟩ = some (.int .i64 0) := by rw [hw3]; exact z9
  have f9 : w3.frozen? ⟨w.heap.size + 1, 9, none⟩ = false := by rw [hw3]; exact f9
  have z10 : w3.cell? ⟨w.heap.size + 1, 10, none⟩ = some (.int .i64 0) := by rw [hw3]; exact z10
  have f10 : w3.frozen? ⟨w.heap.size + 1, 10, none⟩ = false := by rw [hw3]; exact f10
  clear hw3 c0 c1 c2 c3 c4 c5 c6 c7 c8 c9 c10
  go_wp2_with fail
  refine bodyPost_ret (results_cell_row rfl _ _ (w.heap.size + 1) 50 ((nums11 x).map (Value.int .i64)).toArray (0, 0) _ rfl HE.out.1 Try.underlying50 rfl nums_size) rfl ?_
  exact ⟨rfl, HE.out.2⟩
end Go.Proofs.Ytombdkebjbhacaa
