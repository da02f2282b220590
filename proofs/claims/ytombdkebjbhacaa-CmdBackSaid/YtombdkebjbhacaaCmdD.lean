/-
  Contract of cmd's read: what stands in any bytes where a command's numbers would be. Conditions: fewer than a million bytes.
-/
import Derived.Test.YtombdkebjbhacaaCmdC
namespace Go.Proofs.Ytombdkebjbhacaa
open Go.RowKit
set_option maxRecDepth 100000
set_option linter.unusedVariables false

/-- A command while it is read: from w0 on, blocks: the result's, the reading, the command, three ints. -/
structure RdSt (w0 W : World) (A : Option Addr) (n c a : Nat) (x : Cm) (u : Value) (va vn vl : Int) : Prop where
  rd : RdAt W (w0.heap.size + 1) A n c a
  res : CmAt W w0.heap.size cm0 (.slice none 0 0)
  cm : CmAt W (w0.heap.size + 2) x u
  b3 : W.heap[w0.heap.size + 3]? = some (.cells #[.int .i64 va] 3 (0, 0))
  b4 : W.heap[w0.heap.size + 4]? = some (.cells #[.int .i64 vn] 3 (0, 0))
  b5 : W.heap[w0.heap.size + 5]? = some (.cells #[.int .i64 vl] 3 (0, 0))
  bel : Below w0.heap.size w0 W
section
variable {w0 W W' Wa w' : World} {A : Option Addr} {n c a B s : Nat} {x x' : Cm} {u u' : Value} {va vn vl va' vn' vl' : Int} {b : List Int} {ps : List (Nat × Nat)}
theorem RdSt.lt (h : RdSt w0 W A n c a x u va vn vl) : w0.heap.size + 6 ≤ W.heap.size := (Array.getElem?_eq_some_iff.1 h.b5).1
theorem RdSt.below (h : RdSt w0 W A n c a x u va vn vl) (hb : Below (w0.heap.size + 6) W W') : RdSt w0 W' A n c a x u va vn vl :=
  ⟨(hb.block _ (by omega)).trans h.rd, (hb.block _ (by omega)).trans h.res, (hb.block _ (by omega)).trans h.cm, (hb.block _ (by omega)).trans h.b3, (hb.block _ (by omega)).trans h.b4, (hb.block _ (by omega)).trans h.b5, h.bel.trans (hb.mono (by omega))⟩
theorem RdSt.cut (h : RdSt w0 Wa A n c a x u va vn vl) (C : Cut Wa w' (w0.heap.size + 1) A n c a b s ps) (hps : ∀ p ∈ ps, w0.heap.size + 2 ≤ p.1)
    (e2 : (setNums Wa b s ps a).heap[w0.heap.size + 2]? = some (.cells (cmC x' u) 24 (0, 0)))
    (e3 : (setNums Wa b s ps a).heap[w0.heap.size + 3]? = some (.cells #[.int .i64 va'] 3 (0, 0)))
    (e4 : (setNums Wa b s ps a).heap[w0.heap.size + 4]? = some (.cells #[.int .i64 vn'] 3 (0, 0)))
    (e5 : (setNums Wa b s ps a).heap[w0.heap.size + 5]? = some (.cells #[.int .i64 vl'] 3 (0, 0))) : RdSt w0 w' A n c (a + s * ps.length) x' u va' vn' vl' := by
  refine ⟨C.rd, (C.one (by omega) (fun p hp => by have := hps p hp; omega)).trans h.res, (C.block _ (by omega)).trans e2, (C.block _ (by omega)).trans e3, (C.block _ (by omega)).trans e4, (C.block _ (by omega)).trans e5, h.bel.trans ⟨C.os, C.tape, C.output, Nat.le_of_eq C.size.symm, fun k hk => C.one (by omega) (fun p hp => by have := hps p hp; omega)⟩⟩
theorem cut_st (h : RdSt w0 W A n c a x u va vn vl) (hr : RB w0 B A n b) (hB : B ≤ w0.heap.size) (hc : n ≤ c) (hm : n ≤ 1000000) (ps : List (Nat × Nat)) (s : Nat) (ha : a + s * ps.length ≤ 1000000) (hs : s ≤ 8) (hpl : ps.length ≤ 100) (hps : ∀ p ∈ ps, w0.heap.size + 2 ≤ p.1 ∧ May W p.1 p.2) :
    Calls Try.prog 34 #[.pointer (some ⟨w0.heap.size + 1, 0, none⟩), .int .i64 (s : Int), .slice (some ⟨W.heap.size, 0, none⟩) ps.length ps.length] (W.alloc (.cells (ps.map ptV).toArray 63)) fun e w' => e = .returned (.tuple #[]) ∧ Cut (W.alloc (.cells (ps.map ptV).toArray 63)) w' (w0.heap.size + 1) A n c a b s ps := by
  have hb : Below W.heap.size W (W.alloc (.cells (ps.map ptV).toArray 63)) := (Below.refl _ _).alloc (Nat.le_refl _) _
  have hlt := h.lt
  have hpl' : ∀ p ∈ ps, p.1 < W.heap.size := fun p hp => by
    obtain ⟨⟨u, hu⟩, _⟩ := (hps p hp).2
    exact World.block_lt_of_cell? _ _ hu
  refine cut_any (B := B) ((hb.block _ (by omega)).trans h.rd) ((hr.below (h.bel.mono hB)).below (hb.mono (by omega))) (by omega) hc hm ha hs hpl (fun p hp => ⟨by have := (hps p hp).1; omega, by have := (hps p hp).1; omega, (hps p hp).2.of_block (hb.block _ (hpl' p hp))⟩) (heap_alloc_new W _) (by omega) (fun p hp => by have := hpl' p hp; omega)
end

/-- What a block's cells are behind numbers stored into them. -/
def setArr (b : List Int) (s : Nat) : List (Nat × Nat) → Nat → Array Value → Array Value
  | [], _, cs => cs
  | p :: r, a, cs => setArr b s r (a + s) (cs.setIfInBounds p.2 (.int .i64 (rdN b a s)))
theorem setNums_arr (b : List Int) (s : Nat) {g : Nat} {T : TypeId} : ∀ (ps : List (Nat × Nat)) (a : Nat) (V : World) (cs : Array Value), (∀ p ∈ ps, p.1 = g) → V.heap[g]? = some (.cells cs T (0, 0)) → (setNums V b s ps a).heap[g]? = some (.cells (setArr b s ps a cs) T (0, 0))
  | [], _, _, _, _, h => h
  | p :: r, a, V, cs, hp, h => by
    refine setNums_arr b s r (a + s) _ _ (fun q hq => hp q (List.mem_cons_of_mem _ hq)) ?_
    rw [hp p (List.mem_cons_self ..)]
    exact heap_setCell_same V g _ _ _ _ h
section
variable {w0 W W' Wa w' : World} {A : Option Addr} {n c a B : Nat} {x : Cm} {u u' : Value} {va vn vl : Int} {b : List Int}
theorem RdSt.setCm (h : RdSt w0 W A n c a x u va vn vl) (i : Nat) (v : Value) (x' : Cm) (u' : Value) (hx : (cmC x u).setIfInBounds i v = cmC x' u') : RdSt w0 (W.setCell ⟨w0.heap.size + 2, i, none⟩ v) A n c a x' u' va vn vl := by
  have hlt := h.lt
  have ho : ∀ k, k ≠ w0.heap.size + 2 → (W.setCell ⟨w0.heap.size + 2, i, none⟩ v).heap[k]? = W.heap[k]? := fun k hk => heap_setCell_other _ _ _ _ hk
  refine ⟨(ho _ (by omega)).trans h.rd, (ho _ (by omega)).trans h.res, ?_, (ho _ (by omega)).trans h.b3, (ho _ (by omega)).trans h.b4, (ho _ (by omega)).trans h.b5, h.bel.setCell (by show w0.heap.size ≤ w0.heap.size + 2; omega) _⟩
  unfold CmAt
  rw [heap_setCell_same _ _ _ _ _ _ h.cm, hx]
theorem RdSt.text (h : RdSt w0 W A n c a x u va vn vl) {k : Nat} (h1 : w'.heap = (W.setCell ⟨w0.heap.size + 1, 1, none⟩ (.int .i64 ((a : Int) + (k : Int)))).heap) (h2 : w'.os = W.os) (h3 : w'.tape = W.tape) (h4 : w'.output = W.output) : RdSt w0 w' A n c (a + k) x u va vn vl := by
  have ho : ∀ j, j ≠ w0.heap.size + 1 → w'.heap[j]? = W.heap[j]? := fun j hj => by rw [h1]; exact heap_setCell_other _ _ _ _ hj
  refine ⟨?_, (ho _ (by omega)).trans h.res, (ho _ (by omega)).trans h.cm, (ho _ (by omega)).trans h.b3, (ho _ (by omega)).trans h.b4, (ho _ (by omega)).trans h.b5, h.bel.trans ⟨h2, h3, h4, by rw [h1]; simp, fun j hj => ho j (by omega)⟩⟩
  unfold RdAt
  rw [h1, heap_setCell_same _ _ _ _ _ _ h.rd, Int.natCast_add]
  rfl
theorem RdSt.free (h : RdSt w0 W A n c a x u va vn vl) (o : Nat) : W.frozen? ⟨w0.heap.size + 2, o, none⟩ = false := frozen_of_row W _ o _ _ h.cm
/-- cut into the command. -/
theorem step_cm (h : RdSt w0 W A n c a x u va vn vl) (hr : RB w0 B A n b) (hB : B ≤ w0.heap.size) (hc : n ≤ c) (hm : n ≤ 1000000) (ps : List (Nat × Nat)) (s a' : Nat) (ha' : a + s * ps.length = a') (ha : a' ≤ 1000000) (hs : s ≤ 8) (hpl : ps.length ≤ 100) (hps : ∀ p ∈ ps, p.1 = w0.heap.size + 2 ∧ p.2 < 13) (x' : Cm) (hx' : setArr b s ps a (cmC x u) = cmC x' u) :
    Calls Try.prog 34 #[.pointer (some ⟨w0.heap.size + 1, 0, none⟩), .int .i64 (s : Int), .slice (some ⟨W.heap.size, 0, none⟩) ps.length ps.length] (W.alloc (.cells (ps.map ptV).toArray 63)) fun e w' => e = .returned (.tuple #[]) ∧ RdSt w0 w' A n c a' x' u va vn vl := by
  subst ha'
  have hb : Below W.heap.size W (W.alloc (.cells (ps.map ptV).toArray 63)) := (Below.refl _ _).alloc (Nat.le_refl _) _
  have hA := h.below (hb.mono (by have := h.lt; omega))
  refine (cut_st h hr hB hc hm ps s ha hs hpl (fun p hp => ⟨by have := (hps p hp).1; omega, by
    rw [(hps p hp).1]; exact May.row h.cm (by show p.2 < 13; exact (hps p hp).2)⟩)).mono ?_
  rintro e w' ⟨rfl, C⟩
  refine ⟨rfl, hA.cut C (fun p hp => by have := (hps p hp).1; omega) ?_ ?_ ?_ ?_⟩
  · rw [setNums_arr b s ps a _ _ (fun p hp => (hps p hp).1) hA.cm, hx']
  · exact (setNums_other b s ps a _ (fun p hp => by have := (hps p hp).1; omega)).trans hA.b3
  · exact (setNums_other b s ps a _ (fun p hp => by have := (hps p hp).1; omega)).trans hA.b4
  · exact (setNums_other b s ps a _ (fun p hp => by have := (hps p hp).1; omega)).trans hA.b5
/-- cut into the two boxes. -/
theorem step_two (h : RdSt w0 W A n c a x u va vn vl) (hr : RB w0 B A n b) (hB : B ≤ w0.heap.size) (hc : n ≤ c) (hm : n ≤ 1000000) (ha : a + 2 ≤ 1000000) :
    Calls Try.prog 34 #[.pointer (some ⟨w0.heap.size + 1, 0, none⟩), .int .i64 1, .slice (some ⟨W.heap.size, 0, none⟩) 2 2] (W.alloc (.cells #[.pointer (some ⟨w0.heap.size + 3, 0, none⟩), .pointer (some ⟨w0.heap.size + 4, 0, none⟩)] 63)) fun e w' => e = .returned (.tuple #[]) ∧ RdSt w0 w' A n c (a + 2) x u (rdN b a 1) (rdN b (a + 1) 1) vl := by
  have hb : Below W.heap.size W (W.alloc (.cells #[.pointer (some ⟨w0.heap.size + 3, 0, none⟩), .pointer (some ⟨w0.heap.size + 4, 0, none⟩)] 63)) := (Below.refl _ _).alloc (Nat.le_refl _) _
  have hA := h.below (hb.mono (by have := h.lt; omega))
  refine (cut_st h hr hB hc hm [(w0.heap.size + 3, 0), (w0.heap.size + 4, 0)] 1 (by show a + 1 * 2 ≤ 1000000; omega) (by decide) (by show 2 ≤ 100; decide) (fun p hp => by
    simp only [List.mem_cons, List.not_mem_nil, or_false] at hp
    rcases hp with rfl | rfl
    · exact ⟨by show _ ≤ w0.heap.size + 3; omega, May.row h.b3 (show 0 < 1 by decide)⟩
    · exact ⟨by show _ ≤ w0.heap.size + 4; omega, May.row h.b4 (show 0 < 1 by decide)⟩)).mono ?_
  rintro e w' ⟨rfl, C⟩
  refine ⟨rfl, hA.cut C (fun p hp => by
    simp only [List.mem_cons, List.not_mem_nil, or_false] at hp
    rcases hp with rfl | rfl
    · show _ ≤ w0.heap.size + 3; omega
    · show _ ≤ w0.heap.size + 4; omega) ?_ ?_ ?_ ?_⟩
  · exact (setNums_other b 1 _ a _ (fun p hp => by
      simp only [List.mem_cons, List.not_mem_nil, or_false] at hp
      rcases hp with rfl | rfl
      · show w0.heap.size + 3 ≠ _; omega
      · show w0.heap.size + 4 ≠ _; omega)).trans hA.cm
  · show ((World.setCell _ ⟨w0.heap.size + 3, 0, none⟩ _).setCell ⟨w0.heap.size + 4, 0, none⟩ _).heap[w0.heap.size + 3]? = _
    rw [heap_setCell_other _ _ _ _ (by show w0.heap.size + 3 ≠ w0.heap.size + 4; omega), heap_setCell_same _ _ _ _ _ _ hA.b3]
    rfl
  · show ((World.setCell _ ⟨w0.heap.size + 3, 0, none⟩ _).setCell ⟨w0.heap.size + 4, 0, none⟩ _).heap[w0.heap.size + 4]? = _
    rw [heap_setCell_same _ (w0.heap.size + 4) 0 #[.int .i64 vn] 3 _ ((heap_setCell_other _ _ _ _ (by show w0.heap.size + 4 ≠ w0.heap.size + 3; omega)).trans hA.b4)]
    rfl
  · exact (setNums_other b 1 _ a _ (fun p hp => by
      simp only [List.mem_cons, List.not_mem_nil, or_false] at hp
      rcases hp with rfl | rfl
      · show w0.heap.size + 3 ≠ _; omega
      · show w0.heap.size + 4 ≠ _; omega)).trans hA.b5
/-- cut into the last box. -/
theorem step_ls (h : RdSt w0 W A n c a x u va vn vl) (hr : RB w0 B A n b) (hB : B ≤ w0.heap.size) (hc : n ≤ c) (hm : n ≤ 1000000) (ha : a + 1 ≤ 1000000) :
    Calls Try.prog 34 #[.pointer (some ⟨w0.heap.size + 1, 0, none⟩), .int .i64 1, .slice (some ⟨W.heap.size, 0, none⟩) 1 1] (W.alloc (.cells #[.pointer (some ⟨w0.heap.size + 5, 0, none⟩)] 63)) fun e w' => e = .returned (.tuple #[]) ∧ RdSt w0 w' A n c (a + 1) x u va vn (rdN b a 1) := by
  have hb : Below W.heap.size W (W.alloc (.cells #[.pointer (some ⟨w0.heap.size + 5, 0, none⟩)] 63)) := (Below.refl _ _).alloc (Nat.le_refl _) _
  have hA := h.below (hb.mono (by have := h.lt; omega))
  have one : ∀ p ∈ [(w0.heap.size + 5, 0)], p = (w0.heap.size + 5, 0) := fun p hp => List.mem_singleton.1 hp
  refine (cut_st h hr hB hc hm [(w0.heap.size + 5, 0)] 1 (by show a + 1 * 1 ≤ 1000000; omega) (by decide) (by show 1 ≤ 100; decide) (fun p hp => by
    rw [one p hp]
    exact ⟨by show _ ≤ w0.heap.size + 5; omega, May.row h.b5 (show 0 < 1 by decide)⟩)).mono ?_
  rintro e w' ⟨rfl, C⟩
  refine ⟨rfl, hA.cut C (fun p hp => by rw [one p hp]; show _ ≤ w0.heap.size + 5; omega) ?_ ?_ ?_ ?_⟩
  · exact (setNums_other b 1 _ a _ (fun p hp => by rw [one p hp]; show w0.heap.size + 5 ≠ _; omega)).trans hA.cm
  · exact (setNums_other b 1 _ a _ (fun p hp => by rw [one p hp]; show w0.heap.size + 5 ≠ _; omega)).trans hA.b3
  · exact (setNums_other b 1 _ a _ (fun p hp => by rw [one p hp]; show w0.heap.size + 5 ≠ _; omega)).trans hA.b4
  · exact (setNums_arr b 1 _ a _ _ (fun p hp => by rw [one p hp]) hA.b5)
/-- cut into a line's box, behind all others. -/
theorem step_ln (h : RdSt w0 W A n c a x u va vn vl) (hr : RB w0 B A n b) (hB : B ≤ w0.heap.size) (hc : n ≤ c) (hm : n ≤ 1000000) {kl : Nat} {cs cs' : Array Value} (hkl : w0.heap.size + 6 ≤ kl) (hbl : W.heap[kl]? = some (.cells cs 42 (0, 0))) (ps : List (Nat × Nat)) (s a' : Nat) (ha' : a + s * ps.length = a') (ha : a' ≤ 1000000) (hs : s ≤ 8) (hpl : ps.length ≤ 100) (hps : ∀ p ∈ ps, p.1 = kl ∧ p.2 < cs.size) (hcs : setArr b s ps a cs = cs') :
    Calls Try.prog 34 #[.pointer (some ⟨w0.heap.size + 1, 0, none⟩), .int .i64 (s : Int), .slice (some ⟨W.heap.size, 0, none⟩) ps.length ps.length] (W.alloc (.cells (ps.map ptV).toArray 63)) fun e w' => e = .returned (.tuple #[]) ∧ RdSt w0 w' A n c a' x u va vn vl ∧ w'.heap[kl]? = some (.cells cs' 42 (0, 0)) ∧ ∀ k, k ≠ w0.heap.size + 1 → k ≠ kl → k < W.heap.size → w'.heap[k]? = W.heap[k]? := by
  subst ha'
  have hb : Below W.heap.size W (W.alloc (.cells (ps.map ptV).toArray 63)) := (Below.refl _ _).alloc (Nat.le_refl _) _
  have hA := h.below (hb.mono (by have := h.lt; omega))
  have hklt : kl < W.heap.size := (Array.getElem?_eq_some_iff.1 hbl).1
  refine (cut_st h hr hB hc hm ps s ha hs hpl (fun p hp => ⟨by have := (hps p hp).1; omega, by
    rw [(hps p hp).1]; exact May.row hbl (hps p hp).2⟩)).mono ?_
  rintro e w' ⟨rfl, C⟩
  refine ⟨rfl, hA.cut C (fun p hp => by have := (hps p hp).1; omega) ?_ ?_ ?_ ?_, ?_, fun k h1 h2 h3 => ?_⟩
  · exact (setNums_other b s ps a _ (fun p hp => by have := (hps p hp).1; omega)).trans hA.cm
  · exact (setNums_other b s ps a _ (fun p hp => by have := (hps p hp).1; omega)).trans hA.b3
  · exact (setNums_other b s ps a _ (fun p hp => by have := (hps p hp).1; omega)).trans hA.b4
  · exact (setNums_other b s ps a _ (fun p hp => by have := (hps p hp).1; omega)).trans hA.b5
  · rw [C.block kl (by omega), setNums_arr b s ps a _ _ (fun p hp => (hps p hp).1) ((hb.block kl hklt).trans hbl), hcs]
  · exact (C.one h1 (fun p hp e => h2 ((hps p hp).1 ▸ e.symm))).trans (hb.block k h3)
end
theorem cm_size : (Try.prog.info? 24).map (·.size) = some 13 := by kernel_rfl
/-- A command stored whole. -/
theorem cm_box {w0 w : World} {g : Nat} {y : Cm} {u0 : Value} (hz : CmAt w g y u0) (hb : Below w0.heap.size w0 w) (hg : w0.heap.size ≤ g) (x : Cm) (u : Value) :
    CmAt (((((((((((((w.setCell ⟨g, 0, none⟩ (.int .i64 x.k)).setCell ⟨g, 1, none⟩ (.int .i64 x.y)).setCell ⟨g, 2, none⟩ (.int .i64 x.n)).setCell ⟨g, 3, none⟩ (.int .i64 x.f)).setCell ⟨g, 4, none⟩ (.int .i64 x.o)).setCell ⟨g, 5, none⟩ (.int .i64 x.d)).setCell ⟨g, 6, none⟩ (.int .i64 x.p)).setCell ⟨g, 7, none⟩ (.int .i64 x.c)).setCell ⟨g, 8, none⟩ (.int .i64 x.i)).setCell ⟨g, 9, none⟩ (.int .i64 x.a)).setCell ⟨g, 10, none⟩ (.bool x.ab)).setCell ⟨g, 11, none⟩ (.string x.nm)).setCell ⟨g, 12, none⟩ (u)) g x u ∧ Below w0.heap.size w0 (((((((((((((w.setCell ⟨g, 0, none⟩ (.int .i64 x.k)).setCell ⟨g, 1, none⟩ (.int .i64 x.y)).setCell ⟨g, 2, none⟩ (.int .i64 x.n)).setCell ⟨g, 3, none⟩ (.int .i64 x.f)).setCell ⟨g, 4, none⟩ (.int .i64 x.o)).setCell ⟨g, 5, none⟩ (.int .i64 x.d)).setCell ⟨g, 6, none⟩ (.int .i64 x.p)).setCell ⟨g, 7, none⟩ (.int .i64 x.c)).setCell ⟨g, 8, none⟩ (.int .i64 x.i)).setCell ⟨g, 9, none⟩ (.int .i64 x.a)).setCell ⟨g, 10, none⟩ (.bool x.ab)).setCell ⟨g, 11, none⟩ (.string x.nm)).setCell ⟨g, 12, none⟩ (u)) := by
  have e0 : (w.setCell ⟨g, 0, none⟩ (.int .i64 x.k)).heap[g]? = some (.cells #[.int .i64 x.k, .int .i64 y.y, .int .i64 y.n, .int .i64 y.f, .int .i64 y.o, .int .i64 y.d, .int .i64 y.p, .int .i64 y.c, .int .i64 y.i, .int .i64 y.a, .bool y.ab, .string y.nm, u0] 24 (0, 0)) := heap_setCell_same _ g 0 _ _ (.int .i64 x.k) hz
  have e1 : ((w.setCell ⟨g, 0, none⟩ (.int .i64 x.k)).setCell ⟨g, 1, none⟩ (.int .i64 x.y)).heap[g]? = some (.cells #[.int .i64 x.k, .int .i64 x.y, .int .i64 y.n, .int .i64 y.f, .int .i64 y.o, .int .i64 y.d, .int .i64 y.p, .int .i64 y.c, .int .i64 y.i, .int .i64 y.a, .bool y.ab, .string y.nm, u0] 24 (0, 0)) := heap_setCell_same _ g 1 _ _ (.int .i64 x.y) e0
  have e2 : (((w.setCell ⟨g, 0, none⟩ (.int .i64 x.k)).setCell ⟨g, 1, none⟩ (.int .i64 x.y)).setCell ⟨g, 2, none⟩ (.int .i64 x.n)).heap[g]? = some (.cells #[.int .i64 x.k, .int .i64 x.y, .int .i64 x.n, .int .i64 y.f, .int .i64 y.o, .int .i64 y.d, .int .i64 y.p, .int .i64 y.c, .int .i64 y.i, .int .i64 y.a, .bool y.ab, .string y.nm, u0] 24 (0, 0)) := heap_setCell_same _ g 2 _ _ (.int .i64 x.n) e1
  have e3 : ((((w.setCell ⟨g, 0, none⟩ (.int .i64 x.k)).setCell ⟨g, 1, none⟩ (.int .i64 x.y)).setCell ⟨g, 2, none⟩ (.int .i64 x.n)).setCell ⟨g, 3, none⟩ (.int .i64 x.f)).heap[g]? = some (.cells #[.int .i64 x.k, .int .i64 x.y, .int .i64 x.n, .int .i64 x.f, .int .i64 y.o, .int .i64 y.d, .int .i64 y.p, .int .i64 y.c, .int .i64 y.i, .int .i64 y.a, .bool y.ab, .string y.nm, u0] 24 (0, 0)) := heap_setCell_same _ g 3 _ _ (.int .i64 x.f) e2
  have e4 : (((((w.setCell ⟨g, 0, none⟩ (.int .i64 x.k)).setCell ⟨g, 1, none⟩ (.int .i64 x.y)).setCell ⟨g, 2, none⟩ (.int .i64 x.n)).setCell ⟨g, 3, none⟩ (.int .i64 x.f)).setCell ⟨g, 4, none⟩ (.int .i64 x.o)).heap[g]? = some (.cells #[.int .i64 x.k, .int .i64 x.y, .int .i64 x.n, .int .i64 x.f, .int .i64 x.o, .int .i64 y.d, .int .i64 y.p, .int .i64 y.c, .int .i64 y.i, .int .i64 y.a, .bool y.ab, .string y.nm, u0] 24 (0, 0)) := heap_setCell_same _ g 4 _ _ (.int .i64 x.o) e3
  have e5 : ((((((w.setCell ⟨g, 0, none⟩ (.int .i64 x.k)).setCell ⟨g, 1, none⟩ (.int .i64 x.y)).setCell ⟨g, 2, none⟩ (.int .i64 x.n)).setCell ⟨g, 3, none⟩ (.int .i64 x.f)).setCell ⟨g, 4, none⟩ (.int .i64 x.o)).setCell ⟨g, 5, none⟩ (.int .i64 x.d)).heap[g]? = some (.cells #[.int .i64 x.k, .int .i64 x.y, .int .i64 x.n, .int .i64 x.f, .int .i64 x.o, .int .i64 x.d, .int .i64 y.p, .int .i64 y.c, .int .i64 y.i, .int .i64 y.a, .bool y.ab, .string y.nm, u0] 24 (0, 0)) := heap_setCell_same _ g 5 _ _ (.int .i64 x.d) e4
  have e6 : (((((((w.setCell ⟨g, 0, none⟩ (.int .i64 x.k)).setCell ⟨g, 1, none⟩ (.int .i64 x.y)).setCell ⟨g, 2, none⟩ (.int .i64 x.n)).setCell ⟨g, 3, none⟩ (.int .i64 x.f)).setCell ⟨g, 4, none⟩ (.int .i64 x.o)).setCell ⟨g, 5, none⟩ (.int .i64 x.d)).setCell ⟨g, 6, none⟩ (.int .i64 x.p)).heap[g]? = some (.cells #[.int .i64 x.k, .int .i64 x.y, .int .i64 x.n, .int .i64 x.f, .int .i64 x.o, .int .i64 x.d, .int .i64 x.p, .int .i64 y.c, .int .i64 y.i, .int .i64 y.a, .bool y.ab, .string y.nm, u0] 24 (0, 0)) := heap_setCell_same _ g 6 _ _ (.int .i64 x.p) e5
  have e7 : ((((((((w.setCell ⟨g, 0, none⟩ (.int .i64 x.k)).setCell ⟨g, 1, none⟩ (.int .i64 x.y)).setCell ⟨g, 2, none⟩ (.int .i64 x.n)).setCell ⟨g, 3, none⟩ (.int .i64 x.f)).setCell ⟨g, 4, none⟩ (.int .i64 x.o)).setCell ⟨g, 5, none⟩ (.int .i64 x.d)).setCell ⟨g, 6, none⟩ (.int .i64 x.p)).setCell ⟨g, 7, none⟩ (.int .i64 x.c)).heap[g]? = some (.cells #[.int .i64 x.k, .int .i64 x.y, .int .i64 x.n, .int .i64 x.f, .int .i64 x.o, .int .i64 x.d, .int .i64 x.p, .int .i64 x.c, .int .i64 y.i, .int .i64 y.a, .bool y.ab, .string y.nm, u0] 24 (0, 0)) := heap_setCell_same _ g 7 _ _ (.int .i64 x.c) e6
  have e8 : (((((((((w.setCell ⟨g, 0, none⟩ (.int .i64 x.k)).setCell ⟨g, 1, none⟩ (.int .i64 x.y)).setCell ⟨g, 2, none⟩ (.int .i64 x.n)).setCell ⟨g, 3, none⟩ (.int .i64 x.f)).setCell ⟨g, 4, none⟩ (.int .i64 x.o)).setCell ⟨g, 5, none⟩ (.int .i64 x.d)).setCell ⟨g, 6, none⟩ (.int .i64 x.p)).setCell ⟨g, 7, none⟩ (.int .i64 x.c)).setCell ⟨g, 8, none⟩ (.int .i64 x.i)).heap[g]? = some (.cells #[.int .i64 x.k, .int .i64 x.y, .int .i64 x.n, .int .i64 x.f, .int .i64 x.o, .int .i64 x.d, .int .i64 x.p, .int .i64 x.c, .int .i64 x.i, .int .i64 y.a, .bool y.ab, .string y.nm, u0] 24 (0, 0)) := heap_setCell_same _ g 8 _ _ (.int .i64 x.i) e7
  have e9 : ((((((((((w.setCell ⟨g, 0, none⟩ (.int .i64 x.k)).setCell ⟨g, 1, none⟩ (.int .i64 x.y)).setCell ⟨g, 2, none⟩ (.int .i64 x.n)).setCell ⟨g, 3, none⟩ (.int .i64 x.f)).setCell ⟨g, 4, none⟩ (.int .i64 x.o)).setCell ⟨g, 5, none⟩ (.int .i64 x.d)).setCell ⟨g, 6, none⟩ (.int .i64 x.p)).setCell ⟨g, 7, none⟩ (.int .i64 x.c)).setCell ⟨g, 8, none⟩ (.int .i64 x.i)).setCell ⟨g, 9, none⟩ (.int .i64 x.a)).heap[g]? = some (.cells #[.int .i64 x.k, .int .i64 x.y, .int .i64 x.n, .int .i64 x.f, .int .i64 x.o, .int .i64 x.d, .int .i64 x.p, .int .i64 x.c, .int .i64 x.i, .int .i64 x.a, .bool y.ab, .string y.nm, u0] 24 (0, 0)) := heap_setCell_same _ g 9 _ _ (.int .i64 x.a) e8
  have e10 : (((((((((((w.setCell ⟨g, 0, none⟩ (.int .i64 x.k)).setCell ⟨g, 1, none⟩ (.int .i64 x.y)).setCell ⟨g, 2, none⟩ (.int .i64 x.n)).setCell ⟨g, 3, none⟩ (.int .i64 x.f)).setCell ⟨g, 4, none⟩ (.int .i64 x.o)).setCell ⟨g, 5, none⟩ (.int .i64 x.d)).setCell ⟨g, 6, none⟩ (.int .i64 x.p)).setCell ⟨g, 7, none⟩ (.int .i64 x.c)).setCell ⟨g, 8, none⟩ (.int .i64 x.i)).setCell ⟨g, 9, none⟩ (.int .i64 x.a)).setCell ⟨g, 10, none⟩ (.bool x.ab)).heap[g]? = some (.cells #[.int .i64 x.k, .int .i64 x.y, .int .i64 x.n, .int .i64 x.f, .int .i64 x.o, .int .i64 x.d, .int .i64 x.p, .int .i64 x.c, .int .i64 x.i, .int .i64 x.a, .bool x.ab, .string y.nm, u0] 24 (0, 0)) := heap_setCell_same _ g 10 _ _ (.bool x.ab) e9
  have e11 : ((((((((((((w.setCell ⟨g, 0, none⟩ (.int .i64 x.k)).setCell ⟨g, 1, none⟩ (.int .i64 x.y)).setCell ⟨g, 2, none⟩ (.int .i64 x.n)).setCell ⟨g, 3, none⟩ (.int .i64 x.f)).setCell ⟨g, 4, none⟩ (.int .i64 x.o)).setCell ⟨g, 5, none⟩ (.int .i64 x.d)).setCell ⟨g, 6, none⟩ (.int .i64 x.p)).setCell ⟨g, 7, none⟩ (.int .i64 x.c)).setCell ⟨g, 8, none⟩ (.int .i64 x.i)).setCell ⟨g, 9, none⟩ (.int .i64 x.a)).setCell ⟨g, 10, none⟩ (.bool x.ab)).setCell ⟨g, 11, none⟩ (.string x.nm)).heap[g]? = some (.cells #[.int .i64 x.k, .int .i64 x.y, .int .i64 x.n, .int .i64 x.f, .int .i64 x.o, .int .i64 x.d, .int .i64 x.p, .int .i64 x.c, .int .i64 x.i, .int .i64 x.a, .bool x.ab, .string x.nm, u0] 24 (0, 0)) := heap_setCell_same _ g 11 _ _ (.string x.nm) e10
  have e12 : (((((((((((((w.setCell ⟨g, 0, none⟩ (.int .i64 x.k)).setCell ⟨g, 1, none⟩ (.int .i64 x.y)).setCell ⟨g, 2, none⟩ (.int .i64 x.n)).setCell ⟨g, 3, none⟩ (.int .i64 x.f)).setCell ⟨g, 4, none⟩ (.int .i64 x.o)).setCell ⟨g, 5, none⟩ (.int .i64 x.d)).setCell ⟨g, 6, none⟩ (.int .i64 x.p)).setCell ⟨g, 7, none⟩ (.int .i64 x.c)).setCell ⟨g, 8, none⟩ (.int .i64 x.i)).setCell ⟨g, 9, none⟩ (.int .i64 x.a)).setCell ⟨g, 10, none⟩ (.bool x.ab)).setCell ⟨g, 11, none⟩ (.string x.nm)).setCell ⟨g, 12, none⟩ (u)).heap[g]? = some (.cells #[.int .i64 x.k, .int .i64 x.y, .int .i64 x.n, .int .i64 x.f, .int .i64 x.o, .int .i64 x.d, .int .i64 x.p, .int .i64 x.c, .int .i64 x.i, .int .i64 x.a, .bool x.ab, .string x.nm, u] 24 (0, 0)) := heap_setCell_same _ g 12 _ _ (u) e11
  exact ⟨e12, (((((((((((((hb.setCell (p := ⟨g, 0, none⟩) hg _).setCell (p := ⟨g, 1, none⟩) hg _).setCell (p := ⟨g, 2, none⟩) hg _).setCell (p := ⟨g, 3, none⟩) hg _).setCell (p := ⟨g, 4, none⟩) hg _).setCell (p := ⟨g, 5, none⟩) hg _).setCell (p := ⟨g, 6, none⟩) hg _).setCell (p := ⟨g, 7, none⟩) hg _).setCell (p := ⟨g, 8, none⟩) hg _).setCell (p := ⟨g, 9, none⟩) hg _).setCell (p := ⟨g, 10, none⟩) hg _).setCell (p := ⟨g, 11, none⟩) hg _).setCell (p := ⟨g, 12, none⟩) hg _)⟩
theorem cm_other {w : World} {g k : Nat} (hk : k ≠ g) (x : Cm) (u : Value) : (((((((((((((w.setCell ⟨g, 0, none⟩ (.int .i64 x.k)).setCell ⟨g, 1, none⟩ (.int .i64 x.y)).setCell ⟨g, 2, none⟩ (.int .i64 x.n)).setCell ⟨g, 3, none⟩ (.int .i64 x.f)).setCell ⟨g, 4, none⟩ (.int .i64 x.o)).setCell ⟨g, 5, none⟩ (.int .i64 x.d)).setCell ⟨g, 6, none⟩ (.int .i64 x.p)).setCell ⟨g, 7, none⟩ (.int .i64 x.c)).setCell ⟨g, 8, none⟩ (.int .i64 x.i)).setCell ⟨g, 9, none⟩ (.int .i64 x.a)).setCell ⟨g, 10, none⟩ (.bool x.ab)).setCell ⟨g, 11, none⟩ (.string x.nm)).setCell ⟨g, 12, none⟩ (u)).heap[k]? = w.heap[k]? := by
  rw [heap_setCell_other _ _ _ _ (show k ≠ g from hk), heap_setCell_other _ _ _ _ (show k ≠ g from hk), heap_setCell_other _ _ _ _ (show k ≠ g from hk), heap_setCell_other _ _ _ _ (show k ≠ g from hk), heap_setCell_other _ _ _ _ (show k ≠ g from hk), heap_setCell_other _ _ _ _ (show k ≠ g from hk), heap_setCell_other _ _ _ _ (show k ≠ g from hk), heap_setCell_other _ _ _ _ (show k ≠ g from hk), heap_setCell_other _ _ _ _ (show k ≠ g from hk), heap_setCell_other _ _ _ _ (show k ≠ g from hk), heap_setCell_other _ _ _ _ (show k ≠ g from hk), heap_setCell_other _ _ _ _ (show k ≠ g from hk), heap_setCell_other _ _ _ _ (show k ≠ g from hk)]
theorem CmAt.free {w : World} {g : Nat} {x : Cm} {u : Value} (h : CmAt w g x u) (o : Nat) : w.frozen? ⟨g, o, none⟩ = false := frozen_of_row w _ o _ _ h
def read0 (w : World) (A : Option Addr) (n c : Nat) : World := ((((((w.alloc (.cells #[.int .i64 0, .int .i64 0, .int .i64 0, .int .i64 0, .int .i64 0, .int .i64 0, .int .i64 0, .int .i64 0, .int .i64 0, .int .i64 0, .bool false, .string ⟨#[]⟩, .slice none 0 0] 24)).alloc (.cells #[.slice A n c, .int .i64 0] 61)).alloc (.cells #[.int .i64 0, .int .i64 0, .int .i64 0, .int .i64 0, .int .i64 0, .int .i64 0, .int .i64 0, .int .i64 0, .int .i64 0, .int .i64 0, .bool false, .string ⟨#[]⟩, .slice none 0 0] 24)).alloc (.cells #[.int .i64 0] 3)).alloc (.cells #[.int .i64 0] 3)).alloc (.cells #[.int .i64 0] 3))
theorem read0_st (w : World) (A : Option Addr) (n c : Nat) : RdSt w (read0 w A n c) A n c 0 cm0 (.slice none 0 0) 0 0 0 ∧ (read0 w A n c).heap.size = w.heap.size + 6 := by
  unfold read0
  obtain ⟨w1, e1, s1, b1, n1⟩ : ∃ w1, w1 = w.alloc (.cells #[.int .i64 0, .int .i64 0, .int .i64 0, .int .i64 0, .int .i64 0, .int .i64 0, .int .i64 0, .int .i64 0, .int .i64 0, .int .i64 0, .bool false, .string ⟨#[]⟩, .slice none 0 0] 24) ∧ w1.heap.size = w.heap.size + 1 ∧ Below w.heap.size w w1 ∧ w1.heap[w.heap.size]? = _ := ⟨_, rfl, by simp, (Below.refl _ _).alloc (Nat.le_refl _) _, heap_alloc_new w _⟩
  rw [← e1]
  obtain ⟨w2, e2, s2, b2, n2⟩ : ∃ w2, w2 = w1.alloc (.cells #[.slice A n c, .int .i64 0] 61) ∧ w2.heap.size = w1.heap.size + 1 ∧ Below w1.heap.size w1 w2 ∧ w2.heap[w1.heap.size]? = _ := ⟨_, rfl, by simp, (Below.refl _ _).alloc (Nat.le_refl _) _, heap_alloc_new w1 _⟩
  rw [← e2]
  obtain ⟨w3, e3, s3, b3, n3⟩ : ∃ w3, w3 = w2.alloc (.cells #[.int .i64 0, .int .i64 0, .int .i64 0, .int .i64 0, .int .i64 0, .int .i64 0, .int .i64 0, .int .i64 0, .int .i64 0, .int .i64 0, .bool false, .string ⟨#[]⟩, .slice none 0 0] 24) ∧ w3.heap.size = w2.heap.size + 1 ∧ Below w2.heap.size w2 w3 ∧ w3.heap[w2.heap.size]? = _ := ⟨_, rfl, by simp, (Below.refl _ _).alloc (Nat.le_refl _) _, heap_alloc_new w2 _⟩
  rw [← e3]
  obtain ⟨w4, e4, s4, b4, n4⟩ : ∃ w4, w4 = w3.alloc (.cells #[.int .i64 0] 3) ∧ w4.heap.size = w3.heap.size + 1 ∧ Below w3.heap.size w3 w4 ∧ w4.heap[w3.heap.size]? = _ := ⟨_, rfl, by simp, (Below.refl _ _).alloc (Nat.le_refl _) _, heap_alloc_new w3 _⟩
  rw [← e4]
  obtain ⟨w5, e5, s5, b5, n5⟩ : ∃ w5, w5 = w4.alloc (.cells #[.int .i64 0] 3) ∧ w5.heap.size = w4.heap.size + 1 ∧ Below w4.heap.size w4 w5 ∧ w5.heap[w4.heap.size]? = _ := ⟨_, rfl, by simp, (Below.refl _ _).alloc (Nat.le_refl _) _, heap_alloc_new w4 _⟩
  rw [← e5]
  obtain ⟨w6, e6, s6, b6, n6⟩ : ∃ w6, w6 = w5.alloc (.cells #[.int .i64 0] 3) ∧ w6.heap.size = w5.heap.size + 1 ∧ Below w5.heap.size w5 w6 ∧ w6.heap[w5.heap.size]? = _ := ⟨_, rfl, by simp, (Below.refl _ _).alloc (Nat.le_refl _) _, heap_alloc_new w5 _⟩
  rw [← e6]
  clear e1 e2 e3 e4 e5 e6
  have z1 : w1.heap.size = w.heap.size + 1 := s1
  have z2 : w2.heap.size = w.heap.size + 2 := by omega
  have z3 : w3.heap.size = w.heap.size + 3 := by omega
  have z4 : w4.heap.size = w.heap.size + 4 := by omega
  have z5 : w5.heap.size = w.heap.size + 5 := by omega
  rw [z1] at n2
  rw [z2] at n3
  rw [z3] at n4
  rw [z4] at n5
  rw [z5] at n6
  have k56 := b6.block
  have k45 := fun k hk => (b6.block k (Nat.lt_of_lt_of_le hk b5.size)).trans (b5.block k hk)
  have k34 := fun k hk => (k45 k (Nat.lt_of_lt_of_le hk b4.size)).trans (b4.block k hk)
  have k23 := fun k hk => (k34 k (Nat.lt_of_lt_of_le hk b3.size)).trans (b3.block k hk)
  have k12 := fun k hk => (k23 k (Nat.lt_of_lt_of_le hk b2.size)).trans (b2.block k hk)
  exact ⟨⟨(k23 _ (by omega)).trans n2, (k12 _ (by omega)).trans n1, (k34 _ (by omega)).trans n3, (k45 _ (by omega)).trans n4, (k56 _ (by omega)).trans n5, n6, b1.trans ((b2.mono (by omega)).trans ((b3.mono (by omega)).trans ((b4.mono (by omega)).trans ((b5.mono (by omega)).trans (b6.mono (by omega))))))⟩, by omega⟩
set_option maxHeartbeats 3200000 in
theorem read_any {w : World} {A : Option Addr} {n c B : Nat} {b : List Int} (hr : RB w B A n b) (hB : B ≤ w.heap.size) (hc : n ≤ c) (hm : n ≤ 1000000) :
    Calls Try.prog 27 #[.slice A n c] w fun e w' => Below w.heap.size w w' ∧ ∃ u, e = .returned (.agg (cmC (readP b) u)) ∧ LOwn w' w.heap.size u (readP b).ls := by
  obtain ⟨S0', hsz⟩ := read0_st w A n c
  obtain ⟨W0, hW0⟩ : ∃ W0, W0 = ((((((w.alloc (.cells #[.int .i64 0, .int .i64 0, .int .i64 0, .int .i64 0, .int .i64 0, .int .i64 0, .int .i64 0, .int .i64 0, .int .i64 0, .int .i64 0, .bool false, .string ⟨#[]⟩, .slice none 0 0] 24)).alloc (.cells #[.slice A n c, .int .i64 0] 61)).alloc (.cells #[.int .i64 0, .int .i64 0, .int .i64 0, .int .i64 0, .int .i64 0, .int .i64 0, .int .i64 0, .int .i64 0, .int .i64 0, .int .i64 0, .bool false, .string ⟨#[]⟩, .slice none 0 0] 24)).alloc (.cells #[.int .i64 0] 3)).alloc (.cells #[.int .i64 0] 3)).alloc (.cells #[.int .i64 0] 3)) := ⟨_, rfl⟩
  have hW0' : read0 w A n c = W0 := by rw [hW0]; rfl
  rw [hW0'] at S0' hsz
  have S0 := Lib.hid S0'
  have HR := Lib.hid hr
  clear S0' hW0' hr
  go_enter Try.func27, Try.ntmps27
  go_wp2_with fail
  rw [← hW0]
  simp only [Nat.add_assoc, Nat.reduceAdd]
  rw [← hsz]
  clear hW0
  refine (step_cm S0.out HR.out hB hc hm [(w.heap.size + 2, 0)] 1 1 rfl (by decide) (by decide) (show 1 ≤ 100 by decide) (fun p hp => by
    simp only [List.mem_cons, List.not_mem_nil, or_false] at hp
    rcases hp with rfl <;> exact ⟨rfl, by simp⟩) ⟨rdN b 0 1, 0, 0, 0, 0, 0, 0, 0, 0, 0, false, ⟨#[]⟩, []⟩ rfl).mono ?_
  rintro e W1 ⟨rfl, s1⟩
  have S1 := Lib.hid s1
  clear s1 S0
  go_wp2_with fail
  refine (step_cm S1.out HR.out hB hc hm [(w.heap.size + 2, 1), (w.heap.size + 2, 2), (w.heap.size + 2, 3), (w.heap.size + 2, 4), (w.heap.size + 2, 5), (w.heap.size + 2, 6)] 2 13 rfl (by decide) (by decide) (show 6 ≤ 100 by decide) (fun p hp => by
    simp only [List.mem_cons, List.not_mem_nil, or_false] at hp
    rcases hp with rfl | rfl | rfl | rfl | rfl | rfl <;> exact ⟨rfl, by simp⟩) ⟨rdN b 0 1, rdN b 1 2, rdN b 3 2, rdN b 5 2, rdN b 7 2, rdN b 9 2, rdN b 11 2, 0, 0, 0, false, ⟨#[]⟩, []⟩ rfl).mono ?_
  rintro e W2 ⟨rfl, s2⟩
  have S2 := Lib.hid s2
  clear s2 S1
  go_wp2_with fail
  refine (step_cm S2.out HR.out hB hc hm [(w.heap.size + 2, 7)] 4 17 rfl (by decide) (by decide) (show 1 ≤ 100 by decide) (fun p hp => by
    simp only [List.mem_cons, List.not_mem_nil, or_false] at hp
    rcases hp with rfl <;> exact ⟨rfl, by simp⟩) ⟨rdN b 0 1, rdN b 1 2, rdN b 3 2, rdN b 5 2, rdN b 7 2, rdN b 9 2, rdN b 11 2, rdN b 13 4, 0, 0, false, ⟨#[]⟩, []⟩ rfl).mono ?_
  rintro e W3 ⟨rfl, s3⟩
  have S3 := Lib.hid s3
  clear s3 S2
  go_wp2_with fail
  refine (step_cm S3.out HR.out hB hc hm [(w.heap.size + 2, 8)] 1 18 rfl (by decide) (by decide) (show 1 ≤ 100 by decide) (fun p hp => by
    simp only [List.mem_cons, List.not_mem_nil, or_false] at hp
    rcases hp with rfl <;> exact ⟨rfl, by simp⟩) ⟨rdN b 0 1, rdN b 1 2, rdN b 3 2, rdN b 5 2, rdN b 7 2, rdN b 9 2, rdN b 11 2, rdN b 13 4, rdN b 17 1, 0, false, ⟨#[]⟩, []⟩ rfl).mono ?_
  rintro e W4 ⟨rfl, s4⟩
  have S4 := Lib.hid s4
  clear s4 S3
  go_wp2_with fail
  refine (step_cm S4.out HR.out hB hc hm [(w.heap.size + 2, 9)] 8 26 rfl (by decide) (by decide) (show 1 ≤ 100 by decide) (fun p hp => by
    simp only [List.mem_cons, List.not_mem_nil, or_false] at hp
    rcases hp with rfl <;> exact ⟨rfl, by simp⟩) ⟨rdN b 0 1, rdN b 1 2, rdN b 3 2, rdN b 5 2, rdN b 7 2, rdN b 9 2, rdN b 11 2, rdN b 13 4, rdN b 17 1, rdN b 18 8, false, ⟨#[]⟩, []⟩ rfl).mono ?_
  rintro e W5 ⟨rfl, s5⟩
  have S5 := Lib.hid s5
  clear s5 S4
  go_wp2_with fail
  refine (step_two S5.out HR.out hB hc hm (by decide)).mono ?_
  rintro e W6 ⟨rfl, s6⟩
  obtain ⟨nl, hnl⟩ : ∃ nl : Nat, rdN b (26 + 1) 1 = (nl : Int) := ⟨_, (Int.toNat_of_nonneg (rdN_1 b HR.out.bytes 27).1).symm⟩
  have hnl256 : nl < 256 := by have := (rdN_1 b HR.out.bytes 27).2; rw [show 27 = 26 + 1 from rfl, hnl] at this; omega
  rw [hnl] at s6
  have c3 := cell_of_row W6 _ 0 _ _ (0, 0) s6.b3
  have c10 := s6.cm.cells.2.2.2.2.2.2.2.2.2.2.1
  have f10 := s6.free 10
  have c3 : W6.cell? ⟨w.heap.size + 3, 0, none⟩ = some (.int .i64 (rdN b 26 1)) := c3
  have s6' := s6.setCm 10 (.bool (rdN b 26 1 != 0)) ⟨rdN b 0 1, rdN b 1 2, rdN b 3 2, rdN b 5 2, rdN b 7 2, rdN b 9 2, rdN b 11 2, rdN b 13 4, rdN b 17 1, rdN b 18 8, rdN b 26 1 != 0, ⟨#[]⟩, []⟩ (.slice none 0 0) rfl
  have c4 : (W6.setCell ⟨w.heap.size + 2, 10, none⟩ (.bool (rdN b 26 1 != 0))).cell? ⟨w.heap.size + 4, 0, none⟩ = some (.int .i64 (nl : Int)) := cell_of_row _ _ 0 _ _ (0, 0) s6'.b4
  have S6 := Lib.hid s6'
  clear s6 s6' S5
  go_wp2_with fail
  obtain ⟨W6', hW6⟩ : ∃ W6', W6' = W6.setCell ⟨w.heap.size + 2, 10, none⟩ (.bool (rdN b 26 1 != 0)) := ⟨_, rfl⟩
  rw [← hW6] at S6 ⊢
  clear c3 c10 f10 c4 hW6
  refine (text_any nl S6.out.rd ((HR.out.below (S6.out.bel.mono hB))) (by omega) hc hm (by decide) (by omega)).mono ?_
  rintro e W7 ⟨rfl, h1, h2, h3, h4⟩
  have s7 := S6.out.text h1 h2 h3 h4
  clear h1 h2 h3 h4 S6
  have c11 := s7.cm.cells.2.2.2.2.2.2.2.2.2.2.2.1
  have f11 := s7.free 11
  have S7 := Lib.hid (s7.setCm 11 (.string (strOfNums ((b.drop 28).take nl))) ⟨rdN b 0 1, rdN b 1 2, rdN b 3 2, rdN b 5 2, rdN b 7 2, rdN b 9 2, rdN b 11 2, rdN b 13 4, rdN b 17 1, rdN b 18 8, rdN b 26 1 != 0, strOfNums ((b.drop 28).take nl), []⟩ (.slice none 0 0) rfl)
  clear s7
  go_wp2_with fail
  obtain ⟨W8, hW8⟩ : ∃ W8, W8 = W7.setCell ⟨w.heap.size + 2, 11, none⟩ (.string (strOfNums ((b.drop 28).take nl))) := ⟨_, rfl⟩
  have z8 : W7.heap.size = W8.heap.size := by rw [hW8]; simp
  rw [← hW8] at S7 ⊢
  rw [z8]
  clear hW8 z8 c11 f11
  refine (step_ls S7.out HR.out hB hc hm (by omega)).mono ?_
  rintro e W9 ⟨rfl, s9⟩
  obtain ⟨nL, hnL⟩ : ∃ nL : Nat, rdN b (26 + 2 + nl) 1 = (nL : Int) := ⟨_, (Int.toNat_of_nonneg (rdN_1 b HR.out.bytes (26 + 2 + nl)).1).symm⟩
  have hnL256 : nL < 256 := by have := (rdN_1 b HR.out.bytes (26 + 2 + nl)).2; rw [hnL] at this; omega
  rw [hnL] at s9
  have c5 : W9.cell? ⟨w.heap.size + 5, 0, none⟩ = some (.int .i64 (nL : Int)) := cell_of_row W9 _ 0 _ _ (0, 0) s9.b5
  obtain ⟨X, hX⟩ : ∃ X : Cm, X = ⟨rdN b 0 1, rdN b 1 2, rdN b 3 2, rdN b 5 2, rdN b 7 2, rdN b 9 2, rdN b 11 2, rdN b 13 4, rdN b 17 1, rdN b 18 8, rdN b 26 1 != 0, strOfNums ((b.drop 28).take nl), []⟩ := ⟨_, rfl⟩
  rw [← hX] at s9
  have S9 := Lib.hid s9
  have HX := Lib.hid hX
  have HB := Lib.hid HR.out.bytes
  clear s9 S7 hX
  go_wp2_with fail
  go_loopw [51] (fun i wr => ∃ j : Nat, j ≤ nL ∧ i = .int .i64 j ∧ Hid (∃ v, RdSt w wr A n c (29 + nl + 14 * j) X v (rdN b 26 1) (nl : Int) (nL : Int) ∧ LOwn wr (w.heap.size + 6) v (rdLines b (29 + nl) j))) (fun i _ => nL - (intOf i).toNat)
  case atStart => exact ⟨0, Nat.zero_le _, rfl, Lib.hid ⟨_, by rw [show 29 + nl + 14 * 0 = 26 + 2 + nl + 1 by omega]; exact S9.out, LOwn.start _ _⟩⟩
  case round =>
    obtain ⟨j, hj, rfl, hla⟩ := hrel
    by_cases hlt : j < nL
    · obtain ⟨v, s, ho⟩ := hla.out
      obtain ⟨kl, hkl⟩ : ∃ kl, kl = wr.heap.size := ⟨_, rfl⟩
      have hltn : (j : Int) < (nL : Int) := by omega
      have S := Lib.hid s
      have HO := Lib.hid ho
      clear hla s ho c5
      go_wp2_with fail
      obtain ⟨V1, hV1⟩ : ∃ V1, V1 = wr.alloc (.cells #[.int .i64 0, .int .i64 0, .int .i64 0, .int .i64 0] 42) := ⟨_, rfl⟩
      have zV : wr.heap.size + 1 = V1.heap.size := by rw [hV1]; simp
      have mV : V1.heap[kl]? = some (.cells #[.int .i64 0, .int .i64 0, .int .i64 0, .int .i64 0] 42 (0, 0)) := by rw [hV1, hkl]; exact heap_alloc_new wr _
      have hbV : Below wr.heap.size wr V1 := by rw [hV1]; exact (Below.refl _ _).alloc (Nat.le_refl _) _
      rw [← hV1, zV, ← hkl]
      have HKL := Lib.hid hkl
      clear hkl
      have S1 := Lib.hid (S.out.below (hbV.mono (by have := S.out.lt; omega)))
      have hk6 : w.heap.size + 6 ≤ kl := by have := S.out.lt; have := HKL.out; omega
      clear hV1
      have hA1 : 29 + nl + 14 * j + 6 ≤ 1000000 := by omega
      refine (step_ln S1.out HR.out hB hc hm hk6 mV [(kl, 0), (kl, 1), (kl, 2)] 2 (29 + nl + 14 * j + 6) rfl hA1 (by decide) (show 3 ≤ 100 by decide) (fun p hp => by
        simp only [List.mem_cons, List.not_mem_nil, or_false] at hp
        rcases hp with rfl | rfl | rfl <;> exact ⟨rfl, by simp⟩) (cs' := #[.int .i64 (rdN b (29 + nl + 14 * j) 2), .int .i64 (rdN b (29 + nl + 14 * j + 2) 2), .int .i64 (rdN b (29 + nl + 14 * j + 4) 2), .int .i64 0]) rfl).mono ?_
      rintro e V2 ⟨rfl, s2, m2, k2⟩
      have S2 := Lib.hid s2
      have HK2 := Lib.hid k2
      have hV12 : V1.heap.size ≤ V2.heap.size := by
        have h1 := (Array.getElem?_eq_some_iff.1 m2).1
        have h2 := HKL.out
        omega
      clear s2 k2 S1
      go_wp2_with fail
      refine (step_ln S2.out HR.out hB hc hm hk6 m2 [(kl, 3)] 8 (29 + nl + 14 * j + 6 + 8) rfl (by omega) (by decide) (show 1 ≤ 100 by decide) (fun p hp => by
        rw [List.mem_singleton.1 hp]
        exact ⟨rfl, by simp⟩) (cs' := #[.int .i64 (rdN b (29 + nl + 14 * j) 2), .int .i64 (rdN b (29 + nl + 14 * j + 2) 2), .int .i64 (rdN b (29 + nl + 14 * j + 4) 2), .int .i64 (rdN b (29 + nl + 14 * j + 6) 8)]) rfl).mono ?_
      rintro e V3 ⟨rfl, s3, m3, k3⟩
      have hO3 : LOwn V3 (w.heap.size + 6) v (rdLines b (29 + nl) j) := HO.out.stays fun g hg => by
        obtain ⟨g1, g2⟩ := HO.out.at_ g hg
        have hk := HKL.out
        have e1 : g < V1.heap.size := by omega
        have e2 : g < V2.heap.size := by omega
        rw [k3 g (by omega) (by omega) e2, HK2.out g (by omega) (by omega) e1]
        exact hbV.block g (by omega)
      have hlk : ∀ x ∈ rdLines b (29 + nl) j, LnOk x := rdLines_ok b HB.out _ _
      have hw3 : Below V3.heap.size V3 (V3.alloc (.cells #[.int .i64 (rdN b (29 + nl + 14 * j) 2), .int .i64 (rdN b (29 + nl + 14 * j + 2) 2), .int .i64 (rdN b (29 + nl + 14 * j + 4) 2), .int .i64 (rdN b (29 + nl + 14 * j + 6) 8)] 42)) := (Below.refl _ _).alloc (Nat.le_refl _) _
      obtain ⟨v', V4, hrun, hown4, hb4, _⟩ := (hO3.below hw3).append1 (x := rdLn b (29 + nl + 14 * j)) (heap_alloc_new V3 _) ⟨rdN_int b HB.out _ _, rdN_int b HB.out _ _, rdN_int b HB.out _ _, rdN_int b HB.out _ _⟩ (by unfold rdLines; rw [List.length_map, List.length_range]; omega) (by have := s3.lt; have := hw3.size; omega) 22
      have s4 := (s3.below (hw3.mono (by have := s3.lt; omega))).below hb4
      obtain ⟨A4, c4, rfl, _⟩ := hown4.shape
      have hls : rdLines b (29 + nl) (j + 1) = rdLines b (29 + nl) j ++ [rdLn b (29 + nl + 14 * j)] := by
        unfold rdLines
        rw [List.range_succ, List.map_append]; rfl
      obtain ⟨A0, c0, hv0, _⟩ := hO3.shape
      subst hv0
      have d12 := s3.cm.cells.2.2.2.2.2.2.2.2.2.2.2.2
      have l0 := cell_of_row V3 kl 0 _ _ (0, 0) m3
      have l1 := cell_of_row V3 kl 1 _ _ (0, 0) m3
      have l2 := cell_of_row V3 kl 2 _ _ (0, 0) m3
      have l3 := cell_of_row V3 kl 3 _ _ (0, 0) m3
      have d4 := s4.cm.cells.2.2.2.2.2.2.2.2.2.2.2.2
      have f4 := s4.free 12
      have HEND := Lib.hid (show ∃ v, RdSt w (V4.setCell ⟨w.heap.size + 2, 12, none⟩ (.slice A4 (rdLines b (29 + nl) j ++ [rdLn b (29 + nl + 14 * j)]).length c4)) A n c (29 + nl + 14 * (j + 1)) X v (rdN b 26 1) (nl : Int) (nL : Int) ∧ LOwn (V4.setCell ⟨w.heap.size + 2, 12, none⟩ (.slice A4 (rdLines b (29 + nl) j ++ [rdLn b (29 + nl + 14 * j)]).length c4)) (w.heap.size + 6) v (rdLines b (29 + nl) (j + 1)) from
        ⟨_, by rw [show 29 + nl + 14 * (j + 1) = 29 + nl + 14 * j + 6 + 8 by omega]; exact s4.setCm 12 _ X _ rfl, by
          rw [hls]
          exact hown4.stays fun g hg => heap_setCell_other _ _ _ _ (by have := (hown4.at_ g hg).1; show g ≠ w.heap.size + 2; omega)⟩)
      have HRUN := Lib.hid hrun
      simp only [List.getElem?_toArray, List.getElem?_cons_zero, List.getElem?_cons_succ] at l0 l1 l2 l3
      clear s3 m3 k3 hO3 hlk hw3 hrun hown4 hb4 s4 hls m2 S2 HK2 mV hbV S HO
      generalize hgl : (rdLines b (29 + nl) j ++ [rdLn b (29 + nl + 14 * j)]).length = len4 at HRUN HEND
      go_wp2_with (at_builtin; refine Lib.wpList_append_run _ rfl _ _ _ _ rfl _ _ rfl rfl _ _ HRUN.out ?_)
      go_roundw
      case rel => exact ⟨j + 1, by omega, by go_num, HEND⟩
      case measure => simp [intOf]; omega
    · obtain rfl : j = nL := by omega
      obtain ⟨v, s, ho⟩ := hla.out
      have hlt' : ¬ ((j : Int) < (j : Int)) := by omega
      have r13 := s.cm.cells
      obtain ⟨c0, c1, c2, c3, c4, c5', c6, c7, c8, c9, c10, c11, c12⟩ := r13
      obtain ⟨z0, z1, z2, z3, z4, z5, z6, z7, z8, z9, z10, z11, z12⟩ := s.res.cells
      have f0 := s.res.free 0
      have f1 := s.res.free 1
      have f2 := s.res.free 2
      have f3 := s.res.free 3
      have f4 := s.res.free 4
      have f5 := s.res.free 5
      have f6 := s.res.free 6
      have f7 := s.res.free 7
      have f8 := s.res.free 8
      have f9 := s.res.free 9
      have f10 := s.res.free 10
      have f11 := s.res.free 11
      have f12 := s.res.free 12
      obtain ⟨Av, cv, rfl, _⟩ := ho.shape
      have HE := Lib.hid (cm_box s.res s.bel (Nat.le_refl _) X (.slice Av (rdLines b (29 + nl) j).length cv))
      have HO := Lib.hid (show LOwn _ w.heap.size _ (rdLines b (29 + nl) j) from (ho.stays fun g hg => cm_other (by have := (ho.at_ g hg).1; show g ≠ w.heap.size; omega) X (.slice Av (rdLines b (29 + nl) j).length cv)).base_le (by omega))
      generalize hgl : (rdLines b (29 + nl) j).length = len4 at HE HO c12
      clear hla s ho c5
      go_wp2_with fail
      refine bodyPost_ret (results_cell_row rfl _ _ w.heap.size _ _ (0, 0) _ rfl HE.out.1 Try.underlying24 rfl cm_size) rfl ?_
      have t1 : (rdN b 27 1).toNat = nl := by rw [show (27 : Nat) = 26 + 1 from rfl, hnl]; rfl
      have t2 : (rdN b (28 + nl) 1).toNat = j := by rw [show 28 + nl = 26 + 2 + nl from rfl, hnL]; rfl
      have hP : cmC (readP b) (.slice Av len4 cv) = cmC X (.slice Av len4 cv) := by
        rw [HX.out]
        unfold readP
        rw [t1]
        have : decide (rdN b 26 1 ≠ 0) = (rdN b 26 1 != 0) := by
          by_cases h : rdN b 26 1 = 0 <;> simp [h]
        rw [this]
        rfl
      have hL : (readP b).ls = rdLines b (29 + nl) j := by
        unfold readP
        rw [t1, t2]
      refine ⟨HE.out.2, .slice Av len4 cv, by rw [hP], ?_⟩
      rw [hL]
      exact HO.out
end Go.Proofs.Ytombdkebjbhacaa
