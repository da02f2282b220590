/-
  The texts RecO, RecA joined. Conditions: those that each part says at its head.
-/
import Derived.Test.YtlcbmobdokicaaaGreatGRow
import Derived.OpenShut
import Derived.Deep.Slices
import Derived.Deep.Fields
import Derived.ChangeSame
import Derived.ProofKit
import Derived.Test.YtlcbmobdokicaaaGreatKeyB
import Derived.Deep.RegionHeld3

/-
  How the statements' opening gives nodes, documents, lines, entries, pairs, two ints and four numbers of 32 bits: their cells, the numbers within their kinds. No condition.
-/
namespace Go.Proofs.YtlcbmobdokicaaaGreat
open Go.RowKit
set_option maxRecDepth 100000
set_option linter.unusedVariables false

/-- Numbers that are ints; numbers of 32 bits. -/
def In64 (l : List Int) : Prop := ∀ v ∈ l, -9223372036854775808 ≤ v ∧ v ≤ 9223372036854775807
def InU32 (l : List Int) : Prop := ∀ v ∈ l, 0 ≤ v ∧ v < 4294967296
theorem In64.head {x : Int} {l : List Int} (h : In64 (x :: l)) : -9223372036854775808 ≤ x ∧ x ≤ 9223372036854775807 := h x List.mem_cons_self
theorem In64.tail {x : Int} {l : List Int} (h : In64 (x :: l)) : In64 l := fun v hv => h v (List.mem_cons_of_mem _ hv)
theorem InU32.in64 {l : List Int} (h : InU32 l) : In64 l := fun v hv => by have := h v hv; omega
theorem In64.sub {l m : List Int} (h : In64 l) (hs : ∀ x ∈ m, x ∈ l) : In64 m := fun v hv => h v (hs v hv)
theorem recInt : Tryz.prog.cellsOf 3 = 1 := by kernel_rfl
theorem recBool : Tryz.prog.cellsOf 4 = 1 := by kernel_rfl
theorem recU32 : Tryz.prog.cellsOf 39 = 1 := by kernel_rfl
theorem recBytes : Tryz.prog.cellsOf 109 = 1 := by kernel_rfl
theorem rec_bounds {n : Int} (h : (Lit.int .i64 n).wf = true) : -9223372036854775808 ≤ n ∧ n ≤ 9223372036854775807 := by
  simp [Lit.wf, IntKind.min, IntKind.max, IntKind.signed, IntKind.bits] at h
  omega
theorem u32_in {n : Int} (h : (Lit.int .u32 n).wf = true) : 0 ≤ n ∧ n < 4294967296 := by
  simp [Lit.wf, IntKind.min, IntKind.max, IntKind.signed, IntKind.bits] at h
  omega
theorem cells_node : Tryz.prog.cellsOf 41 = 12 := by kernel_rfl
open Go.ChangeShapes Go.WideShapes in
theorem open_node {H : Type} {enc : TypeId × Value → H} {w : World} {fuel : Nat} {cs : List Value} {x : DataW H × List MemPlace} (h : DataW.trod enc Tryz.prog w 0 (fun _ => true) true fuel 41 cs = some x) (hcl : cs.length = 12) :
    ∃ (a : Int) (b : Int) (c : Int) (d : Int) (e : Int) (f : Bool) (g : Int) (h : Int) (i : Int) (j : Int) (k : Int) (l : Int), cs = [.int .i64 a, .int .i64 b, .int .i64 c, .int .i64 d, .int .i64 e, .bool f, .int .i64 g, .int .i64 h, .int .i64 i, .int .i64 j, .int .i64 k, .int .i64 l] ∧ In64 [a, b, c, d, e, g, h, i, j, k, l] := by
  obtain ⟨fs, hfs⟩ : ∃ fs, Tryz.prog.underlying 41 = some (.struct fs) := ⟨_, Tryz.underlying41⟩
  obtain ⟨ys, n', hn', hy, hlen, hyl, hf⟩ := DataW.trod_struct Tryz.underlying41 h
  match cs, hcl with
  | [c0, c1, c2, c3, c4, c5, c6, c7, c8, c9, c10, c11], _ =>
    match ys, hyl with
    | [y0, y1, y2, y3, y4, y5, y6, y7, y8, y9, y10, y11], _ =>
      have f0 : DataW.trod enc Tryz.prog w 0 (fun _ => true) true n' 3 (([c0, c1, c2, c3, c4, c5, c6, c7, c8, c9, c10, c11].drop 0).take (Tryz.prog.cellsOf 3)) = [y0, y1, y2, y3, y4, y5, y6, y7, y8, y9, y10, y11][0]? := hf 0 _ rfl
      rw [recInt] at f0
      have f1 : DataW.trod enc Tryz.prog w 0 (fun _ => true) true n' 3 (([c0, c1, c2, c3, c4, c5, c6, c7, c8, c9, c10, c11].drop 1).take (Tryz.prog.cellsOf 3)) = [y0, y1, y2, y3, y4, y5, y6, y7, y8, y9, y10, y11][1]? := hf 1 _ rfl
      rw [recInt] at f1
      have f2 : DataW.trod enc Tryz.prog w 0 (fun _ => true) true n' 3 (([c0, c1, c2, c3, c4, c5, c6, c7, c8, c9, c10, c11].drop 2).take (Tryz.prog.cellsOf 3)) = [y0, y1, y2, y3, y4, y5, y6, y7, y8, y9, y10, y11][2]? := hf 2 _ rfl
      rw [recInt] at f2
      have f3 : DataW.trod enc Tryz.prog w 0 (fun _ => true) true n' 3 (([c0, c1, c2, c3, c4, c5, c6, c7, c8, c9, c10, c11].drop 3).take (Tryz.prog.cellsOf 3)) = [y0, y1, y2, y3, y4, y5, y6, y7, y8, y9, y10, y11][3]? := hf 3 _ rfl
      rw [recInt] at f3
      have f4 : DataW.trod enc Tryz.prog w 0 (fun _ => true) true n' 3 (([c0, c1, c2, c3, c4, c5, c6, c7, c8, c9, c10, c11].drop 4).take (Tryz.prog.cellsOf 3)) = [y0, y1, y2, y3, y4, y5, y6, y7, y8, y9, y10, y11][4]? := hf 4 _ rfl
      rw [recInt] at f4
      have f5 : DataW.trod enc Tryz.prog w 0 (fun _ => true) true n' 4 (([c0, c1, c2, c3, c4, c5, c6, c7, c8, c9, c10, c11].drop 5).take (Tryz.prog.cellsOf 4)) = [y0, y1, y2, y3, y4, y5, y6, y7, y8, y9, y10, y11][5]? := hf 5 _ rfl
      rw [recBool] at f5
      have f6 : DataW.trod enc Tryz.prog w 0 (fun _ => true) true n' 3 (([c0, c1, c2, c3, c4, c5, c6, c7, c8, c9, c10, c11].drop 6).take (Tryz.prog.cellsOf 3)) = [y0, y1, y2, y3, y4, y5, y6, y7, y8, y9, y10, y11][6]? := hf 6 _ rfl
      rw [recInt] at f6
      have f7 : DataW.trod enc Tryz.prog w 0 (fun _ => true) true n' 3 (([c0, c1, c2, c3, c4, c5, c6, c7, c8, c9, c10, c11].drop 7).take (Tryz.prog.cellsOf 3)) = [y0, y1, y2, y3, y4, y5, y6, y7, y8, y9, y10, y11][7]? := hf 7 _ rfl
      rw [recInt] at f7
      have f8 : DataW.trod enc Tryz.prog w 0 (fun _ => true) true n' 3 (([c0, c1, c2, c3, c4, c5, c6, c7, c8, c9, c10, c11].drop 8).take (Tryz.prog.cellsOf 3)) = [y0, y1, y2, y3, y4, y5, y6, y7, y8, y9, y10, y11][8]? := hf 8 _ rfl
      rw [recInt] at f8
      have f9 : DataW.trod enc Tryz.prog w 0 (fun _ => true) true n' 3 (([c0, c1, c2, c3, c4, c5, c6, c7, c8, c9, c10, c11].drop 9).take (Tryz.prog.cellsOf 3)) = [y0, y1, y2, y3, y4, y5, y6, y7, y8, y9, y10, y11][9]? := hf 9 _ rfl
      rw [recInt] at f9
      have f10 : DataW.trod enc Tryz.prog w 0 (fun _ => true) true n' 3 (([c0, c1, c2, c3, c4, c5, c6, c7, c8, c9, c10, c11].drop 10).take (Tryz.prog.cellsOf 3)) = [y0, y1, y2, y3, y4, y5, y6, y7, y8, y9, y10, y11][10]? := hf 10 _ rfl
      rw [recInt] at f10
      have f11 : DataW.trod enc Tryz.prog w 0 (fun _ => true) true n' 3 (([c0, c1, c2, c3, c4, c5, c6, c7, c8, c9, c10, c11].drop 11).take (Tryz.prog.cellsOf 3)) = [y0, y1, y2, y3, y4, y5, y6, y7, y8, y9, y10, y11][11]? := hf 11 _ rfl
      rw [recInt] at f11
      simp only [List.drop_zero, List.take_succ_cons, List.take_zero, List.drop_succ_cons, List.getElem?_cons_zero, List.getElem?_cons_succ] at f0 f1 f2 f3 f4 f5 f6 f7 f8 f9 f10 f11
      obtain ⟨n0, e0, _, w0⟩ := DataW.trod_int Tryz.underlying3 f0
      obtain ⟨n1, e1, _, w1⟩ := DataW.trod_int Tryz.underlying3 f1
      obtain ⟨n2, e2, _, w2⟩ := DataW.trod_int Tryz.underlying3 f2
      obtain ⟨n3, e3, _, w3⟩ := DataW.trod_int Tryz.underlying3 f3
      obtain ⟨n4, e4, _, w4⟩ := DataW.trod_int Tryz.underlying3 f4
      obtain ⟨n5, e5, _⟩ := DataW.trod_bool Tryz.underlying4 f5
      obtain ⟨n6, e6, _, w6⟩ := DataW.trod_int Tryz.underlying3 f6
      obtain ⟨n7, e7, _, w7⟩ := DataW.trod_int Tryz.underlying3 f7
      obtain ⟨n8, e8, _, w8⟩ := DataW.trod_int Tryz.underlying3 f8
      obtain ⟨n9, e9, _, w9⟩ := DataW.trod_int Tryz.underlying3 f9
      obtain ⟨n10, e10, _, w10⟩ := DataW.trod_int Tryz.underlying3 f10
      obtain ⟨n11, e11, _, w11⟩ := DataW.trod_int Tryz.underlying3 f11
      simp only [List.cons.injEq, and_true] at e0 e1 e2 e3 e4 e5 e6 e7 e8 e9 e10 e11
      subst e0 e1 e2 e3 e4 e5 e6 e7 e8 e9 e10 e11
      exact ⟨n0, n1, n2, n3, n4, n5, n6, n7, n8, n9, n10, n11, rfl, by
        intro v hv; simp only [List.mem_cons, List.not_mem_nil, or_false] at hv; rcases hv with rfl | rfl | rfl | rfl | rfl | rfl | rfl | rfl | rfl | rfl | rfl
        · exact rec_bounds w0
        · exact rec_bounds w1
        · exact rec_bounds w2
        · exact rec_bounds w3
        · exact rec_bounds w4
        · exact rec_bounds w6
        · exact rec_bounds w7
        · exact rec_bounds w8
        · exact rec_bounds w9
        · exact rec_bounds w10
        · exact rec_bounds w11⟩
theorem cells_doc : Tryz.prog.cellsOf 66 = 5 := by kernel_rfl
open Go.ChangeShapes Go.WideShapes in
theorem open_doc {H : Type} {enc : TypeId × Value → H} {w : World} {fuel : Nat} {cs : List Value} {x : DataW H × List MemPlace} (h : DataW.trod enc Tryz.prog w 0 (fun _ => true) true fuel 66 cs = some x) (hcl : cs.length = 5) :
    ∃ (a : Int) (b : Int) (c : Int) (d : Int) (e : Int), cs = [.int .i64 a, .int .i64 b, .int .i64 c, .int .i64 d, .int .i64 e] ∧ In64 [a, b, c, d, e] := by
  obtain ⟨fs, hfs⟩ : ∃ fs, Tryz.prog.underlying 66 = some (.struct fs) := ⟨_, Tryz.underlying66⟩
  obtain ⟨ys, n', hn', hy, hlen, hyl, hf⟩ := DataW.trod_struct Tryz.underlying66 h
  match cs, hcl with
  | [c0, c1, c2, c3, c4], _ =>
    match ys, hyl with
    | [y0, y1, y2, y3, y4], _ =>
      have f0 : DataW.trod enc Tryz.prog w 0 (fun _ => true) true n' 3 (([c0, c1, c2, c3, c4].drop 0).take (Tryz.prog.cellsOf 3)) = [y0, y1, y2, y3, y4][0]? := hf 0 _ rfl
      rw [recInt] at f0
      have f1 : DataW.trod enc Tryz.prog w 0 (fun _ => true) true n' 3 (([c0, c1, c2, c3, c4].drop 1).take (Tryz.prog.cellsOf 3)) = [y0, y1, y2, y3, y4][1]? := hf 1 _ rfl
      rw [recInt] at f1
      have f2 : DataW.trod enc Tryz.prog w 0 (fun _ => true) true n' 3 (([c0, c1, c2, c3, c4].drop 2).take (Tryz.prog.cellsOf 3)) = [y0, y1, y2, y3, y4][2]? := hf 2 _ rfl
      rw [recInt] at f2
      have f3 : DataW.trod enc Tryz.prog w 0 (fun _ => true) true n' 3 (([c0, c1, c2, c3, c4].drop 3).take (Tryz.prog.cellsOf 3)) = [y0, y1, y2, y3, y4][3]? := hf 3 _ rfl
      rw [recInt] at f3
      have f4 : DataW.trod enc Tryz.prog w 0 (fun _ => true) true n' 3 (([c0, c1, c2, c3, c4].drop 4).take (Tryz.prog.cellsOf 3)) = [y0, y1, y2, y3, y4][4]? := hf 4 _ rfl
      rw [recInt] at f4
      simp only [List.drop_zero, List.take_succ_cons, List.take_zero, List.drop_succ_cons, List.getElem?_cons_zero, List.getElem?_cons_succ] at f0 f1 f2 f3 f4
      obtain ⟨n0, e0, _, w0⟩ := DataW.trod_int Tryz.underlying3 f0
      obtain ⟨n1, e1, _, w1⟩ := DataW.trod_int Tryz.underlying3 f1
      obtain ⟨n2, e2, _, w2⟩ := DataW.trod_int Tryz.underlying3 f2
      obtain ⟨n3, e3, _, w3⟩ := DataW.trod_int Tryz.underlying3 f3
      obtain ⟨n4, e4, _, w4⟩ := DataW.trod_int Tryz.underlying3 f4
      simp only [List.cons.injEq, and_true] at e0 e1 e2 e3 e4
      subst e0 e1 e2 e3 e4
      exact ⟨n0, n1, n2, n3, n4, rfl, by
        intro v hv; simp only [List.mem_cons, List.not_mem_nil, or_false] at hv; rcases hv with rfl | rfl | rfl | rfl | rfl
        · exact rec_bounds w0
        · exact rec_bounds w1
        · exact rec_bounds w2
        · exact rec_bounds w3
        · exact rec_bounds w4⟩
theorem cells_docline : Tryz.prog.cellsOf 58 = 4 := by kernel_rfl
open Go.ChangeShapes Go.WideShapes in
theorem open_docline {H : Type} {enc : TypeId × Value → H} {w : World} {fuel : Nat} {cs : List Value} {x : DataW H × List MemPlace} (h : DataW.trod enc Tryz.prog w 0 (fun _ => true) true fuel 58 cs = some x) (hcl : cs.length = 4) :
    ∃ (a : Int) (b : Int) (c : Int) (d : Int), cs = [.int .i64 a, .int .i64 b, .int .i64 c, .int .i64 d] ∧ In64 [a, b, c, d] := by
  obtain ⟨fs, hfs⟩ : ∃ fs, Tryz.prog.underlying 58 = some (.struct fs) := ⟨_, Tryz.underlying58⟩
  obtain ⟨ys, n', hn', hy, hlen, hyl, hf⟩ := DataW.trod_struct Tryz.underlying58 h
  match cs, hcl with
  | [c0, c1, c2, c3], _ =>
    match ys, hyl with
    | [y0, y1, y2, y3], _ =>
      have f0 : DataW.trod enc Tryz.prog w 0 (fun _ => true) true n' 3 (([c0, c1, c2, c3].drop 0).take (Tryz.prog.cellsOf 3)) = [y0, y1, y2, y3][0]? := hf 0 _ rfl
      rw [recInt] at f0
      have f1 : DataW.trod enc Tryz.prog w 0 (fun _ => true) true n' 3 (([c0, c1, c2, c3].drop 1).take (Tryz.prog.cellsOf 3)) = [y0, y1, y2, y3][1]? := hf 1 _ rfl
      rw [recInt] at f1
      have f2 : DataW.trod enc Tryz.prog w 0 (fun _ => true) true n' 3 (([c0, c1, c2, c3].drop 2).take (Tryz.prog.cellsOf 3)) = [y0, y1, y2, y3][2]? := hf 2 _ rfl
      rw [recInt] at f2
      have f3 : DataW.trod enc Tryz.prog w 0 (fun _ => true) true n' 3 (([c0, c1, c2, c3].drop 3).take (Tryz.prog.cellsOf 3)) = [y0, y1, y2, y3][3]? := hf 3 _ rfl
      rw [recInt] at f3
      simp only [List.drop_zero, List.take_succ_cons, List.take_zero, List.drop_succ_cons, List.getElem?_cons_zero, List.getElem?_cons_succ] at f0 f1 f2 f3
      obtain ⟨n0, e0, _, w0⟩ := DataW.trod_int Tryz.underlying3 f0
      obtain ⟨n1, e1, _, w1⟩ := DataW.trod_int Tryz.underlying3 f1
      obtain ⟨n2, e2, _, w2⟩ := DataW.trod_int Tryz.underlying3 f2
      obtain ⟨n3, e3, _, w3⟩ := DataW.trod_int Tryz.underlying3 f3
      simp only [List.cons.injEq, and_true] at e0 e1 e2 e3
      subst e0 e1 e2 e3
      exact ⟨n0, n1, n2, n3, rfl, by
        intro v hv; simp only [List.mem_cons, List.not_mem_nil, or_false] at hv; rcases hv with rfl | rfl | rfl | rfl
        · exact rec_bounds w0
        · exact rec_bounds w1
        · exact rec_bounds w2
        · exact rec_bounds w3⟩
theorem cells_line : Tryz.prog.cellsOf 43 = 4 := by kernel_rfl
open Go.ChangeShapes Go.WideShapes in
theorem open_line {H : Type} {enc : TypeId × Value → H} {w : World} {fuel : Nat} {cs : List Value} {x : DataW H × List MemPlace} (h : DataW.trod enc Tryz.prog w 0 (fun _ => true) true fuel 43 cs = some x) (hcl : cs.length = 4) :
    ∃ (a : Int) (b : Int) (c : Int) (d : Int), cs = [.int .i64 a, .int .i64 b, .int .i64 c, .int .i64 d] ∧ In64 [a, b, c, d] := by
  obtain ⟨fs, hfs⟩ : ∃ fs, Tryz.prog.underlying 43 = some (.struct fs) := ⟨_, Tryz.underlying43⟩
  obtain ⟨ys, n', hn', hy, hlen, hyl, hf⟩ := DataW.trod_struct Tryz.underlying43 h
  match cs, hcl with
  | [c0, c1, c2, c3], _ =>
    match ys, hyl with
    | [y0, y1, y2, y3], _ =>
      have f0 : DataW.trod enc Tryz.prog w 0 (fun _ => true) true n' 3 (([c0, c1, c2, c3].drop 0).take (Tryz.prog.cellsOf 3)) = [y0, y1, y2, y3][0]? := hf 0 _ rfl
      rw [recInt] at f0
      have f1 : DataW.trod enc Tryz.prog w 0 (fun _ => true) true n' 3 (([c0, c1, c2, c3].drop 1).take (Tryz.prog.cellsOf 3)) = [y0, y1, y2, y3][1]? := hf 1 _ rfl
      rw [recInt] at f1
      have f2 : DataW.trod enc Tryz.prog w 0 (fun _ => true) true n' 3 (([c0, c1, c2, c3].drop 2).take (Tryz.prog.cellsOf 3)) = [y0, y1, y2, y3][2]? := hf 2 _ rfl
      rw [recInt] at f2
      have f3 : DataW.trod enc Tryz.prog w 0 (fun _ => true) true n' 3 (([c0, c1, c2, c3].drop 3).take (Tryz.prog.cellsOf 3)) = [y0, y1, y2, y3][3]? := hf 3 _ rfl
      rw [recInt] at f3
      simp only [List.drop_zero, List.take_succ_cons, List.take_zero, List.drop_succ_cons, List.getElem?_cons_zero, List.getElem?_cons_succ] at f0 f1 f2 f3
      obtain ⟨n0, e0, _, w0⟩ := DataW.trod_int Tryz.underlying3 f0
      obtain ⟨n1, e1, _, w1⟩ := DataW.trod_int Tryz.underlying3 f1
      obtain ⟨n2, e2, _, w2⟩ := DataW.trod_int Tryz.underlying3 f2
      obtain ⟨n3, e3, _, w3⟩ := DataW.trod_int Tryz.underlying3 f3
      simp only [List.cons.injEq, and_true] at e0 e1 e2 e3
      subst e0 e1 e2 e3
      exact ⟨n0, n1, n2, n3, rfl, by
        intro v hv; simp only [List.mem_cons, List.not_mem_nil, or_false] at hv; rcases hv with rfl | rfl | rfl | rfl
        · exact rec_bounds w0
        · exact rec_bounds w1
        · exact rec_bounds w2
        · exact rec_bounds w3⟩
open Go.ChangeShapes Go.WideShapes Go.Deep in
theorem open_bytesR {H : Type} {enc : TypeId × Value → H} {w : World} {fuel : Nat} {v : Value} {x : DataW H × List MemPlace} (h : DataW.trod enc Tryz.prog w 0 (fun _ => true) true fuel 109 [v] = some x) :
    ∃ A n c l, v = .slice A n c ∧ RB w w.heap.size A n l ∧ n ≤ c ∧ n ≤ maxLen := by
  rcases open_ints Tryz.underlying109 Tryz.underlying5 (by kernel_rfl) h with ⟨hk, _⟩ | ⟨x', l', c', zs, hk, _, hl', hm', hz', _, hcell', hwz'⟩
  · simp only [List.cons.injEq, and_true] at hk
    exact ⟨none, 0, 0, [], hk, RB.nil_, Nat.le_refl _, Nat.zero_le _⟩
  · simp only [List.cons.injEq, and_true] at hk
    exact ⟨_, l', c', _, hk, RB.of_cells hl' (by simpa using hz') hcell' hwz', hl', Nat.le_trans hl' hm'⟩

/-- A pair came in: a key and a value. -/
structure PairIn (w : World) (ka : Option Addr) (kn kc : Nat) (va : Option Addr) (vn vc : Nat) (p : KV) : Prop where
  hk : RB w w.heap.size ka kn p.1
  hkc : kn ≤ kc
  hkm : kn ≤ maxLen
  hv : RB w w.heap.size va vn p.2
  hvc : vn ≤ vc
  hvm : vn ≤ maxLen
theorem cells_pair : Tryz.prog.cellsOf 111 = 2 := by kernel_rfl
open Go.ChangeShapes Go.WideShapes in
theorem open_pairR {H : Type} {enc : TypeId × Value → H} {w : World} {fuel : Nat} {cs : List Value} {x : DataW H × List MemPlace} (h : DataW.trod enc Tryz.prog w 0 (fun _ => true) true fuel 111 cs = some x) (hcl : cs.length = 2) :
    ∃ ka kn kc va vn vc p, cs = [.slice ka kn kc, .slice va vn vc] ∧ PairIn w ka kn kc va vn vc p := by
  obtain ⟨ys, n', hn', hy, hlen, hyl, hf⟩ := DataW.trod_struct Tryz.underlying111 h
  match cs, hcl with
  | [c0, c1], _ =>
    match ys, hyl with
    | [y0, y1], _ =>
      have f0 : DataW.trod enc Tryz.prog w 0 (fun _ => true) true n' 109 (([c0, c1].drop 0).take (Tryz.prog.cellsOf 109)) = [y0, y1][0]? := hf 0 _ rfl
      rw [recBytes] at f0
      have f1 : DataW.trod enc Tryz.prog w 0 (fun _ => true) true n' 109 (([c0, c1].drop 1).take (Tryz.prog.cellsOf 109)) = [y0, y1][1]? := hf 1 _ rfl
      rw [recBytes] at f1
      simp only [List.drop_zero, List.take_succ_cons, List.take_zero, List.drop_succ_cons, List.getElem?_cons_zero, List.getElem?_cons_succ] at f0 f1
      obtain ⟨ka, kn, kc, K, e0, hk, hkc, hkm⟩ := open_bytesR f0
      obtain ⟨va, vn, vc, V, e1, hv, hvc, hvm⟩ := open_bytesR f1
      subst e0 e1
      exact ⟨ka, kn, kc, va, vn, vc, (K, V), rfl, ⟨hk, hkc, hkm, hv, hvc, hvm⟩⟩
end Go.Proofs.YtlcbmobdokicaaaGreat

/-
  Contracts of recs.pair and of the plain pair: what they make a pair of. No condition but that lengths are ints.
-/
namespace Go.Proofs.YtlcbmobdokicaaaGreat
open Go.RowKit
set_option maxRecDepth 100000
set_option linter.unusedVariables false

/-- A pair of the call's own: its key and its value. -/
def RecPair (w w' : World) (e : Ending) (K V : List Int) : Prop := ∃ kv vv, e = .returned (.agg #[kv, vv]) ∧ OwnB w w' kv K ∧ OwnB w w' vv V

theorem OwnB.later {w w1 w2 : World} {v : Value} {l : List Int} (h : OwnB w w1 v l) (hb : Below w1.heap.size w1 w2) : OwnB w w2 v l := ⟨own_later h.1 hb, h.2.trans (hb.mono h.2.size)⟩

theorem pairSize : (Tryz.prog.info? 111).map (·.size) = some (#[Value.slice none 0 0, Value.slice none 0 0] : Array Value).size := by kernel_rfl
theorem box_set {w2 : World} {g : Nat} {u v x y : Value} {T : TypeId} (h : w2.heap[g]? = some (.cells #[u, v] T (0, 0))) : ((w2.setCell ⟨g, 0, none⟩ x).setCell ⟨g, 1, none⟩ y).heap[g]? = some (.cells #[x, y] T (0, 0)) := by
  have h1 := heap_setCell_same w2 g 0 _ T x h
  have h2 := heap_setCell_same _ g 1 _ T y h1
  rw [h2]
  rfl
theorem OwnB.boxed {w w1 w2 : World} {v : Value} {l : List Int} {x y : Value} {g : Nat} (h : OwnB w1 w2 v l) (hb : Below w.heap.size w w1) (hg : w.heap.size ≤ g) (hlt : g < w1.heap.size) : OwnB w ((w2.setCell ⟨g, 0, none⟩ x).setCell ⟨g, 1, none⟩ y) v l := by
  refine ⟨?_, ((hb.trans (h.2.mono hb.size)).setCell hg _).setCell hg _⟩
  rcases h.1.2 with h' | ⟨k, cap, cur, rfl, hk, hbk, h3⟩
  · exact ⟨h.1.1, .inl h'⟩
  · refine ⟨h.1.1, .inr ⟨k, cap, cur, rfl, Nat.le_trans hb.size hk, ?_, h3⟩⟩
    rw [heap_setCell_other _ _ _ _ (show k ≠ g by omega), heap_setCell_other _ _ _ _ (show k ≠ g by omega)]
    exact hbk
theorem box_frozen {w : World} {g o : Nat} {cs : Array Value} {T : TypeId} (h : w.heap[g]? = some (.cells cs T (0, 0))) : w.frozen? ⟨g, o, none⟩ = false := by simp [World.frozen?, h]

theorem box_cell0 {w : World} {g : Nat} {u v : Value} {T : TypeId} (h : w.heap[g]? = some (.cells #[u, v] T (0, 0))) : w.cell? ⟨g, 0, none⟩ = some u := cell_of_row w g 0 _ T (0, 0) h
theorem box_cell1 {w : World} {g : Nat} {u v : Value} {T : TypeId} (h : w.heap[g]? = some (.cells #[u, v] T (0, 0))) : w.cell? ⟨g, 1, none⟩ = some v := cell_of_row w g 1 _ T (0, 0) h

/-- A row of ints, a block of its own. -/
def RowN (w : World) (g : Nat) (l : List Int) : Prop := ∃ T, w.heap[g]? = some (.cells (l.map (Value.int .i64)).toArray T (0, 0))
theorem RowN.later {w w' : World} {g : Nat} {l : List Int} (h : RowN w g l) (hb : Below w.heap.size w w') : RowN w' g l := by
  obtain ⟨T, hT⟩ := h
  exact ⟨T, (hb.block g (Array.getElem?_eq_some_iff.1 hT).1).trans hT⟩
theorem RowN.ri {w : World} {g : Nat} {l : List Int} (h : RowN w g l) (hl : In64 l) : RI w w.heap.size (some ⟨g, 0, none⟩) l.length l := by
  obtain ⟨T, hT⟩ := h
  refine ⟨rfl, hl, fun _ => ⟨g, 0, rfl, (Array.getElem?_eq_some_iff.1 hT).1, fun j hj => ?_⟩⟩
  rw [Nat.zero_add, cell_of_row w g j _ T (0, 0) hT]
  simp [List.getElem?_eq_getElem hj]
theorem RowN.a {l : List Int} (X : World) (e : TypeId) : RowN (X.alloc (.cells (l.map (Value.int .i64)).toArray e)).drew X.heap.size l := ⟨e, heap_alloc_new X _⟩
theorem RowN.a' {l : List Int} (X : World) (e : TypeId) : RowN (X.alloc (.cells (l.map (Value.int .i64)).toArray e)) X.heap.size l := ⟨e, heap_alloc_new X _⟩
theorem RowN.b {l : List Int} (X : World) (e : TypeId) (o : Obj) : RowN ((X.alloc (.cells (l.map (Value.int .i64)).toArray e)).alloc o).drew X.heap.size l := (RowN.a' X e).later (((Below.refl _ _).alloc (Nat.le_refl _) o).drew)
theorem RowN.c {l : List Int} (X : World) (e : TypeId) (o : Obj) : RowN ((X.alloc o).alloc (.cells (l.map (Value.int .i64)).toArray e)).drew (X.heap.size + 1) l := by
  have := RowN.a (l := l) (X.alloc o) e
  rwa [show (X.alloc o).heap.size = X.heap.size + 1 by simp] at this
theorem RowN.d {l : List Int} (X : World) (e : TypeId) (o : Obj) : RowN ((X.alloc o).alloc (.cells (l.map (Value.int .i64)).toArray e)).drew (X.alloc o).heap.size l := RowN.a (l := l) (X.alloc o) e

/-- A call of Key over a row of ints. -/
theorem key_at (t : Int) (l : List Int) (n m : Nat) (ht : 0 ≤ t ∧ t < 256) (hl : In64 l) (hn : l.length = n) (h7 : n ≤ 7) (hm : 1 + 4 * n = m) (W : World) (g : Nat) (hr : RowN W g l) :
    Calls Tryz.prog 92 #[.int .u8 t, .slice (some ⟨g, 0, none⟩) n n] W fun e w' => ∃ A c, e = .returned (.slice A m c) ∧ OwnB W w' (.slice A m c) (keyL t l) := by
  subst hn hm
  refine (kKey_any t _ _ _ _ l W ht (hr.ri hl) (Nat.le_refl _) (Nat.le_refl _) (by unfold maxLen; omega)).mono ?_
  rintro e w' ⟨v, rfl, ho⟩
  obtain ⟨A, c, e1, _, _⟩ := ho.read (tagL_bytes ht _)
  subst e1
  have e2 : (keyL t l).length = 1 + 4 * l.length := by unfold keyL; rw [tagL_length, List.length_map, List.length_take]; omega
  rw [e2] at ho ⊢
  exact ⟨A, c, rfl, ho⟩
theorem rkey_at (t : Int) (l : List Int) (n m : Nat) (ht : 0 ≤ t ∧ t < 256) (hl : In64 l) (hn : l.length = n) (h7 : n ≤ 7) (hm : 1 + 4 * n = m) (W : World) (g : Nat) (hr : RowN W g l) :
    Calls Tryz.prog 99 #[.int .u8 t, .slice (some ⟨g, 0, none⟩) n n] W fun e w' => ∃ A c, e = .returned (.slice A m c) ∧ OwnB W w' (.slice A m c) (keyL t l) := by
  subst hn hm
  refine (rKey_any t _ _ _ _ l W ht (hr.ri hl) (Nat.le_refl _) (Nat.le_refl _) (by unfold maxLen; omega)).mono ?_
  rintro e w' ⟨v, rfl, ho⟩
  obtain ⟨A, c, e1, _, _⟩ := ho.read (tagL_bytes ht _)
  subst e1
  have e2 : (keyL t l).length = 1 + 4 * l.length := by unfold keyL; rw [tagL_length, List.length_map, List.length_take]; omega
  rw [e2] at ho ⊢
  exact ⟨A, c, rfl, ho⟩

set_option maxHeartbeats 1600000 in
theorem pair_any (kA : Option Addr) (kn kc : Nat) (A : Option Addr) (n c B : Nat) (l : List Int) (w : World) (hr : RI w B A n l) (hB : B ≤ w.heap.size) (hc : n ≤ c) (hm : n ≤ 15) :
    Calls Tryz.prog 109 #[.slice kA kn kc, .slice A n c] w fun e w' => ∃ vv, e = .returned (.agg #[.slice kA kn kc, vv]) ∧ OwnB w w' vv (packN 8 l) := by
  have hb1 : Below w.heap.size w (w.alloc (.cells #[.slice none 0 0, .slice none 0 0] 111)) := (Below.refl _ _).alloc (Nat.le_refl _) _
  have HP := Lib.hid (fPack_any A n c B l _ (hr.below (hb1.mono hB)) (Nat.le_trans hB hb1.size) hc (by unfold maxLen; omega))
  rw [List.take_of_length_le (by rw [hr.len]; exact hm)] at HP
  go_enter Tryz.func109, Tryz.ntmps109
  go_wp2_with fail
  refine HP.out.mono ?_
  rintro e w2 ⟨vv, rfl, ho⟩
  have c0 := (ho.2.cell (p := ⟨w.heap.size, 0, none⟩) (by simp)).trans (cell_of_row (w.alloc (.cells #[.slice none 0 0, .slice none 0 0] 111)) w.heap.size 0 _ _ (0, 0) (heap_alloc_new w _))
  have c1 := (ho.2.cell (p := ⟨w.heap.size, 1, none⟩) (by simp)).trans (cell_of_row (w.alloc (.cells #[.slice none 0 0, .slice none 0 0] 111)) w.heap.size 1 _ _ (0, 0) (heap_alloc_new w _))
  simp only [List.getElem?_toArray, List.getElem?_cons_zero, List.getElem?_cons_succ] at c0 c1
  have hblk := (ho.2.block w.heap.size (by simp)).trans (heap_alloc_new w (.cells #[.slice none 0 0, .slice none 0 0] 111))
  have hf0 : w2.frozen? ⟨w.heap.size, 0, none⟩ = false := by simp [World.frozen?, hblk]
  have hf1 : w2.frozen? ⟨w.heap.size, 1, none⟩ = false := by simp [World.frozen?, hblk]
  have HG := Lib.hid (fun x y => box_set (x := x) (y := y) hblk)
  have HO := Lib.hid (fun x y => ho.boxed (g := w.heap.size) (x := x) (y := y) hb1 (Nat.le_refl _) (by simp))
  obtain ⟨vA, vc, rfl, hvc, hrv⟩ := ho.read (packN_bytes _ _)
  clear ho hrv hblk
  go_wp2_with fail
  refine bodyPost_ret (results_cell_row rfl _ _ w.heap.size _ _ _ _ rfl (HG.out _ _) Tryz.underlying111 rfl pairSize) rfl ?_
  exact ⟨_, rfl, HO.out _ _⟩

/-- A call of pair over a row of ints. -/
theorem pair_at (l : List Int) (n m : Nat) (hl : In64 l) (hn : l.length = n) (h15 : n ≤ 15) (hm : 8 * n = m) (kA : Option Addr) (kn kc : Nat) (W : World) (g : Nat) (hr : RowN W g l) :
    Calls Tryz.prog 109 #[.slice kA kn kc, .slice (some ⟨g, 0, none⟩) n n] W fun e w' => ∃ A c, e = .returned (.agg #[.slice kA kn kc, .slice A m c]) ∧ OwnB W w' (.slice A m c) (packN 8 l) := by
  subst hn hm
  refine (pair_any kA kn kc _ _ _ _ l W (hr.ri hl) (Nat.le_refl _) (Nat.le_refl _) h15).mono ?_
  rintro e w' ⟨v, rfl, ho⟩
  obtain ⟨A, c, e1, _, _⟩ := ho.read (packN_bytes _ _)
  subst e1
  rw [packN_length] at ho ⊢
  exact ⟨A, c, rfl, ho⟩

/-- What a call that made a pair leaves, its own result boxed. -/
theorem pairR_boxed {w w1 w2 w3 : World} {g : Nat} {k v x y : Value} {K V : List Int} (hb : Below w.heap.size w w1) (hg : w.heap.size ≤ g) (hlt : g < w1.heap.size) (hk : OwnB w1 w2 k K) (h23 : Below w2.heap.size w2 w3) (hv : OwnB w1 w3 v V) :
    RecPair w ((w3.setCell ⟨g, 0, none⟩ x).setCell ⟨g, 1, none⟩ y) (.returned (.agg #[k, v])) K V :=
  ⟨k, v, rfl, (hk.later h23).boxed hb hg hlt, hv.boxed hb hg hlt⟩

end Go.Proofs.YtlcbmobdokicaaaGreat
