/-
  What a store knows of itself, as the statements' opening gives it: four ints and a slice of ints. No condition.
-/
import Derived.Test.YtenpmaagnljabaaInts
import Derived.Deep.Slices
import Derived.Deep.Fields
import Derived.ChangeSame
import Derived.OpenShut
import Derived.ProofKit
namespace Go.Proofs.Ytenpmaagnljabaa
open Go.RowKit
set_option maxRecDepth 100000
set_option linter.unusedVariables false

/-- Such words came in. -/
structure MetaIn (w : World) (d f n c : Int) (A : Option Addr) (k cap : Nat) (l : List Int) : Prop where
  hr : RI w w.heap.size A k l
  hc : k ≤ cap
  hm : k ≤ maxLen
  hd : -9223372036854775808 ≤ d ∧ d ≤ 9223372036854775807
  hf : -9223372036854775808 ≤ f ∧ f ≤ 9223372036854775807
  hn : -9223372036854775808 ≤ n ∧ n ≤ 9223372036854775807
  hcc : -9223372036854775808 ≤ c ∧ c ≤ 9223372036854775807

theorem cellsOfInt : Try.prog.cellsOf 3 = 1 := by kernel_rfl
theorem cellsOfInts : Try.prog.cellsOf 22 = 1 := by kernel_rfl
theorem cellsOfMeta : Try.prog.cellsOf 24 = 5 := by kernel_rfl
open Go.ChangeShapes Go.WideShapes Go.Deep in
theorem open_meta {H : Type} {enc : TypeId × Value → H} {w : World} {fuel : Nat} {cs : List Value} {x : DataW H × List MemPlace} (h : DataW.trod enc Try.prog w 0 (fun _ => true) true fuel 24 cs = some x) (hcl : cs.length = 5) :
    ∃ d f n c A k cap l, cs = [.int .i64 d, .int .i64 f, .int .i64 n, .int .i64 c, .slice A k cap] ∧ MetaIn w d f n c A k cap l := by
  obtain ⟨fs, hfs⟩ : ∃ fs, Try.prog.underlying 24 = some (.struct fs) := ⟨_, Try.underlying24⟩
  obtain ⟨ys, n', hn', hy, hlen, hyl, hf⟩ := DataW.trod_struct Try.underlying24 h
  match cs, hcl with
  | [c0, c1, c2, c3, c4], _ =>
    match ys, hyl with
    | [y0, y1, y2, y3, y4], _ =>
      have f0 : DataW.trod enc Try.prog w 0 (fun _ => true) true n' 3 (([c0, c1, c2, c3, c4].drop 0).take (Try.prog.cellsOf 3)) = [y0, y1, y2, y3, y4][0]? := hf 0 _ rfl
      have f1 : DataW.trod enc Try.prog w 0 (fun _ => true) true n' 3 (([c0, c1, c2, c3, c4].drop 1).take (Try.prog.cellsOf 3)) = [y0, y1, y2, y3, y4][1]? := hf 1 _ rfl
      have f2 : DataW.trod enc Try.prog w 0 (fun _ => true) true n' 3 (([c0, c1, c2, c3, c4].drop 2).take (Try.prog.cellsOf 3)) = [y0, y1, y2, y3, y4][2]? := hf 2 _ rfl
      have f3 : DataW.trod enc Try.prog w 0 (fun _ => true) true n' 3 (([c0, c1, c2, c3, c4].drop 3).take (Try.prog.cellsOf 3)) = [y0, y1, y2, y3, y4][3]? := hf 3 _ rfl
      have f4 : DataW.trod enc Try.prog w 0 (fun _ => true) true n' 22 (([c0, c1, c2, c3, c4].drop 4).take (Try.prog.cellsOf 22)) = [y0, y1, y2, y3, y4][4]? := hf 4 _ rfl
      rw [cellsOfInt] at f0 f1 f2 f3
      rw [cellsOfInts] at f4
      simp only [List.drop_zero, List.take_succ_cons, List.take_zero, List.drop_succ_cons, List.getElem?_cons_zero, List.getElem?_cons_succ] at f0 f1 f2 f3 f4
      obtain ⟨n0, e0, _, w0⟩ := DataW.trod_int Try.underlying3 f0
      obtain ⟨n1, e1, _, w1⟩ := DataW.trod_int Try.underlying3 f1
      obtain ⟨n2, e2, _, w2⟩ := DataW.trod_int Try.underlying3 f2
      obtain ⟨n3, e3, _, w3⟩ := DataW.trod_int Try.underlying3 f3
      simp only [List.cons.injEq, and_true] at e0 e1 e2 e3
      subst e0 e1 e2 e3
      rcases open_ints Try.underlying22 Try.underlying3 (by kernel_rfl) f4 with ⟨hcs, _⟩ | ⟨a, l, c, zs, hcs, _, hl, hm, hz, _, hcell, hwz⟩
      · simp only [List.cons.injEq, and_true] at hcs
        subst hcs
        exact ⟨n0, n1, n2, n3, none, 0, 0, [], rfl, ⟨RI.nil_, Nat.le_refl _, Nat.zero_le _, int_bounds w0, int_bounds w1, int_bounds w2, int_bounds w3⟩⟩
      · simp only [List.cons.injEq, and_true] at hcs
        subst hcs
        exact ⟨n0, n1, n2, n3, some a, l, c, _, rfl, ⟨RI.of_cells hl (by simpa using hz) hcell hwz, hl, Nat.le_trans hl hm, int_bounds w0, int_bounds w1, int_bounds w2, int_bounds w3⟩⟩
end Go.Proofs.Ytenpmaagnljabaa
