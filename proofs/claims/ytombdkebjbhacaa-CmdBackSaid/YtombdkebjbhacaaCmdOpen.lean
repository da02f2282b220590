/-
  A command, as the statements' opening gives it: ten ints, a bool, a text and a slice of lines. No condition.
-/
import Derived.Test.YtombdkebjbhacaaCmdB
import Derived.OpenShut
namespace Go.Proofs.Ytombdkebjbhacaa
open Go.RowKit
set_option maxRecDepth 100000
set_option linter.unusedVariables false

/-- Such a command came in. -/
structure CmIn (w : World) (x : Cm) (A : Option Addr) (c : Nat) : Prop where
  hr : RL w w.heap.size A x.ls.length x.ls
  hc : x.ls.length ≤ c
  hm : x.ls.length ≤ maxLen
  ok : CmOk x
theorem cmCellInt : Try.prog.cellsOf 3 = 1 := by kernel_rfl
theorem cmCellBool : Try.prog.cellsOf 4 = 1 := by kernel_rfl
theorem cmCellStr : Try.prog.cellsOf 9 = 1 := by kernel_rfl
theorem cmCellLines : Try.prog.cellsOf 22 = 1 := by kernel_rfl
theorem cmCellCmd : Try.prog.cellsOf 24 = 13 := by kernel_rfl
open Go.ChangeShapes Go.WideShapes Go.Deep in
theorem open_cmd {H : Type} {enc : TypeId × Value → H} {w : World} {fuel : Nat} {cs : List Value} {x : DataW H × List MemPlace} (h : DataW.trod enc Try.prog w 0 (fun _ => true) true fuel 24 cs = some x) (hcl : cs.length = 13) :
    ∃ X A c, cs = cmL X (.slice A X.ls.length c) ∧ CmIn w X A c := by
  obtain ⟨fs, hfs⟩ : ∃ fs, Try.prog.underlying 24 = some (.struct fs) := ⟨_, Try.underlying24⟩
  obtain ⟨ys, n', hn', hy, hlen, hyl, hf⟩ := DataW.trod_struct Try.underlying24 h
  match cs, hcl with
  | [c0, c1, c2, c3, c4, c5, c6, c7, c8, c9, c10, c11, c12], _ =>
    match ys, hyl with
    | [y0, y1, y2, y3, y4, y5, y6, y7, y8, y9, y10, y11, y12], _ =>
      have f0 : DataW.trod enc Try.prog w 0 (fun _ => true) true n' 3 (([c0, c1, c2, c3, c4, c5, c6, c7, c8, c9, c10, c11, c12].drop 0).take (Try.prog.cellsOf 3)) = [y0, y1, y2, y3, y4, y5, y6, y7, y8, y9, y10, y11, y12][0]? := hf 0 _ rfl
      have f1 : DataW.trod enc Try.prog w 0 (fun _ => true) true n' 3 (([c0, c1, c2, c3, c4, c5, c6, c7, c8, c9, c10, c11, c12].drop 1).take (Try.prog.cellsOf 3)) = [y0, y1, y2, y3, y4, y5, y6, y7, y8, y9, y10, y11, y12][1]? := hf 1 _ rfl
      have f2 : DataW.trod enc Try.prog w 0 (fun _ => true) true n' 3 (([c0, c1, c2, c3, c4, c5, c6, c7, c8, c9, c10, c11, c12].drop 2).take (Try.prog.cellsOf 3)) = [y0, y1, y2, y3, y4, y5, y6, y7, y8, y9, y10, y11, y12][2]? := hf 2 _ rfl
      have f3 : DataW.trod enc Try.prog w 0 (fun _ => true) true n' 3 (([c0, c1, c2, c3, c4, c5, c6, c7, c8, c9, c10, c11, c12].drop 3).take (Try.prog.cellsOf 3)) = [y0, y1, y2, y3, y4, y5, y6, y7, y8, y9, y10, y11, y12][3]? := hf 3 _ rfl
      have f4 : DataW.trod enc Try.prog w 0 (fun _ => true) true n' 3 (([c0, c1, c2, c3, c4, c5, c6, c7, c8, c9, c10, c11, c12].drop 4).take (Try.prog.cellsOf 3)) = [y0, y1, y2, y3, y4, y5, y6, y7, y8, y9, y10, y11, y12][4]? := hf 4 _ rfl
      have f5 : DataW.trod enc Try.prog w 0 (fun _ => true) true n' 3 (([c0, c1, c2, c3, c4, c5, c6, c7, c8, c9, c10, c11, c12].drop 5).take (Try.prog.cellsOf 3)) = [y0, y1, y2, y3, y4, y5, y6, y7, y8, y9, y10, y11, y12][5]? := hf 5 _ rfl
      have f6 : DataW.trod enc Try.prog w 0 (fun _ => true) true n' 3 (([c0, c1, c2, c3, c4, c5, c6, c7, c8, c9, c10, c11, c12].drop 6).take (Try.prog.cellsOf 3)) = [y0, y1, y2, y3, y4, y5, y6, y7, y8, y9, y10, y11, y12][6]? := hf 6 _ rfl
      have f7 : DataW.trod enc Try.prog w 0 (fun _ => true) true n' 3 (([c0, c1, c2, c3, c4, c5, c6, c7, c8, c9, c10, c11, c12].drop 7).take (Try.prog.cellsOf 3)) = [y0, y1, y2, y3, y4, y5, y6, y7, y8, y9, y10, y11, y12][7]? := hf 7 _ rfl
      have f8 : DataW.trod enc Try.prog w 0 (fun _ => true) true n' 3 (([c0, c1, c2, c3, c4, c5, c6, c7, c8, c9, c10, c11, c12].drop 8).take (Try.prog.cellsOf 3)) = [y0, y1, y2, y3, y4, y5, y6, y7, y8, y9, y10, y11, y12][8]? := hf 8 _ rfl
      have f9 : DataW.trod enc Try.prog w 0 (fun _ => true) true n' 3 (([c0, c1, c2, c3, c4, c5, c6, c7, c8, c9, c10, c11, c12].drop 9).take (Try.prog.cellsOf 3)) = [y0, y1, y2, y3, y4, y5, y6, y7, y8, y9, y10, y11, y12][9]? := hf 9 _ rfl
      have f10 : DataW.trod enc Try.prog w 0 (fun _ => true) true n' 4 (([c0, c1, c2, c3, c4, c5, c6, c7, c8, c9, c10, c11, c12].drop 10).take (Try.prog.cellsOf 4)) = [y0, y1, y2, y3, y4, y5, y6, y7, y8, y9, y10, y11, y12][10]? := hf 10 _ rfl
      have f11 : DataW.trod enc Try.prog w 0 (fun _ => true) true n' 9 (([c0, c1, c2, c3, c4, c5, c6, c7, c8, c9, c10, c11, c12].drop 11).take (Try.prog.cellsOf 9)) = [y0, y1, y2, y3, y4, y5, y6, y7, y8, y9, y10, y11, y12][11]? := hf 11 _ rfl
      have f12 : DataW.trod enc Try.prog w 0 (fun _ => true) true n' 22 (([c0, c1, c2, c3, c4, c5, c6, c7, c8, c9, c10, c11, c12].drop 12).take (Try.prog.cellsOf 22)) = [y0, y1, y2, y3, y4, y5, y6, y7, y8, y9, y10, y11, y12][12]? := hf 12 _ rfl
      rw [cmCellInt] at f0 f1 f2 f3 f4 f5 f6 f7 f8 f9
      rw [cmCellBool] at f10
      rw [cmCellStr] at f11
      rw [cmCellLines] at f12
      simp only [List.drop_zero, List.take_succ_cons, List.take_zero, List.drop_succ_cons, List.getElem?_cons_zero, List.getElem?_cons_succ] at f0 f1 f2 f3 f4 f5 f6 f7 f8 f9 f10 f11 f12
      obtain ⟨n0, e0, _, w0⟩ := DataW.trod_int Try.underlying3 f0
      obtain ⟨n1, e1, _, w1⟩ := DataW.trod_int Try.underlying3 f1
      obtain ⟨n2, e2, _, w2⟩ := DataW.trod_int Try.underlying3 f2
      obtain ⟨n3, e3, _, w3⟩ := DataW.trod_int Try.underlying3 f3
      obtain ⟨n4, e4, _, w4⟩ := DataW.trod_int Try.underlying3 f4
      obtain ⟨n5, e5, _, w5⟩ := DataW.trod_int Try.underlying3 f5
      obtain ⟨n6, e6, _, w6⟩ := DataW.trod_int Try.underlying3 f6
      obtain ⟨n7, e7, _, w7⟩ := DataW.trod_int Try.underlying3 f7
      obtain ⟨n8, e8, _, w8⟩ := DataW.trod_int Try.underlying3 f8
      obtain ⟨n9, e9, _, w9⟩ := DataW.trod_int Try.underlying3 f9
      obtain ⟨b10, e10, _⟩ := DataW.trod_bool Try.underlying4 f10
      obtain ⟨s11, e11, _, w11⟩ := DataW.trod_string Try.underlying9 f11
      simp only [List.cons.injEq, and_true] at e0 e1 e2 e3 e4 e5 e6 e7 e8 e9 e10 e11
      subst e0 e1 e2 e3 e4 e5 e6 e7 e8 e9 e10 e11
      rcases open_lines f12 with hcs | ⟨a, l, c, ls, hcs, hl, hm, hr⟩
      · simp only [List.cons.injEq, and_true] at hcs
        subst hcs
        exact ⟨⟨n0, n1, n2, n3, n4, n5, n6, n7, n8, n9, b10, s11, []⟩, none, 0, rfl, ⟨RL.nil_, Nat.le_refl _, Nat.zero_le _, ⟨int_bounds w0, int_bounds w1, int_bounds w2, int_bounds w3, int_bounds w4, int_bounds w5, int_bounds w6, int_bounds w7, int_bounds w8, int_bounds w9, fun _ h => by cases h⟩⟩⟩
      · simp only [List.cons.injEq, and_true] at hcs
        subst hcs
        have hl0 := hr.len
        subst hl0
        exact ⟨⟨n0, n1, n2, n3, n4, n5, n6, n7, n8, n9, b10, s11, ls⟩, some a, c, rfl, ⟨hr, hl, Nat.le_trans hl hm, ⟨int_bounds w0, int_bounds w1, int_bounds w2, int_bounds w3, int_bounds w4, int_bounds w5, int_bounds w6, int_bounds w7, int_bounds w8, int_bounds w9, hr.ok⟩⟩⟩
end Go.Proofs.Ytombdkebjbhacaa
