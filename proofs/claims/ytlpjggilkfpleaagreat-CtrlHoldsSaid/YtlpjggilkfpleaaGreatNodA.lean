/-
  Nodes as plain values: their cells, a pair that is one, slices of them as they lie in memory and as the statements open them; two of them compared. No condition.
-/
import Derived.Test.YtlpjggilkfpleaaGreatStru
import Derived.Test.YtlpjggilkfpleaaGreatRecA
import Derived.Test.YtlpjggilkfpleaaGreatRecD
import Derived.BigQuiet
import Derived.Laws.StructEq
namespace Go.Proofs.YtlpjggilkfpleaaGreat
open Go.RowKit Go.Maps
set_option maxRecDepth 100000
set_option linter.unusedVariables false

structure Nd where
  y : Int
  i : Int
  p : Int
  f : Int
  o : Int
  ab : Bool
  li : Int
  pr : Int
  en : Int
  ex : Int
  la : Int
  ca : Int
def ndV (x : Nd) : List Value := [.int .i64 x.y, .int .i64 x.i, .int .i64 x.p, .int .i64 x.f, .int .i64 x.o, .bool x.ab, .int .i64 x.li, .int .i64 x.pr, .int .i64 x.en, .int .i64 x.ex, .int .i64 x.la, .int .i64 x.ca]
def NdOk (x : Nd) : Prop := In64 [x.y, x.i, x.p, x.f, x.o, x.li, x.pr, x.en, x.ex, x.la, x.ca]
def NdE : Enc Nd := ⟨ndV, 12, NdOk, fun _ => rfl, by decide, fun x u hu => by
  unfold ndV at hu
  simp only [List.mem_cons, List.not_mem_nil, or_false] at hu
  rcases hu with rfl | rfl | rfl | rfl | rfl | rfl | rfl | rfl | rfl | rfl | rfl | rfl <;> rfl⟩
theorem info_node : (Tryz.prog.info? 23).map (fun i => (i.zero, i.size, i.bytes)) = some (some (.agg #[.int .i64 0, .int .i64 0, .int .i64 0, .int .i64 0, .int .i64 0, .bool false, .int .i64 0, .int .i64 0, .int .i64 0, .int .i64 0, .int .i64 0, .int .i64 0]), 12, 96) := by kernel_rfl
theorem NdT : NdE.Ty 29 23 := by
  obtain ⟨i0, hi, hz0, hz1, hz2⟩ := info_parts info_node
  exact ⟨Tryz.underlying29, i0, _, hi, hz0, hz1, by omega, rfl⟩
theorem open_nds {H : Type} {enc : TypeId × Value → H} {w : World} {fuel : Nat} {cs : List Value} {x : DataW H × List MemPlace} (h : DataW.trod enc Tryz.prog w 0 (fun _ => true) true fuel 29 cs = some x) :
    cs = [.slice none 0 0] ∨ ∃ (a : Addr) (len cap : Nat) (ls : List Nd), cs = [.slice (some a) len cap] ∧ len ≤ cap ∧ cap ≤ maxLen ∧ NdE.R w w.heap.size (some a) len ls :=
  Enc.open_rows (E := NdE) (⟨0, 0, 0, 0, 0, false, 0, 0, 0, 0, 0, 0⟩ : Nd) Tryz.underlying29 cells_node (fun n ys y hy hl => by
    obtain ⟨a0, a1, a2, a3, a4, a5, a6, a7, a8, a9, a10, a11, rfl, hok⟩ := open_node hy hl
    exact ⟨⟨a0, a1, a2, a3, a4, a5, a6, a7, a8, a9, a10, a11⟩, hok, rfl⟩) h
/-- A node's cells, one by one. -/
theorem ndAt {w : World} {b off : Nat} {x : Nd} (h : NdE.At w b off x) : w.cell? ⟨b, off, none⟩ = some (.int .i64 x.y) ∧ w.cell? ⟨b, off + 1, none⟩ = some (.int .i64 x.i) ∧ w.cell? ⟨b, off + 2, none⟩ = some (.int .i64 x.p) ∧ w.cell? ⟨b, off + 3, none⟩ = some (.int .i64 x.f) ∧ w.cell? ⟨b, off + 4, none⟩ = some (.int .i64 x.o) ∧ w.cell? ⟨b, off + 5, none⟩ = some (.bool x.ab) ∧ w.cell? ⟨b, off + 6, none⟩ = some (.int .i64 x.li) ∧ w.cell? ⟨b, off + 7, none⟩ = some (.int .i64 x.pr) ∧ w.cell? ⟨b, off + 8, none⟩ = some (.int .i64 x.en) ∧ w.cell? ⟨b, off + 9, none⟩ = some (.int .i64 x.ex) ∧ w.cell? ⟨b, off + 10, none⟩ = some (.int .i64 x.la) ∧ w.cell? ⟨b, off + 11, none⟩ = some (.int .i64 x.ca) :=
  ⟨h 0 (by decide), h 1 (by decide), h 2 (by decide), h 3 (by decide), h 4 (by decide), h 5 (by decide), h 6 (by decide), h 7 (by decide), h 8 (by decide), h 9 (by decide), h 10 (by decide), h 11 (by decide)⟩
/-- The node of a pair's numbers. -/
def ndOf (r : List Int × List Int) : Nd := ⟨r.1[0]?.getD 0, r.1[1]?.getD 0, r.2[0]?.getD 0, r.2[1]?.getD 0, r.2[2]?.getD 0, r.2[3]?.getD 0 != 0, r.2[4]?.getD 0, r.2[5]?.getD 0, r.2[6]?.getD 0, r.2[7]?.getD 0, r.2[8]?.getD 0, r.2[9]?.getD 0⟩
def ndNil : Nd := ⟨0, 0, 0, 0, 0, false, 0, 0, 0, 0, 0, 0⟩
def ndK (x : KV) : Option Nd := (numsR x 78 2 10).map ndOf
def ndO (o : Option Nd) : Nd := o.getD ndNil
theorem nodeV_is (x : KV) : nodeV (numsR x 78 2 10) = .agg (ndV (ndO (ndK x))).toArray := by
  unfold ndK
  cases numsR x 78 2 10 with
  | none => rfl
  | some r => rfl
theorem ndK_some (x : KV) : (numsR x 78 2 10).isSome = (ndK x).isSome := by
  unfold ndK
  cases numsR x 78 2 10 <;> rfl
theorem nd_ext {x y : Nd} (h0 : x.y = y.y) (h1 : x.i = y.i) (h2 : x.p = y.p) (h3 : x.f = y.f) (h4 : x.o = y.o) (h5 : x.ab = y.ab) (h6 : x.li = y.li) (h7 : x.pr = y.pr) (h8 : x.en = y.en) (h9 : x.ex = y.ex) (h10 : x.la = y.la) (h11 : x.ca = y.ca) : x = y := by
  cases x; cases y; simp_all
theorem nd_all (x y : Nd) : (x = y) ↔ x.y = y.y ∧ x.i = y.i ∧ x.p = y.p ∧ x.f = y.f ∧ x.o = y.o ∧ x.ab = y.ab ∧ x.li = y.li ∧ x.pr = y.pr ∧ x.en = y.en ∧ x.ex = y.ex ∧ x.la = y.la ∧ x.ca = y.ca :=
  ⟨fun h => by rw [h]; exact ⟨rfl, rfl, rfl, rfl, rfl, rfl, rfl, rfl, rfl, rfl, rfl, rfl⟩, fun ⟨h0, h1, h2, h3, h4, h5, h6, h7, h8, h9, h10, h11⟩ => nd_ext h0 h1 h2 h3 h4 h5 h6 h7 h8 h9 h10 h11⟩
instance ndDec : DecidableEq Nd := fun x y => decidable_of_iff _ (nd_all x y).symm
/-- Two nodes compared, as the program compares them. -/
theorem same_node (x y : Nd) (W : World) : (Op.equalIn 10000 23 (.agg (ndV x).toArray) (.agg (ndV y).toArray)).run Tryz.prog W = .ok (decide (x = y)) W := by
  have u3 := Tryz.underlying3
  have a3 := Tryz.isAgg3
  have z3 := Tryz.sizeOf3
  have u4 := Tryz.underlying4
  have a4 := Tryz.isAgg4
  have z4 := Tryz.sizeOf4
  have hS : Tryz.prog.underlying 23 = some (.struct (Tryz.prog.fieldsOf 23)) := by kernel_rfl
  have hp : Tryz.prog.stoodInHeld 23 = false := by kernel_rfl
  obtain ⟨a0, a1, a2, a3, a4, a5, a6, a7, a8, a9, a10, a11⟩ := x
  obtain ⟨b0, b1, b2, b3, b4, b5, b6, b7, b8, b9, b10, b11⟩ := y
  have hd : decide ((⟨a0, a1, a2, a3, a4, a5, a6, a7, a8, a9, a10, a11⟩ : Nd) = ⟨b0, b1, b2, b3, b4, b5, b6, b7, b8, b9, b10, b11⟩) = (a0 == b0 && a1 == b1 && a2 == b2 && a3 == b3 && a4 == b4 && a5 == b5 && a6 == b6 && a7 == b7 && a8 == b8 && a9 == b9 && a10 == b10 && a11 == b11) := by
    rw [Bool.eq_iff_iff, decide_eq_true_iff, nd_all]
    simp only [Bool.and_eq_true, beq_iff_eq, and_assoc]
  rw [hd, show (10000 : Nat) = 9999 + 1 from rfl, run_equalIn_agg W 9999 23 _ _ hS hp]
  simp only [Program.fieldsOf, Tryz.underlying23, ndV]
  go_simp
  by_cases h0 : a0 = b0
  case neg => simp [h0]
  subst h0
  by_cases h1 : a1 = b1
  case neg => simp [h1]
  subst h1
  by_cases h2 : a2 = b2
  case neg => simp [h2]
  subst h2
  by_cases h3 : a3 = b3
  case neg => simp [h3]
  subst h3
  by_cases h4 : a4 = b4
  case neg => simp [h4]
  subst h4
  by_cases h5 : a5 = b5
  case neg => simp [h5]
  subst h5
  by_cases h6 : a6 = b6
  case neg => simp [h6]
  subst h6
  by_cases h7 : a7 = b7
  case neg => simp [h7]
  subst h7
  by_cases h8 : a8 = b8
  case neg => simp [h8]
  subst h8
  by_cases h9 : a9 = b9
  case neg => simp [h9]
  subst h9
  by_cases h10 : a10 = b10
  case neg => simp [h10]
  subst h10
  by_cases h11 : a11 = b11
  case neg => simp [h11]
  subst h11
  simp
end Go.Proofs.YtlpjggilkfpleaaGreat
