/-
  For any node, document, entry and line whose numbers may stand in keys: what was made a pair is told of it again, so the statement returns true. No condition beyond those that the statement itself says.
-/
import Derived.Test.YteojpnkfnflmbaaRows
import Derived.Test.YteojpnkfnflmbaaRecBackW
import Derived.Test.YteojpnkfnflmbaaRecO
import Derived.Test.YteojpnkfnflmbaaRecI
import Derived.WalkKit
import Derived.ProofKit
import Derived.OpenShut
import Derived.ShutString
import Derived.ChangeOld
import Derived.Below
namespace Go.Proofs.Yteojpnkfnflmbaa.recsBack
open Go.ChangeShapes Go.WideShapes Go.ChangeAt Go.RowKit
open Go.ChangeMaps (open_string shut_string)
set_option linter.unusedVariables false
set_option maxRecDepth 100000

theorem own : ownKnob Try.prog.godebug = none := by kernel_rfl
theorem laidOut : laidOutB Try.prog = true := by kernel_rfl

/-- A slice of integers that came in, as the statement opens it. -/
def IsRow (k : IntKind) (w : World) (a : Option Addr) (len cap : Nat) (zs : List Int) : Prop :=
  (a = none ∧ len = 0 ∧ cap = 0 ∧ zs = []) ∨
  ∃ x, a = some x ∧ len ≤ cap ∧ cap ≤ maxLen ∧ zs.length = cap ∧ (∀ i, i < zs.length → w.cell? (x.add i) = some (.int k (zs.getD i 0))) ∧ ∀ n ∈ zs, (Lit.int k n).wf = true

set_option maxHeartbeats 1600000 in
theorem walk (a0_ : Int) (b0_ : Int) (c0_ : Int) (d0_ : Int) (e0_ : Int) (f0_ : Bool) (g0_ : Int) (h0_ : Int) (i0_ : Int) (j0_ : Int) (k0_ : Int) (l0_ : Int) (a1_ : Int) (b1_ : Int) (c1_ : Int) (d1_ : Int) (e1_ : Int) (a2_ : Int) (b2_ : Int) (c2_ : Int) (d2_ : Int) (a3_ : Int) (b3_ : Int) (c3_ : Int) (d3_ : Int) (e3_ : Int) (f3_ : Int) (a4_ : Int) (b4_ : Int) (c4_ : Int) (d4_ : Int) (a5_ : Int) (b5_ : Int) (c5_ : Int) (d5_ : Int) (w : World) (w0 : In64 [a0_, b0_, c0_, d0_, e0_, g0_, h0_, i0_, j0_, k0_, l0_]) (w1 : In64 [a1_, b1_, c1_, d1_, e1_]) (w2 : In64 [a2_, b2_, c2_, d2_]) (w3 : In64 [a3_, b3_, c3_, d3_, e3_, f3_]) (w4 : In64 [a4_, b4_, c4_, d4_]) (w5 : InU32 [a5_, b5_, c5_, d5_]) :
    Calls Try.prog 5 #[.agg #[.int .i64 a0_, .int .i64 b0_, .int .i64 c0_, .int .i64 d0_, .int .i64 e0_, .bool f0_, .int .i64 g0_, .int .i64 h0_, .int .i64 i0_, .int .i64 j0_, .int .i64 k0_, .int .i64 l0_], .agg #[.int .i64 a1_, .int .i64 b1_, .int .i64 c1_, .int .i64 d1_, .int .i64 e1_], .agg #[.int .i64 a2_, .int .i64 b2_, .int .i64 c2_, .int .i64 d2_], .agg #[.int .i64 a3_, .int .i64 b3_, .int .i64 c3_, .int .i64 d3_, .int .i64 e3_, .int .i64 f3_], .agg #[.int .i64 a4_, .int .i64 b4_, .int .i64 c4_, .int .i64 d4_], .agg #[.int .u32 a5_, .int .u32 b5_, .int .u32 c5_, .int .u32 d5_]] w fun e w' => e = .returned (.bool true) ∧ Below w.heap.size w w' := by
  exact recsBack_any a0_ b0_ c0_ d0_ e0_ f0_ g0_ h0_ i0_ j0_ k0_ l0_ a1_ b1_ c1_ d1_ e1_ a2_ b2_ c2_ d2_ a3_ b3_ c3_ d3_ e3_ f3_ a4_ b4_ c4_ d4_ a5_ b5_ c5_ d5_ w w0 w1 w2 w3 w4 w5
set_option maxRecDepth 100000 in
theorem lifted (os : Os) (started : os.Started) (H : Type) (enc : TypeId × Value → H) :
    ReturnsInHanded {} Try.checked os 5 .any (Rows.recsBackSpec.pre6 enc Try.prog Try.f5 Rows.recsBackRow.domain false) (Rows.recsBackSpec.post enc Try.prog Try.f5 false true false false) := by
  refine returnsInHanded_of_change (C := Try.checked) own started (by kernel_rfl) Try.func5
    (ChangeSpec.witness6 (enc := enc) (C := Try.checked) false ⟨#[], #[.agg #[.int .i64 0, .int .i64 0, .int .i64 0, .int .i64 0, .int .i64 0, .bool false, .int .i64 0, .int .i64 0, .int .i64 0, .int .i64 0, .int .i64 0, .int .i64 0], .agg #[.int .i64 0, .int .i64 0, .int .i64 0, .int .i64 0, .int .i64 0], .agg #[.int .i64 0, .int .i64 0, .int .i64 0, .int .i64 0], .agg #[.int .i64 0, .int .i64 0, .int .i64 0, .int .i64 0, .int .i64 0, .int .i64 0], .agg #[.int .i64 0, .int .i64 0, .int .i64 0, .int .i64 0], .agg #[.int .u32 0, .int .u32 0, .int .u32 0, .int .u32 0]], []⟩ 8 (by kernel_rfl) (by kernel_rfl) (by kernel_rfl) (by kernel_rfl)) ?_
  intro W base args ds gs before hval0 hW hcnd _
  have hval : ∀ (j : Nat) t v, Try.f5.params[j]? = some t → args[j]? = some v → Value.okWide Try.prog W .any base t v := hval0
  have hW' := hW
  obtain ⟨p, q, hA0, hV, rfl, hfz, hnd⟩ := hW
  have hA : DataW.TrodAll enc Try.prog W 0 (fun _ => true) true Try.f5.params.toList args.toList ds p := hA0
  rw [Try.params5] at hA hval
  obtain ⟨v0, vs0, d0, ds0, p0, q0, hargs, rfl, rfl, h0, r0⟩ := trodAll_cons hA
  obtain ⟨v1, vs1, d1, ds1, p1, q1, rfl, rfl, rfl, h1, r1⟩ := trodAll_cons r0
  obtain ⟨v2, vs2, d2, ds2, p2, q2, rfl, rfl, rfl, h2, r2⟩ := trodAll_cons r1
  obtain ⟨v3, vs3, d3, ds3, p3, q3, rfl, rfl, rfl, h3, r3⟩ := trodAll_cons r2
  obtain ⟨v4, vs4, d4, ds4, p4, q4, rfl, rfl, rfl, h4, r4⟩ := trodAll_cons r3
  obtain ⟨v5, vs5, d5, ds5, p5, q5, rfl, rfl, rfl, h5, r5⟩ := trodAll_cons r4
  obtain ⟨rfl, rfl, rfl⟩ := trodAll_nil r5
  obtain rfl : args = #[v0, v1, v2, v3, v4, v5] := by cases args; simp_all
  obtain ⟨rfl, rfl⟩ := trodVars_none hV
  obtain ⟨cs0, rfl, hsz0⟩ := okWide_struct Try.underlying23 (hval 0 23 v0 rfl rfl)
  have k0 := h0
  have lt0 : ∀ x ∈ p0, x.block < W.heap.size := by obtain ⟨m, hm⟩ := k0; exact DataW.trod_lt m _ _ _ hm
  obtain ⟨a0_, b0_, c0_, d0_, e0_, f0_, g0_, h0_, i0_, j0_, k0_, l0_, rfl, w0⟩ : ∃ (a : Int) (b : Int) (c : Int) (d : Int) (e : Int) (f : Bool) (g : Int) (h : Int) (i : Int) (j : Int) (k : Int) (l : Int), cs0 = #[.int .i64 a, .int .i64 b, .int .i64 c, .int .i64 d, .int .i64 e, .bool f, .int .i64 g, .int .i64 h, .int .i64 i, .int .i64 j, .int .i64 k, .int .i64 l] ∧ In64 [a, b, c, d, e, g, h, i, j, k, l] := by
    obtain ⟨fuel, hf⟩ := h0
    obtain ⟨a, b, c, d, e, f, g, h, i, j, k, l, hcs, hin⟩ := open_node hf (by rw [cells_node] at hsz0; simpa [Value.cells] using hsz0)
    exact ⟨a, b, c, d, e, f, g, h, i, j, k, l, Array.ext' (by simpa [Value.cells] using hcs), hin⟩
  obtain ⟨cs1, rfl, hsz1⟩ := okWide_struct Try.underlying25 (hval 1 25 v1 rfl rfl)
  have k1 := h1
  have lt1 : ∀ x ∈ p1, x.block < W.heap.size := by obtain ⟨m, hm⟩ := k1; exact DataW.trod_lt m _ _ _ hm
  obtain ⟨a1_, b1_, c1_, d1_, e1_, rfl, w1⟩ : ∃ (a : Int) (b : Int) (c : Int) (d : Int) (e : Int), cs1 = #[.int .i64 a, .int .i64 b, .int .i64 c, .int .i64 d, .int .i64 e] ∧ In64 [a, b, c, d, e] := by
    obtain ⟨fuel, hf⟩ := h1
    obtain ⟨a, b, c, d, e, hcs, hin⟩ := open_doc hf (by rw [cells_doc] at hsz1; simpa [Value.cells] using hsz1)
    exact ⟨a, b, c, d, e, Array.ext' (by simpa [Value.cells] using hcs), hin⟩
  obtain ⟨cs2, rfl, hsz2⟩ := okWide_struct Try.underlying27 (hval 2 27 v2 rfl rfl)
  have k2 := h2
  have lt2 : ∀ x ∈ p2, x.block < W.heap.size := by obtain ⟨m, hm⟩ := k2; exact DataW.trod_lt m _ _ _ hm
  obtain ⟨a2_, b2_, c2_, d2_, rfl, w2⟩ : ∃ (a : Int) (b : Int) (c : Int) (d : Int), cs2 = #[.int .i64 a, .int .i64 b, .int .i64 c, .int .i64 d] ∧ In64 [a, b, c, d] := by
    obtain ⟨fuel, hf⟩ := h2
    obtain ⟨a, b, c, d, hcs, hin⟩ := open_docline hf (by rw [cells_docline] at hsz2; simpa [Value.cells] using hsz2)
    exact ⟨a, b, c, d, Array.ext' (by simpa [Value.cells] using hcs), hin⟩
  obtain ⟨cs3, rfl, hsz3⟩ := okWide_struct Try.underlying29 (hval 3 29 v3 rfl rfl)
  have k3 := h3
  have lt3 : ∀ x ∈ p3, x.block < W.heap.size := by obtain ⟨m, hm⟩ := k3; exact DataW.trod_lt m _ _ _ hm
  obtain ⟨a3_, b3_, c3_, d3_, e3_, f3_, rfl, w3⟩ : ∃ (a : Int) (b : Int) (c : Int) (d : Int) (e : Int) (f : Int), cs3 = #[.int .i64 a, .int .i64 b, .int .i64 c, .int .i64 d, .int .i64 e, .int .i64 f] ∧ In64 [a, b, c, d, e, f] := by
    obtain ⟨fuel, hf⟩ := h3
    obtain ⟨a, b, c, d, e, f, hcs, hin⟩ := open_entry hf (by rw [cells_entry] at hsz3; simpa [Value.cells] using hsz3)
    exact ⟨a, b, c, d, e, f, Array.ext' (by simpa [Value.cells] using hcs), hin⟩
  obtain ⟨cs4, rfl, hsz4⟩ := okWide_struct Try.underlying31 (hval 4 31 v4 rfl rfl)
  have k4 := h4
  have lt4 : ∀ x ∈ p4, x.block < W.heap.size := by obtain ⟨m, hm⟩ := k4; exact DataW.trod_lt m _ _ _ hm
  obtain ⟨a4_, b4_, c4_, d4_, rfl, w4⟩ : ∃ (a : Int) (b : Int) (c : Int) (d : Int), cs4 = #[.int .i64 a, .int .i64 b, .int .i64 c, .int .i64 d] ∧ In64 [a, b, c, d] := by
    obtain ⟨fuel, hf⟩ := h4
    obtain ⟨a, b, c, d, hcs, hin⟩ := open_line hf (by rw [cells_line] at hsz4; simpa [Value.cells] using hsz4)
    exact ⟨a, b, c, d, Array.ext' (by simpa [Value.cells] using hcs), hin⟩
  obtain ⟨cs5, rfl, hsz5⟩ := okWide_array_ Try.underlying56 (hval 5 56 v5 rfl rfl)
  have k5 := h5
  have lt5 : ∀ x ∈ p5, x.block < W.heap.size := by obtain ⟨m, hm⟩ := k5; exact DataW.trod_lt m _ _ _ hm
  obtain ⟨a5_, b5_, c5_, d5_, rfl, w5⟩ : ∃ (a : Int) (b : Int) (c : Int) (d : Int), cs5 = #[.int .u32 a, .int .u32 b, .int .u32 c, .int .u32 d] ∧ InU32 [a, b, c, d] := by
    obtain ⟨fuel, hf⟩ := h5
    obtain ⟨a, b, c, d, hcs, hin⟩ := open_u4 hf (by rw [cells_u4] at hsz5; simpa [Value.cells] using hsz5)
    exact ⟨a, b, c, d, Array.ext' (by simpa [Value.cells] using hcs), hin⟩
  clear hA0 hval0
  refine (walk a0_ b0_ c0_ d0_ e0_ f0_ g0_ h0_ i0_ j0_ k0_ l0_ a1_ b1_ c1_ d1_ e1_ a2_ b2_ c2_ d2_ a3_ b3_ c3_ d3_ e3_ f3_ a4_ b4_ c4_ d4_ a5_ b5_ c5_ d5_ W w0 w1 w2 w3 w4 w5).mono fun e W' ⟨he, bel⟩ => ?_
  subst he
  exact ⟨_, rfl, _, _, _, [], _, [], hW', trodAll_mk1 (shut_bool Try.underlying4 _), (trodAll_cons_mk (Below.trod laidOut (by kernel_rfl) (of_decide_eq_true (by kernel_rfl)) k0 bel lt0) (trodAll_cons_mk (Below.trod laidOut (by kernel_rfl) (of_decide_eq_true (by kernel_rfl)) k1 bel lt1) (trodAll_cons_mk (Below.trod laidOut (by kernel_rfl) (of_decide_eq_true (by kernel_rfl)) k2 bel lt2) (trodAll_cons_mk (Below.trod laidOut (by kernel_rfl) (of_decide_eq_true (by kernel_rfl)) k3 bel lt3) (trodAll_cons_mk (Below.trod laidOut (by kernel_rfl) (of_decide_eq_true (by kernel_rfl)) k4 bel lt4) (trodAll_cons_mk (Below.trod laidOut (by kernel_rfl) (of_decide_eq_true (by kernel_rfl)) k5 bel lt5) trodAll_mk0)))))), rfl, bel.frame _, fun h => by cases h⟩

theorem over : Rows.recsBackRow.holds Try.pinned (OpenSpec.ofChange Rows.recsBackSpec) :=
  OpenClaim.holds_of_wide 5 Try.f5 rfl rfl rfl rfl rfl rfl rfl ⟨rfl, rfl, rfl, rfl, rfl⟩ rfl rfl rfl rfl rfl (by kernel_rfl) Try.func5 (by kernel_rfl)
    (of_decide_eq_true (by kernel_rfl)) (by unfold Func.isWrapper; first | (rw [if_pos (by decide +kernel)]; kernel_rfl) | (rw [if_neg (by decide +kernel)]; exact ⟨rfl, rfl⟩))
    (fun os started H enc _ => lifted os started H enc)

/-- The statement. -/
theorem proved : Rows.RecsBackSaid := over
#print axioms proved
end Go.Proofs.Yteojpnkfnflmbaa.recsBack
