/-
  For any words of a store on itself: its page is what the document says, and two are the same when the document says so, so the statement returns true. No condition beyond those that the statement itself says.
-/
import Derived.Test.YtenpmaagnljabaaRows
import Derived.Test.YtenpmaagnljabaaMetaPutsW
import Derived.Test.YtenpmaagnljabaaMetaOpen
import Derived.WalkKit
import Derived.ProofKit
import Derived.OpenShut
import Derived.ShutString
import Derived.ChangeOld
import Derived.Below
namespace Go.Proofs.Ytenpmaagnljabaa.metaPuts
open Go.ChangeShapes Go.WideShapes Go.ChangeAt Go.RowKit
open Go.ChangeMaps (open_string shut_string)
set_option linter.unusedVariables false
set_option maxRecDepth 100000

theorem own : ownKnob Try.prog.godebug = none := by kernel_rfl
theorem laidOut : laidOutB Try.prog = true := by kernel_rfl

/-- A slice of integers that came in, as the statement opens it. -/
def IsRow (k : IntKind) (w : World) (a : Option Addr) (len cap : Nat) (zs : List Int) : Prop :=
  (a = none ∧ len = 0 ∧ cap = 0 ∧ zs = []) ∨
  ∃ x, a = some x ∧ len ≤ cap ∧ cap ≤ maxLen ∧ zs.length = cap ∧ (∀ i, i < zs.length → w.cell? (x.add i) = some (.int k (zs.getD i 0))) ∧ ∀ n ∈ zs, (Lit.int k n).wf = true

set_option maxHeartbeats 1600000 in
theorem walk (d0 f0 n0 c0 : Int) (a0 : Option Addr) (len0 cap0 : Nat) (l0 : List Int) (d1 f1 n1 c1 : Int) (a1 : Option Addr) (len1 cap1 : Nat) (l1 : List Int) (w : World) (w0 : MetaIn w d0 f0 n0 c0 a0 len0 cap0 l0) (w1 : MetaIn w d1 f1 n1 c1 a1 len1 cap1 l1) :
    Calls Try.prog 3 #[.agg #[.int .i64 d0, .int .i64 f0, .int .i64 n0, .int .i64 c0, .slice a0 len0 cap0], .agg #[.int .i64 d1, .int .i64 f1, .int .i64 n1, .int .i64 c1, .slice a1 len1 cap1]] w fun e w' => e = .returned (.bool true) ∧ Below w.heap.size w w' := by
  exact metaPuts_any d0 f0 n0 c0 d1 f1 n1 c1 w0.hr w1.hr w0.hm w1.hm w0.hd w0.hf w0.hn w0.hcc
set_option maxRecDepth 100000 in
theorem lifted (os : Os) (started : os.Started) (H : Type) (enc : TypeId × Value → H) :
    ReturnsInHanded {} Try.checked os 3 .any (Rows.metaPutsSpec.pre6 enc Try.prog Try.f3 Rows.metaPutsRow.domain false) (Rows.metaPutsSpec.post enc Try.prog Try.f3 false true false false) := by
  refine returnsInHanded_of_change (C := Try.checked) own started (by kernel_rfl) Try.func3
    (ChangeSpec.witness6 (enc := enc) (C := Try.checked) false ⟨#[], #[.agg #[.int .i64 0, .int .i64 0, .int .i64 0, .int .i64 0, .slice none 0 0], .agg #[.int .i64 0, .int .i64 0, .int .i64 0, .int .i64 0, .slice none 0 0]], []⟩ 8 (by kernel_rfl) (by kernel_rfl) (by kernel_rfl) (by kernel_rfl)) ?_
  intro W base args ds gs before hval0 hW hcnd _
  have hval : ∀ (j : Nat) t v, Try.f3.params[j]? = some t → args[j]? = some v → Value.okWide Try.prog W .any base t v := hval0
  have hW' := hW
  obtain ⟨p, q, hA0, hV, rfl, hfz, hnd⟩ := hW
  have hA : DataW.TrodAll enc Try.prog W 0 (fun _ => true) true Try.f3.params.toList args.toList ds p := hA0
  rw [Try.params3] at hA hval
  obtain ⟨v0, vs0, d0, ds0, p0, q0, hargs, rfl, rfl, h0, r0⟩ := trodAll_cons hA
  obtain ⟨v1, vs1, d1, ds1, p1, q1, rfl, rfl, rfl, h1, r1⟩ := trodAll_cons r0
  obtain ⟨rfl, rfl, rfl⟩ := trodAll_nil r1
  obtain rfl : args = #[v0, v1] := by cases args; simp_all
  obtain ⟨rfl, rfl⟩ := trodVars_none hV
  obtain ⟨cs0, rfl, hsz0⟩ := okWide_struct Try.underlying24 (hval 0 24 v0 rfl rfl)
  have k0 := h0
  have lt0 : ∀ x ∈ p0, x.block < W.heap.size := by obtain ⟨m, hm⟩ := k0; exact DataW.trod_lt m _ _ _ hm
  obtain ⟨dd0, ff0, nn0, cc0, a0, len0, cap0, ll0, rfl, w0⟩ : ∃ d f n c a len cap l, cs0 = #[.int .i64 d, .int .i64 f, .int .i64 n, .int .i64 c, .slice a len cap] ∧ MetaIn W d f n c a len cap l := by
    obtain ⟨fuel, hf⟩ := h0
    obtain ⟨d, f, n, c, a, len, cap, l, hcs, hin⟩ := open_meta hf (by rw [cellsOfMeta] at hsz0; simpa [Value.cells] using hsz0)
    exact ⟨d, f, n, c, a, len, cap, l, Array.ext' (by simpa [Value.cells] using hcs), hin⟩
  obtain ⟨cs1, rfl, hsz1⟩ := okWide_struct Try.underlying24 (hval 1 24 v1 rfl rfl)
  have k1 := h1
  have lt1 : ∀ x ∈ p1, x.block < W.heap.size := by obtain ⟨m, hm⟩ := k1; exact DataW.trod_lt m _ _ _ hm
  obtain ⟨dd1, ff1, nn1, cc1, a1, len1, cap1, ll1, rfl, w1⟩ : ∃ d f n c a len cap l, cs1 = #[.int .i64 d, .int .i64 f, .int .i64 n, .int .i64 c, .slice a len cap] ∧ MetaIn W d f n c a len cap l := by
    obtain ⟨fuel, hf⟩ := h1
    obtain ⟨d, f, n, c, a, len, cap, l, hcs, hin⟩ := open_meta hf (by rw [cellsOfMeta] at hsz1; simpa [Value.cells] using hsz1)
    exact ⟨d, f, n, c, a, len, cap, l, Array.ext' (by simpa [Value.cells] using hcs), hin⟩
  clear hA0 hval0
  refine (walk dd0 ff0 nn0 cc0 a0 len0 cap0 ll0 dd1 ff1 nn1 cc1 a1 len1 cap1 ll1 W w0 w1).mono fun e W' ⟨he, bel⟩ => ?_
  subst he
  exact ⟨_, rfl, _, _, _, [], _, [], hW', trodAll_mk1 (shut_bool Try.underlying4 _), (trodAll_cons_mk (Below.trod laidOut (by kernel_rfl) (of_decide_eq_true (by kernel_rfl)) k0 bel lt0) (trodAll_cons_mk (Below.trod laidOut (by kernel_rfl) (of_decide_eq_true (by kernel_rfl)) k1 bel lt1) trodAll_mk0)), rfl, bel.frame _, fun h => by cases h⟩

theorem over : Rows.metaPutsRow.holds Try.pinned (OpenSpec.ofChange Rows.metaPutsSpec) :=
  OpenClaim.holds_of_wide 3 Try.f3 rfl rfl rfl rfl rfl rfl rfl ⟨rfl, rfl, rfl, rfl, rfl⟩ rfl rfl rfl rfl rfl (by kernel_rfl) Try.func3 (by kernel_rfl)
    (of_decide_eq_true (by kernel_rfl)) (by unfold Func.isWrapper; first | (rw [if_pos (by decide +kernel)]; kernel_rfl) | (rw [if_neg (by decide +kernel)]; exact ⟨rfl, rfl⟩))
    (fun os started H enc _ => lifted os started H enc)

/-- The statement. -/
theorem proved : Rows.MetaPutsSaid := over
#print axioms proved
end Go.Proofs.Ytenpmaagnljabaa.metaPuts
