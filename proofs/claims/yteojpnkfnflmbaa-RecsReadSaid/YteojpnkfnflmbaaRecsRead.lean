/-
  For any pair: what it is, is what the document says, so the statement returns true. No condition beyond those that the statement itself says.
-/
import Derived.Test.YteojpnkfnflmbaaRows
import Derived.Test.YteojpnkfnflmbaaRecReadW
import Derived.Test.YteojpnkfnflmbaaRecO
import Derived.Test.YteojpnkfnflmbaaRecI
import Derived.WalkKit
import Derived.ProofKit
import Derived.OpenShut
import Derived.ShutString
import Derived.ChangeOld
import Derived.Below
namespace Go.Proofs.Yteojpnkfnflmbaa.recsRead
open Go.ChangeShapes Go.WideShapes Go.ChangeAt Go.RowKit
open Go.ChangeMaps (open_string shut_string)
set_option linter.unusedVariables false
set_option maxRecDepth 100000

theorem own : ownKnob Try.prog.godebug = none := by kernel_rfl
theorem laidOut : laidOutB Try.prog = true := by kernel_rfl

/-- A slice of integers that came in, as the statement opens it. -/
def IsRow (k : IntKind) (w : World) (a : Option Addr) (len cap : Nat) (zs : List Int) : Prop :=
  (a = none ∧ len = 0 ∧ cap = 0 ∧ zs = []) ∨
  ∃ x, a = some x ∧ len ≤ cap ∧ cap ≤ maxLen ∧ zs.length = cap ∧ (∀ i, i < zs.length → w.cell? (x.add i) = some (.int k (zs.getD i 0))) ∧ ∀ n ∈ zs, (Lit.int k n).wf = true

set_option maxHeartbeats 1600000 in
theorem walk (ka0 : Option Addr) (kn0 kc0 : Nat) (va0 : Option Addr) (vn0 vc0 : Nat) (pr0 : KV) (w : World) (w0 : PairIn w ka0 kn0 kc0 va0 vn0 vc0 pr0) :
    Calls Try.prog 4 #[.agg #[.slice ka0 kn0 kc0, .slice va0 vn0 vc0]] w fun e w' => e = .returned (.bool true) ∧ Below w.heap.size w w' := by
  exact recsRead_any _ _ _ _ _ _ w _ w0
set_option maxRecDepth 100000 in
theorem lifted (os : Os) (started : os.Started) (H : Type) (enc : TypeId × Value → H) :
    ReturnsInHanded {} Try.checked os 4 .any (Rows.recsReadSpec.pre6 enc Try.prog Try.f4 Rows.recsReadRow.domain false) (Rows.recsReadSpec.post enc Try.prog Try.f4 false true false false) := by
  refine returnsInHanded_of_change (C := Try.checked) own started (by kernel_rfl) Try.func4
    (ChangeSpec.witness6 (enc := enc) (C := Try.checked) false ⟨#[], #[.agg #[.slice none 0 0, .slice none 0 0]], []⟩ 8 (by kernel_rfl) (by kernel_rfl) (by kernel_rfl) (by kernel_rfl)) ?_
  intro W base args ds gs before hval0 hW hcnd _
  have hval : ∀ (j : Nat) t v, Try.f4.params[j]? = some t → args[j]? = some v → Value.okWide Try.prog W .any base t v := hval0
  have hW' := hW
  obtain ⟨p, q, hA0, hV, rfl, hfz, hnd⟩ := hW
  have hA : DataW.TrodAll enc Try.prog W 0 (fun _ => true) true Try.f4.params.toList args.toList ds p := hA0
  rw [Try.params4] at hA hval
  obtain ⟨v0, vs0, d0, ds0, p0, q0, hargs, rfl, rfl, h0, r0⟩ := trodAll_cons hA
  obtain ⟨rfl, rfl, rfl⟩ := trodAll_nil r0
  obtain rfl : args = #[v0] := by cases args; simp_all
  obtain ⟨rfl, rfl⟩ := trodVars_none hV
  obtain ⟨cs0, rfl, hsz0⟩ := okWide_struct Try.underlying36 (hval 0 36 v0 rfl rfl)
  have k0 := h0
  have lt0 : ∀ x ∈ p0, x.block < W.heap.size := by obtain ⟨m, hm⟩ := k0; exact DataW.trod_lt m _ _ _ hm
  obtain ⟨ka0, kn0, kc0, va0, vn0, vc0, pr0, rfl, w0⟩ : ∃ ka kn kc va vn vc p, cs0 = #[.slice ka kn kc, .slice va vn vc] ∧ PairIn W ka kn kc va vn vc p := by
    obtain ⟨fuel, hf⟩ := h0
    obtain ⟨ka, kn, kc, va, vn, vc, p, hcs, hin⟩ := open_pairR hf (by rw [cells_pair] at hsz0; simpa [Value.cells] using hsz0)
    exact ⟨ka, kn, kc, va, vn, vc, p, Array.ext' (by simpa [Value.cells] using hcs), hin⟩
  clear hA0 hval0
  refine (walk ka0 kn0 kc0 va0 vn0 vc0 pr0 W w0).mono fun e W' ⟨he, bel⟩ => ?_
  subst he
  exact ⟨_, rfl, _, _, _, [], _, [], hW', trodAll_mk1 (shut_bool Try.underlying4 _), (trodAll_cons_mk (Below.trod laidOut (by kernel_rfl) (of_decide_eq_true (by kernel_rfl)) k0 bel lt0) trodAll_mk0), rfl, bel.frame _, fun h => by cases h⟩

theorem over : Rows.recsReadRow.holds Try.pinned (OpenSpec.ofChange Rows.recsReadSpec) :=
  OpenClaim.holds_of_wide 4 Try.f4 rfl rfl rfl rfl rfl rfl rfl ⟨rfl, rfl, rfl, rfl, rfl⟩ rfl rfl rfl rfl rfl (by kernel_rfl) Try.func4 (by kernel_rfl)
    (of_decide_eq_true (by kernel_rfl)) (by unfold Func.isWrapper; first | (rw [if_pos (by decide +kernel)]; kernel_rfl) | (rw [if_neg (by decide +kernel)]; exact ⟨rfl, rfl⟩))
    (fun os started H enc _ => lifted os started H enc)

/-- The statement. -/
theorem proved : Rows.RecsReadSaid := over
#print axioms proved
end Go.Proofs.Yteojpnkfnflmbaa.recsRead
