/-
  Words for a slice of 16-bit numbers as it lies in memory; how the statements' opening gives it. Plain facts; no condition beyond what each says.
-/
import Derived.Test.YtbhjmplhmoikbaaGreatInts
namespace Go.Proofs.YtbhjmplhmoikbaaGreat
open Go.RowKit
set_option maxRecDepth 100000
set_option linter.unusedVariables false

/-- A slice of 16-bit numbers. -/
def R16 (w : World) (B : Nat) (A : Option Addr) (n : Nat) (l : List Int) : Prop :=
  l.length = n ∧ (∀ x ∈ l, 0 ≤ x ∧ x < 65536) ∧ (0 < n → ∃ b off, A = some ⟨b, off, none⟩ ∧ b < B ∧ ∀ j, j < n → w.cell? ⟨b, off + j, none⟩ = some (.int .u16 (l[j]?.getD 0)))
theorem u16_bounds {n : Int} (h : (Lit.int .u16 n).wf = true) : 0 ≤ n ∧ n < 65536 := by
  simp [Lit.wf, IntKind.min, IntKind.max, IntKind.signed, IntKind.bits] at h
  omega
theorem R16.of_cells {w : World} {x : Addr} {len cap : Nat} {zs : List Int} (hl : len ≤ cap) (hz : zs.length = cap) (hcell : ∀ i, i < zs.length → w.cell? (x.add i) = some (.int .u16 (zs.getD i 0))) (hw : ∀ n ∈ zs, (Lit.int .u16 n).wf = true) : R16 w w.heap.size (some x) len (zs.take len) := by
  refine ⟨by simp; omega, fun y hy => u16_bounds (hw y (List.mem_of_mem_take hy)), fun hn => ?_⟩
  obtain ⟨b, off, spot⟩ := x
  have hc := hcell 0 (by omega)
  have hspot : spot = none := by simpa [Addr.add] using World.cell?_spot hc
  subst hspot
  refine ⟨b, off, rfl, ?_, fun j hj => ?_⟩
  · rw [add_none] at hc
    exact World.block_lt_of_cell? _ _ hc
  · have := hcell j (by omega)
    have e : (zs.take len)[j]?.getD 0 = zs.getD j 0 := by simp [hj]
    rw [e, ← add_none]
    exact this
theorem R16.range {w : World} {B n : Nat} {A : Option Addr} {l : List Int} (h : R16 w B A n l) (j : Nat) : 0 ≤ l[j]?.getD 0 ∧ l[j]?.getD 0 < 65536 := by
  cases hj : l[j]? with
  | none => simp
  | some x => exact h.2.1 x (List.mem_of_getElem? hj)


end Go.Proofs.YtbhjmplhmoikbaaGreat
