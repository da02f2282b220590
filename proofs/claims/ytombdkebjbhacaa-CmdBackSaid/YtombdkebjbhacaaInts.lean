/-
  Words for a slice of ints as it lies in memory; what keeps it. Plain facts; no condition beyond what each says.
-/
import Derived.Test.YtombdkebjbhacaaBase
import Derived.Deep.Slices
import Derived.Deep.Fields
import Derived.ChangeSame
import Derived.ProofKit
namespace Go.Proofs.Ytombdkebjbhacaa
open Go.RowKit
set_option maxRecDepth 100000
set_option linter.unusedVariables false

/-- The slice at A of n ints reads as the list l in w, and lies below block B. -/
def RI (w : World) (B : Nat) (A : Option Addr) (n : Nat) (l : List Int) : Prop :=
  l.length = n ∧ (∀ x ∈ l, -9223372036854775808 ≤ x ∧ x ≤ 9223372036854775807) ∧ (0 < n → ∃ b off, A = some ⟨b, off, none⟩ ∧ b < B ∧ ∀ j, j < n → w.cell? ⟨b, off + j, none⟩ = some (.int .i64 (l[j]?.getD 0)))

theorem RI.nil_ {w : World} {B : Nat} {A : Option Addr} : RI w B A 0 [] := ⟨rfl, (fun _ h => by cases h), fun h => absurd h (by omega)⟩
theorem RI.len {w : World} {B n : Nat} {A : Option Addr} {l : List Int} (h : RI w B A n l) : l.length = n := h.1
theorem RI.keep {w w' : World} {B n : Nat} {A : Option Addr} {l : List Int} (h : RI w B A n l) (hk : ∀ b o, b < B → w'.cell? ⟨b, o, none⟩ = w.cell? ⟨b, o, none⟩) : RI w' B A n l :=
  ⟨h.1, h.2.1, fun hn => by
    obtain ⟨b, off, e, hb, hc⟩ := h.2.2 hn
    exact ⟨b, off, e, hb, fun j hj => (hk _ _ hb).trans (hc j hj)⟩⟩
theorem RI.below {w w' : World} {B n : Nat} {A : Option Addr} {l : List Int} (h : RI w B A n l) (hb : Below B w w') : RI w' B A n l := h.keep fun b o hp => hb.cell (p := ⟨b, o, none⟩) hp
theorem RI.more {w : World} {B B' n : Nat} {A : Option Addr} {l : List Int} (h : RI w B A n l) (hB : B ≤ B') : RI w B' A n l :=
  ⟨h.1, h.2.1, fun hn => by
    obtain ⟨b, off, e, hb, hc⟩ := h.2.2 hn
    exact ⟨b, off, e, by omega, hc⟩⟩
theorem int_bounds {n : Int} (h : (Lit.int .i64 n).wf = true) : -9223372036854775808 ≤ n ∧ n ≤ 9223372036854775807 := by
  simp [Lit.wf, IntKind.min, IntKind.max, IntKind.signed, IntKind.bits] at h
  omega
theorem byte_bounds {n : Int} (h : (Lit.int .u8 n).wf = true) : 0 ≤ n ∧ n < 256 := by
  simp [Lit.wf, IntKind.min, IntKind.max, IntKind.signed, IntKind.bits] at h
  omega
theorem add_none (b off j : Nat) : Addr.add ⟨b, off, none⟩ j = ⟨b, off + j, none⟩ := by unfold Addr.add; split <;> simp_all

/-- A slice of ints as the statements open it. -/
theorem RI.of_cells {w : World} {x : Addr} {len cap : Nat} {zs : List Int} (hl : len ≤ cap) (hz : zs.length = cap) (hcell : ∀ i, i < zs.length → w.cell? (x.add i) = some (.int .i64 (zs.getD i 0))) (hw : ∀ n ∈ zs, (Lit.int .i64 n).wf = true) : RI w w.heap.size (some x) len (zs.take len) := by
  refine ⟨by simp; omega, fun y hy => int_bounds (hw y (List.mem_of_mem_take hy)), fun hn => ?_⟩
  obtain ⟨b, off, spot⟩ := x
  have hc := hcell 0 (by omega)
  have hspot : spot = none := by simpa [Addr.add] using World.cell?_spot hc
  subst hspot
  refine ⟨b, off, rfl, ?_, fun j hj => ?_⟩
  · rw [add_none] at hc
    exact World.block_lt_of_cell? _ _ hc
  · have := hcell j (by omega)
    have e : (zs.take len)[j]?.getD 0 = zs.getD j 0 := by simp [hj]
    rw [e, ← add_none]
    exact this

/-- n times the same byte. -/
def reps (n : Nat) (c : Int) : List Int := List.replicate n c
theorem reps_length (n : Nat) (c : Int) : (reps n c).length = n := List.length_replicate ..
theorem reps_bytes (n : Nat) {c : Int} (h : 0 ≤ c ∧ c < 256) : AllBytes (reps n c) := fun x hx => by
  obtain rfl := (List.mem_replicate.1 hx).2
  exact h
theorem reps_getD {n : Nat} {c : Int} {j : Nat} (h : j < n) : (reps n c)[j]?.getD 0 = c := by simp [reps, h]

theorem size_u8' : (Try.prog.info? 5).map (·.size) = some 1 := by kernel_rfl

end Go.Proofs.Ytombdkebjbhacaa
