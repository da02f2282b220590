/-
  Words for the statements' list of calls: a slice of calls as it lies in memory; how the statements' opening gives it; what keeps it. Plain facts; no condition beyond what each says.
-/
import Derived.Test.YtbhjmplhmoikbaaGreatInts
import Derived.Deep.Slices
import Derived.Deep.Fields
import Derived.ChangeSame
import Derived.ProofKit
namespace Go.Proofs.YtbhjmplhmoikbaaGreat
open Go.RowKit
set_option maxRecDepth 100000
set_option linter.unusedVariables false

/-- A call of a statement's list. -/
structure Do22 where
  op : Int
  y : Int

/-- How it lies in memory. -/
def Do22At (w : World) (b off : Nat) (d : Do22) : Prop :=
  w.cell? ⟨b, off, none⟩ = some (.int .i64 d.op) ∧ w.cell? ⟨b, off + 1, none⟩ = some (.int .i64 d.y) ∧
  (-9223372036854775808 ≤ d.op ∧ d.op ≤ 9223372036854775807) ∧ (-9223372036854775808 ≤ d.y ∧ d.y ≤ 9223372036854775807)
/-- The slice at A of n calls reads as the list ds in w, and lies below block B. -/
def RDos22 (w : World) (B : Nat) (A : Option Addr) (n : Nat) (ds : List Do22) : Prop :=
  ds.length = n ∧ (0 < n → ∃ b off, A = some ⟨b, off, none⟩ ∧ b < B ∧ ∀ j, j < n → ∃ d, ds[j]? = some d ∧ Do22At w b (off + j * 2) d)

theorem Do22At.keep {w w' : World} {B b off : Nat} {d : Do22} (h : Do22At w b off d) (hb : b < B) (hk : ∀ b o, b < B → w'.cell? ⟨b, o, none⟩ = w.cell? ⟨b, o, none⟩) : Do22At w' b off d := by
  obtain ⟨h0, h1, h3⟩ := h
  exact ⟨(hk _ _ hb).trans h0, (hk _ _ hb).trans h1, h3⟩
theorem RDos22.nil_ {w : World} {B : Nat} {A : Option Addr} : RDos22 w B A 0 [] := ⟨rfl, fun h => absurd h (by omega)⟩
theorem RDos22.len {w : World} {B n : Nat} {A : Option Addr} {ds : List Do22} (h : RDos22 w B A n ds) : ds.length = n := h.1
theorem RDos22.keep {w w' : World} {B n : Nat} {A : Option Addr} {ds : List Do22} (h : RDos22 w B A n ds) (hk : ∀ b o, b < B → w'.cell? ⟨b, o, none⟩ = w.cell? ⟨b, o, none⟩) : RDos22 w' B A n ds :=
  ⟨h.1, fun hn => by
    obtain ⟨b, off, e, hb, hc⟩ := h.2 hn
    refine ⟨b, off, e, hb, fun j hj => ?_⟩
    obtain ⟨d, hd, hat⟩ := hc j hj
    exact ⟨d, hd, hat.keep hb hk⟩⟩
theorem RDos22.below {w w' : World} {B n : Nat} {A : Option Addr} {ds : List Do22} (h : RDos22 w B A n ds) (hb : Below B w w') : RDos22 w' B A n ds := h.keep fun b o hp => hb.cell (p := ⟨b, o, none⟩) hp
theorem cellInt22 : Tryz.prog.cellsOf 3 = 1 := by kernel_rfl
theorem do22Cells : Tryz.prog.cellsOf 46 = 2 := by kernel_rfl
open Go.ChangeShapes Go.WideShapes Go.Deep in
theorem open_dos22 {H : Type} {enc : TypeId × Value → H} {w : World} {fuel : Nat} {cs : List Value} {x : DataW H × List MemPlace} (h : DataW.trod enc Tryz.prog w 0 (fun _ => true) true fuel 37 cs = some x) :
    cs = [.slice none 0 0] ∨ ∃ (a : Addr) (len cap : Nat) (ds : List Do22), cs = [.slice (some a) len cap] ∧ len ≤ cap ∧ cap ≤ maxLen ∧ RDos22 w w.heap.size (some a) len ds := by
  obtain ⟨fs, hfs⟩ : ∃ fs, Tryz.prog.underlying 46 = some (.struct fs) := ⟨_, Tryz.underlying46⟩
  rcases open_slice Tryz.underlying37 h with ⟨h0, _⟩ | ⟨a, len, cap, m, n, D, Pl, hcs, hb, hl, hm, hmm, hx, hi⟩
  · exact .inl h0
  · right
    have hmc : m = cap := by simpa using hmm
    have each : ∀ i, i < len → ∃ d, ∀ b off, a = ⟨b, off, none⟩ → Do22At w b (off + i * 2) d := by
      intro i hilen
      obtain ⟨cs', hc, ht'⟩ := hi i (by omega)
      rw [do22Cells] at hc
      obtain ⟨ys, n', hn', hy, hlen, hyl, hf⟩ := DataW.trod_struct Tryz.underlying46 ht'
      obtain ⟨_, hcl, hat⟩ := World.cells?_some hc
      match cs', hcl with
      | [c0, c1], _ =>
        match ys, hyl with
        | [y0, y1], _ =>
          have f0 : DataW.trod enc Tryz.prog w 0 (fun _ => true) true n' 3 (([c0, c1].drop 0).take (Tryz.prog.cellsOf 3)) = [y0, y1][0]? := hf 0 _ rfl
          rw [cellInt22] at f0
          have f1 : DataW.trod enc Tryz.prog w 0 (fun _ => true) true n' 3 (([c0, c1].drop 1).take (Tryz.prog.cellsOf 3)) = [y0, y1][1]? := hf 1 _ rfl
          rw [cellInt22] at f1
          simp only [List.drop_zero, List.take_succ_cons, List.take_zero, List.drop_succ_cons, List.getElem?_cons_zero, List.getElem?_cons_succ] at f0 f1
          obtain ⟨n0, e0, _, w0⟩ := DataW.trod_int Tryz.underlying3 f0
          obtain ⟨n1, e1, _, w1⟩ := DataW.trod_int Tryz.underlying3 f1
          simp only [List.cons.injEq, and_true] at e0 e1
          subst e0 e1
          refine ⟨⟨n0, n1⟩, fun b off ha => ?_⟩
          subst ha
          have a0 := hat 0 (by decide)
          have a1 := hat 1 (by decide)
          simp only [add_none, List.getElem?_cons_zero, List.getElem?_cons_succ, Nat.add_zero] at a0 a1
          exact ⟨a0, a1, int_bounds w0, int_bounds w1⟩
    obtain ⟨f, hf⟩ : ∃ f : Nat → Do22, ∀ i, i < len → ∀ b off, a = ⟨b, off, none⟩ → Do22At w b (off + i * 2) (f i) := by
      refine ⟨fun i => if h : i < len then (each i h).choose else ⟨0, 0⟩, fun i hil => ?_⟩
      simp only [hil, dif_pos]
      exact (each i hil).choose_spec
    refine ⟨a, len, cap, (List.range len).map f, hcs, hl, hm, by simp, fun hn => ?_⟩
    obtain ⟨cs', hc, _⟩ := hi 0 (by omega)
    rw [do22Cells] at hc
    obtain ⟨_, hcl, hat⟩ := World.cells?_some hc
    have h0 := hat 0 (by decide)
    have hlt0 : 0 < cs'.length := by omega
    rw [List.getElem?_eq_getElem hlt0] at h0
    obtain ⟨b, off, spot⟩ := a
    have hspot : spot = none := by simpa [Addr.add] using World.cell?_spot h0
    subst hspot
    refine ⟨b, off, rfl, ?_, fun j hj => ⟨f j, by simp [hj], hf j hj b off rfl⟩⟩
    have := World.block_lt_of_cell? _ _ h0
    simpa [Addr.add] using this
end Go.Proofs.YtbhjmplhmoikbaaGreat
