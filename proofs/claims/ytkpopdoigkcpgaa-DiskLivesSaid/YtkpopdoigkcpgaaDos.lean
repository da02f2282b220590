/-
  Words for the statements' lists of calls: a slice of ints, a slice of calls (each with a slice of ints of its own), as they lie in memory; how the statements' opening gives them; what keeps them. Plain facts; no condition beyond what each says.
-/
import Derived.Test.YtkpopdoigkcpgaaBase
import Derived.Deep.Slices
import Derived.Deep.Fields
import Derived.ChangeSame
import Derived.ProofKit
namespace Go.Proofs.Ytkpopdoigkcpgaa
open Go.RowKit
set_option linter.unusedVariables false

/-- The slice at A of n ints reads as the list l in w, and lies below block B. -/
def RI (w : World) (B : Nat) (A : Option Addr) (n : Nat) (l : List Int) : Prop :=
  l.length = n ∧ (∀ x ∈ l, -9223372036854775808 ≤ x ∧ x ≤ 9223372036854775807) ∧ (0 < n → ∃ b off, A = some ⟨b, off, none⟩ ∧ b < B ∧ ∀ j, j < n → w.cell? ⟨b, off + j, none⟩ = some (.int .i64 (l[j]?.getD 0)))

theorem RI.nil_ {w : World} {B : Nat} {A : Option Addr} : RI w B A 0 [] := ⟨rfl, (fun _ h => by cases h), fun h => absurd h (by omega)⟩
theorem RI.len {w : World} {B n : Nat} {A : Option Addr} {l : List Int} (h : RI w B A n l) : l.length = n := h.1
theorem RI.keep {w w' : World} {B n : Nat} {A : Option Addr} {l : List Int} (h : RI w B A n l) (hk : ∀ b o, b < B → w'.cell? ⟨b, o, none⟩ = w.cell? ⟨b, o, none⟩) : RI w' B A n l :=
  ⟨h.1, h.2.1, fun hn => by
    obtain ⟨b, off, e, hb, hc⟩ := h.2.2 hn
    exact ⟨b, off, e, hb, fun j hj => (hk _ _ hb).trans (hc j hj)⟩⟩
theorem RI.below {w w' : World} {B n : Nat} {A : Option Addr} {l : List Int} (h : RI w B A n l) (hb : Below B w w') : RI w' B A n l := h.keep fun b o hp => hb.cell (p := ⟨b, o, none⟩) hp
theorem RI.more {w : World} {B B' n : Nat} {A : Option Addr} {l : List Int} (h : RI w B A n l) (hB : B ≤ B') : RI w B' A n l :=
  ⟨h.1, h.2.1, fun hn => by
    obtain ⟨b, off, e, hb, hc⟩ := h.2.2 hn
    exact ⟨b, off, e, by omega, hc⟩⟩
theorem int_bounds {n : Int} (h : (Lit.int .i64 n).wf = true) : -9223372036854775808 ≤ n ∧ n ≤ 9223372036854775807 := by
  simp [Lit.wf, IntKind.min, IntKind.max, IntKind.signed, IntKind.bits] at h
  omega
theorem byte_bounds {n : Int} (h : (Lit.int .u8 n).wf = true) : 0 ≤ n ∧ n < 256 := by
  simp [Lit.wf, IntKind.min, IntKind.max, IntKind.signed, IntKind.bits] at h
  omega
theorem add_none (b off j : Nat) : Addr.add ⟨b, off, none⟩ j = ⟨b, off + j, none⟩ := by unfold Addr.add; split <;> simp_all

/-- A slice of ints as the statements open it. -/
theorem RI.of_cells {w : World} {x : Addr} {len cap : Nat} {zs : List Int} (hl : len ≤ cap) (hz : zs.length = cap) (hcell : ∀ i, i < zs.length → w.cell? (x.add i) = some (.int .i64 (zs.getD i 0))) (hw : ∀ n ∈ zs, (Lit.int .i64 n).wf = true) : RI w w.heap.size (some x) len (zs.take len) := by
  refine ⟨by simp; omega, fun y hy => int_bounds (hw y (List.mem_of_mem_take hy)), fun hn => ?_⟩
  obtain ⟨b, off, spot⟩ := x
  have hc := hcell 0 (by omega)
  have hspot : spot = none := by simpa [Addr.add] using World.cell?_spot hc
  subst hspot
  refine ⟨b, off, rfl, ?_, fun j hj => ?_⟩
  · rw [add_none] at hc
    exact World.block_lt_of_cell? _ _ hc
  · have := hcell j (by omega)
    have e : (zs.take len)[j]?.getD 0 = zs.getD j 0 := by simp [hj]
    rw [e, ← add_none]
    exact this

/-- A call of a statement's list. -/
structure DoV where
  op : Int
  i : Int
  b : Int
  ka : Option Addr
  kn : Nat
  kc : Nat
  keep : List Int

/-- How it lies in memory. -/
def DoAt (w : World) (B b off : Nat) (d : DoV) : Prop :=
  w.cell? ⟨b, off, none⟩ = some (.int .i64 d.op) ∧ w.cell? ⟨b, off + 1, none⟩ = some (.int .i64 d.i) ∧ w.cell? ⟨b, off + 2, none⟩ = some (.int .u8 d.b) ∧ w.cell? ⟨b, off + 3, none⟩ = some (.slice d.ka d.kn d.kc) ∧
  (-9223372036854775808 ≤ d.op ∧ d.op ≤ 9223372036854775807) ∧ (-9223372036854775808 ≤ d.i ∧ d.i ≤ 9223372036854775807) ∧ (0 ≤ d.b ∧ d.b < 256) ∧ RI w B d.ka d.kn d.keep ∧ d.kn ≤ d.kc ∧ d.kn ≤ maxLen
/-- The slice at A of n calls reads as the list ds in w, and lies below block B. -/
def RDos (w : World) (B : Nat) (A : Option Addr) (n : Nat) (ds : List DoV) : Prop :=
  ds.length = n ∧ (0 < n → ∃ b off, A = some ⟨b, off, none⟩ ∧ b < B ∧ ∀ j, j < n → ∃ d, ds[j]? = some d ∧ DoAt w B b (off + j * 4) d)

theorem DoAt.keep {w w' : World} {B b off : Nat} {d : DoV} (h : DoAt w B b off d) (hb : b < B) (hk : ∀ b o, b < B → w'.cell? ⟨b, o, none⟩ = w.cell? ⟨b, o, none⟩) : DoAt w' B b off d := by
  obtain ⟨h0, h1, h2, h3, h4, h5, h6, h7, h8, h9⟩ := h
  exact ⟨(hk _ _ hb).trans h0, (hk _ _ hb).trans h1, (hk _ _ hb).trans h2, (hk _ _ hb).trans h3, h4, h5, h6, h7.keep hk, h8, h9⟩
theorem RDos.nil_ {w : World} {B : Nat} {A : Option Addr} : RDos w B A 0 [] := ⟨rfl, fun h => absurd h (by omega)⟩
theorem RDos.len {w : World} {B n : Nat} {A : Option Addr} {ds : List DoV} (h : RDos w B A n ds) : ds.length = n := h.1
theorem RDos.keep {w w' : World} {B n : Nat} {A : Option Addr} {ds : List DoV} (h : RDos w B A n ds) (hk : ∀ b o, b < B → w'.cell? ⟨b, o, none⟩ = w.cell? ⟨b, o, none⟩) : RDos w' B A n ds :=
  ⟨h.1, fun hn => by
    obtain ⟨b, off, e, hb, hc⟩ := h.2 hn
    refine ⟨b, off, e, hb, fun j hj => ?_⟩
    obtain ⟨d, hd, hat⟩ := hc j hj
    exact ⟨d, hd, hat.keep hb hk⟩⟩
theorem RDos.below {w w' : World} {B n : Nat} {A : Option Addr} {ds : List DoV} (h : RDos w B A n ds) (hb : Below B w w') : RDos w' B A n ds := h.keep fun b o hp => hb.cell (p := ⟨b, o, none⟩) hp

theorem cellInt : Try.prog.cellsOf 3 = 1 := by kernel_rfl
theorem cellU8 : Try.prog.cellsOf 5 = 1 := by kernel_rfl
theorem cellInts : Try.prog.cellsOf 32 = 1 := by kernel_rfl
theorem doCells : Try.prog.cellsOf 34 = 4 := by kernel_rfl
open Go.ChangeShapes Go.WideShapes Go.Deep in
theorem open_dos {H : Type} {enc : TypeId × Value → H} {w : World} {fuel : Nat} {cs : List Value} {x : DataW H × List MemPlace} (h : DataW.trod enc Try.prog w 0 (fun _ => true) true fuel 22 cs = some x) :
    cs = [.slice none 0 0] ∨ ∃ (a : Addr) (len cap : Nat) (ds : List DoV), cs = [.slice (some a) len cap] ∧ len ≤ cap ∧ cap ≤ maxLen ∧ RDos w w.heap.size (some a) len ds := by
  obtain ⟨fs, hfs⟩ : ∃ fs, Try.prog.underlying 34 = some (.struct fs) := ⟨_, Try.underlying34⟩
  rcases open_slice Try.underlying22 h with ⟨h0, _⟩ | ⟨a, len, cap, m, n, D, Pl, hcs, hb, hl, hm, hmm, hx, hi⟩
  · exact .inl h0
  · right
    have hmc : m = cap := by simpa using hmm
    have each : ∀ i, i < len → ∃ d, ∀ b off, a = ⟨b, off, none⟩ → DoAt w w.heap.size b (off + i * 4) d := by
      intro i hilen
      obtain ⟨cs', hc, ht'⟩ := hi i (by omega)
      rw [doCells] at hc
      obtain ⟨ys, n', hn', hy, hlen, hyl, hf⟩ := DataW.trod_struct Try.underlying34 ht'
      obtain ⟨_, hcl, hat⟩ := World.cells?_some hc
      match cs', hcl with
      | [c0, c1, c2, c3], _ =>
        match ys, hyl with
        | [y0, y1, y2, y3], _ =>
          have f0 : DataW.trod enc Try.prog w 0 (fun _ => true) true n' 3 (([c0, c1, c2, c3].drop 0).take (Try.prog.cellsOf 3)) = [y0, y1, y2, y3][0]? := hf 0 _ rfl
          rw [cellInt] at f0
          have f1 : DataW.trod enc Try.prog w 0 (fun _ => true) true n' 3 (([c0, c1, c2, c3].drop 1).take (Try.prog.cellsOf 3)) = [y0, y1, y2, y3][1]? := hf 1 _ rfl
          rw [cellInt] at f1
          have f2 : DataW.trod enc Try.prog w 0 (fun _ => true) true n' 5 (([c0, c1, c2, c3].drop 2).take (Try.prog.cellsOf 5)) = [y0, y1, y2, y3][2]? := hf 2 _ rfl
          rw [cellU8] at f2
          have f3 : DataW.trod enc Try.prog w 0 (fun _ => true) true n' 32 (([c0, c1, c2, c3].drop 3).take (Try.prog.cellsOf 32)) = [y0, y1, y2, y3][3]? := hf 3 _ rfl
          rw [cellInts] at f3
          simp only [List.drop_zero, List.take_succ_cons, List.take_zero, List.drop_succ_cons, List.getElem?_cons_zero, List.getElem?_cons_succ] at f0 f1 f2 f3
          obtain ⟨n0, e0, _, w0⟩ := DataW.trod_int Try.underlying3 f0
          obtain ⟨n1, e1, _, w1⟩ := DataW.trod_int Try.underlying3 f1
          obtain ⟨n2, e2, _, w2⟩ := DataW.trod_int Try.underlying5 f2
          simp only [List.cons.injEq, and_true] at e0 e1 e2
          subst e0 e1 e2
          have key : ∀ (ka : Option Addr) (kn kc : Nat) (keep : List Int), c3 = .slice ka kn kc → RI w w.heap.size ka kn keep → kn ≤ kc → kn ≤ maxLen → ∃ d, ∀ b off, a = ⟨b, off, none⟩ → DoAt w w.heap.size b (off + i * 4) d := by
            intro ka kn kc keep e hri hkc hkm
            refine ⟨⟨n0, n1, n2, ka, kn, kc, keep⟩, fun b off ha => ?_⟩
            subst ha e
            have a0 := hat 0 (by decide)
            have a1 := hat 1 (by decide)
            have a2 := hat 2 (by decide)
            have a3 := hat 3 (by decide)
            simp only [add_none, List.getElem?_cons_zero, List.getElem?_cons_succ, Nat.add_zero] at a0 a1 a2 a3
            exact ⟨a0, a1, a2, a3, int_bounds w0, int_bounds w1, byte_bounds w2, hri, hkc, hkm⟩
          rcases open_ints Try.underlying32 Try.underlying3 (by kernel_rfl) f3 with ⟨hk, _⟩ | ⟨x', l', c', zs, hk, _, hl', hm', hz', _, hcell', hwz'⟩
          · simp only [List.cons.injEq, and_true] at hk
            exact key none 0 0 [] hk RI.nil_ (Nat.le_refl _) (Nat.zero_le _)
          · simp only [List.cons.injEq, and_true] at hk
            exact key _ l' c' _ hk (RI.of_cells hl' (by simpa using hz') hcell' hwz') hl' (Nat.le_trans hl' hm')
    obtain ⟨f, hf⟩ : ∃ f : Nat → DoV, ∀ i, i < len → ∀ b off, a = ⟨b, off, none⟩ → DoAt w w.heap.size b (off + i * 4) (f i) := by
      refine ⟨fun i => if h : i < len then (each i h).choose else ⟨0, 0, 0, none, 0, 0, []⟩, fun i hil => ?_⟩
      simp only [hil, dif_pos]
      exact (each i hil).choose_spec
    refine ⟨a, len, cap, (List.range len).map f, hcs, hl, hm, by simp, fun hn => ?_⟩
    obtain ⟨cs', hc, _⟩ := hi 0 (by omega)
    rw [doCells] at hc
    obtain ⟨_, hcl, hat⟩ := World.cells?_some hc
    have h0 := hat 0 (by decide)
    have hlt0 : 0 < cs'.length := by omega
    rw [List.getElem?_eq_getElem hlt0] at h0
    obtain ⟨b, off, spot⟩ := a
    have hspot : spot = none := by simpa [Addr.add] using World.cell?_spot h0
    subst hspot
    refine ⟨b, off, rfl, ?_, fun j hj => ⟨f j, by simp [hj], hf j hj b off rfl⟩⟩
    have := World.block_lt_of_cell? _ _ h0
    simpa [Addr.add] using this
end Go.Proofs.Ytkpopdoigkcpgaa
