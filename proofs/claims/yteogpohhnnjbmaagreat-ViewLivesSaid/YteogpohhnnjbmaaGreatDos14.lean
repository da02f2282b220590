/-
  Words for the view laws' list of calls: a slice of calls, each an int and two slices of bytes; how the statements' opening gives it; what keeps it. Plain facts; no condition beyond what each says.
-/
import Derived.Test.YteogpohhnnjbmaaGreatPairM
import Derived.Test.YteogpohhnnjbmaaGreatInts
import Derived.OpenShut
import Derived.Deep.Slices
import Derived.Deep.Fields
import Derived.ChangeSame
import Derived.ProofKit
namespace Go.Proofs.YteogpohhnnjbmaaGreat
open Go.RowKit
set_option maxRecDepth 100000
set_option linter.unusedVariables false

/-- A call of a statement's list. -/
structure Do14 where
  op : Int
  key : List Int
  val : List Int

/-- How it lies in memory, its bytes below block B. -/
def Do14At (w : World) (B b off : Nat) (d : Do14) : Prop :=
  ∃ ka kn kc va vn vc, w.cell? ⟨b, off, none⟩ = some (.int .i64 d.op) ∧ w.cell? ⟨b, off + 1, none⟩ = some (.slice ka kn kc) ∧ w.cell? ⟨b, off + 2, none⟩ = some (.slice va vn vc) ∧
    (-9223372036854775808 ≤ d.op ∧ d.op ≤ 9223372036854775807) ∧ RB w B ka kn d.key ∧ (kn ≤ kc ∧ kn ≤ maxLen) ∧ RB w B va vn d.val ∧ (vn ≤ vc ∧ vn ≤ maxLen)
/-- The slice at A of n calls reads as the list ds in w, and lies below block B. -/
def RDos14 (w : World) (B : Nat) (A : Option Addr) (n : Nat) (ds : List Do14) : Prop :=
  ds.length = n ∧ (0 < n → ∃ b off, A = some ⟨b, off, none⟩ ∧ b < B ∧ ∀ j, j < n → ∃ d, ds[j]? = some d ∧ Do14At w B b (off + j * 3) d)

theorem Do14At.below {w w' : World} {B b off : Nat} {d : Do14} (h : Do14At w B b off d) (hb : b < B) (hk : Below B w w') : Do14At w' B b off d := by
  obtain ⟨ka, kn, kc, va, vn, vc, h0, h1, h2, h3, h4, h5, h6, h7⟩ := h
  exact ⟨ka, kn, kc, va, vn, vc, (hk.cell (p := ⟨b, off, none⟩) hb).trans h0, (hk.cell (p := ⟨b, off + 1, none⟩) hb).trans h1, (hk.cell (p := ⟨b, off + 2, none⟩) hb).trans h2, h3, h4.below hk, h5, h6.below hk, h7⟩
theorem RDos14.nil_ {w : World} {B : Nat} {A : Option Addr} : RDos14 w B A 0 [] := ⟨rfl, fun h => absurd h (by omega)⟩
theorem RDos14.below {w w' : World} {B n : Nat} {A : Option Addr} {ds : List Do14} (h : RDos14 w B A n ds) (hk : Below B w w') : RDos14 w' B A n ds :=
  ⟨h.1, fun hn => by
    obtain ⟨b, off, e, hb, hc⟩ := h.2 hn
    refine ⟨b, off, e, hb, fun j hj => ?_⟩
    obtain ⟨d, hd, hat⟩ := hc j hj
    exact ⟨d, hd, hat.below hb hk⟩⟩

theorem do14Int : Tryz.prog.cellsOf 3 = 1 := by kernel_rfl
theorem do14Bytes : Tryz.prog.cellsOf 45 = 1 := by kernel_rfl
theorem do14Cells : Tryz.prog.cellsOf 47 = 3 := by kernel_rfl
theorem do14Add (b off i : Nat) : Addr.add ⟨b, off, none⟩ i = ⟨b, off + i, none⟩ := by unfold Addr.add; split <;> simp_all
theorem do14_bounds {n : Int} (h : (Lit.int .i64 n).wf = true) : -9223372036854775808 ≤ n ∧ n ≤ 9223372036854775807 := by
  simp [Lit.wf, IntKind.min, IntKind.max, IntKind.signed, IntKind.bits] at h
  omega

open Go.ChangeShapes Go.WideShapes Go.Deep in
theorem open_bytes14 {H : Type} {enc : TypeId × Value → H} {w : World} {fuel : Nat} {v : Value} {x : DataW H × List MemPlace} (h : DataW.trod enc Tryz.prog w 0 (fun _ => true) true fuel 45 [v] = some x) :
    ∃ A n c l, v = .slice A n c ∧ RB w w.heap.size A n l ∧ n ≤ c ∧ n ≤ maxLen := by
  rcases open_ints Tryz.underlying45 Tryz.underlying5 (by kernel_rfl) h with ⟨hk, _⟩ | ⟨x', l', c', zs, hk, _, hl', hm', hz', _, hcell', hwz'⟩
  · simp only [List.cons.injEq, and_true] at hk
    exact ⟨none, 0, 0, [], hk, RB.nil_, Nat.le_refl _, Nat.zero_le _⟩
  · simp only [List.cons.injEq, and_true] at hk
    exact ⟨_, l', c', _, hk, RB.of_cells hl' (by simpa using hz') hcell' hwz', hl', Nat.le_trans hl' hm'⟩

open Go.ChangeShapes Go.WideShapes Go.Deep in
theorem open_dos14 {H : Type} {enc : TypeId × Value → H} {w : World} {fuel : Nat} {cs : List Value} {x : DataW H × List MemPlace} (h : DataW.trod enc Tryz.prog w 0 (fun _ => true) true fuel 22 cs = some x) :
    cs = [.slice none 0 0] ∨ ∃ (a : Addr) (len cap : Nat) (ds : List Do14), cs = [.slice (some a) len cap] ∧ len ≤ cap ∧ cap ≤ maxLen ∧ RDos14 w w.heap.size (some a) len ds := by
  obtain ⟨fs, hfs⟩ : ∃ fs, Tryz.prog.underlying 47 = some (.struct fs) := ⟨_, Tryz.underlying47⟩
  rcases open_slice Tryz.underlying22 h with ⟨h0, _⟩ | ⟨a, len, cap, m, n, D, Pl, hcs, hb, hl, hm, hmm, hx, hi⟩
  · exact .inl h0
  · right
    have hmc : m = cap := by simpa using hmm
    have each : ∀ i, i < len → ∃ d : Do14, ∀ b off, a = ⟨b, off, none⟩ → Do14At w w.heap.size b (off + i * 3) d := by
      intro i hilen
      obtain ⟨cs', hc, ht'⟩ := hi i (by omega)
      rw [do14Cells] at hc
      obtain ⟨ys, n', hn', hy, hlen, hyl, hf⟩ := DataW.trod_struct Tryz.underlying47 ht'
      obtain ⟨_, hcl, hat⟩ := World.cells?_some hc
      match cs', hcl with
      | [c0, c1, c2], _ =>
        match ys, hyl with
        | [y0, y1, y2], _ =>
          have f0 : DataW.trod enc Tryz.prog w 0 (fun _ => true) true n' 3 (([c0, c1, c2].drop 0).take (Tryz.prog.cellsOf 3)) = [y0, y1, y2][0]? := hf 0 _ rfl
          rw [do14Int] at f0
          have f1 : DataW.trod enc Tryz.prog w 0 (fun _ => true) true n' 45 (([c0, c1, c2].drop 1).take (Tryz.prog.cellsOf 45)) = [y0, y1, y2][1]? := hf 1 _ rfl
          rw [do14Bytes] at f1
          have f2 : DataW.trod enc Tryz.prog w 0 (fun _ => true) true n' 45 (([c0, c1, c2].drop 2).take (Tryz.prog.cellsOf 45)) = [y0, y1, y2][2]? := hf 2 _ rfl
          rw [do14Bytes] at f2
          simp only [List.drop_zero, List.take_succ_cons, List.take_zero, List.drop_succ_cons, List.getElem?_cons_zero, List.getElem?_cons_succ] at f0 f1 f2
          obtain ⟨n0, e0, _, w0⟩ := DataW.trod_int Tryz.underlying3 f0
          obtain ⟨ka, kn, kc, K, e1, hk, hkc, hkm⟩ := open_bytes14 f1
          obtain ⟨va, vn, vc, V, e2, hv, hvc, hvm⟩ := open_bytes14 f2
          simp only [List.cons.injEq, and_true] at e0
          refine ⟨⟨n0, K, V⟩, fun b off ha => ?_⟩
          subst ha e0 e1 e2
          have a0 := hat 0 (by decide)
          have a1 := hat 1 (by decide)
          have a2 := hat 2 (by decide)
          simp only [do14Add, List.getElem?_cons_zero, List.getElem?_cons_succ, Nat.add_zero] at a0 a1 a2
          exact ⟨ka, kn, kc, va, vn, vc, a0, a1, a2, do14_bounds w0, hk, ⟨hkc, hkm⟩, hv, ⟨hvc, hvm⟩⟩
    obtain ⟨f, hf⟩ : ∃ f : Nat → Do14, ∀ i, i < len → ∀ b off, a = ⟨b, off, none⟩ → Do14At w w.heap.size b (off + i * 3) (f i) := by
      refine ⟨fun i => if h : i < len then (each i h).choose else ⟨0, [], []⟩, fun i hil => ?_⟩
      simp only [hil, dif_pos]
      exact (each i hil).choose_spec
    refine ⟨a, len, cap, (List.range len).map f, hcs, hl, hm, by simp, fun hn => ?_⟩
    obtain ⟨cs', hc, _⟩ := hi 0 (by omega)
    rw [do14Cells] at hc
    obtain ⟨_, hcl, hat⟩ := World.cells?_some hc
    have h0 := hat 0 (by decide)
    have hlt0 : 0 < cs'.length := by omega
    rw [List.getElem?_eq_getElem hlt0] at h0
    obtain ⟨b, off, spot⟩ := a
    have hspot : spot = none := by simpa [Addr.add] using World.cell?_spot h0
    subst hspot
    refine ⟨b, off, rfl, ?_, fun j hj => ⟨f j, by simp [hj], hf j hj b off rfl⟩⟩
    have := World.block_lt_of_cell? _ _ h0
    simpa [Addr.add] using this
end Go.Proofs.YteogpohhnnjbmaaGreat
