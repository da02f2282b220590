/-
  A bucket, as the statements' opening gives it: two ints and a slice of pairs of slices of bytes. No condition.
-/
import Derived.Test.YthpgcdfbngngjaaBkM
import Derived.OpenShut
namespace Go.Proofs.Ythpgcdfbngngjaa
open Go.RowKit
set_option maxRecDepth 100000
set_option linter.unusedVariables false

/-- Such a bucket came in. -/
structure BkIn (w : World) (d x : Int) (A : Option Addr) (n c : Nat) (ps : List KV) : Prop where
  hr : RPairs w w.heap.size A n ps
  hc : n ≤ c
  hm : n ≤ maxLen
  hd : -9223372036854775808 ≤ d ∧ d ≤ 9223372036854775807
  hx : -9223372036854775808 ≤ x ∧ x ≤ 9223372036854775807

theorem bkCellInt : Try.prog.cellsOf 3 = 1 := by kernel_rfl
theorem bkCellBytes : Try.prog.cellsOf 22 = 1 := by kernel_rfl
theorem bkCellPair : Try.prog.cellsOf 48 = 2 := by kernel_rfl
theorem bkCellPairs : Try.prog.cellsOf 29 = 1 := by kernel_rfl
theorem bkCellBucket : Try.prog.cellsOf 31 = 3 := by kernel_rfl
theorem bkAdd_none (b off i : Nat) : Addr.add ⟨b, off, none⟩ i = ⟨b, off + i, none⟩ := by unfold Addr.add; split <;> simp_all
theorem bk_int_bounds {n : Int} (h : (Lit.int .i64 n).wf = true) : -9223372036854775808 ≤ n ∧ n ≤ 9223372036854775807 := by
  simp [Lit.wf, IntKind.min, IntKind.max, IntKind.signed, IntKind.bits] at h
  omega

open Go.ChangeShapes Go.WideShapes Go.Deep in
theorem open_bytes {H : Type} {enc : TypeId × Value → H} {w : World} {fuel : Nat} {v : Value} {x : DataW H × List MemPlace} (h : DataW.trod enc Try.prog w 0 (fun _ => true) true fuel 22 [v] = some x) :
    ∃ A n c l, v = .slice A n c ∧ RB w w.heap.size A n l ∧ n ≤ c ∧ n ≤ maxLen := by
  rcases open_ints Try.underlying22 Try.underlying5 (by kernel_rfl) h with ⟨hk, _⟩ | ⟨x', l', c', zs, hk, _, hl', hm', hz', _, hcell', hwz'⟩
  · simp only [List.cons.injEq, and_true] at hk
    exact ⟨none, 0, 0, [], hk, RB.nil_, Nat.le_refl _, Nat.zero_le _⟩
  · simp only [List.cons.injEq, and_true] at hk
    exact ⟨_, l', c', _, hk, RB.of_cells hl' (by simpa using hz') hcell' hwz', hl', Nat.le_trans hl' hm'⟩

open Go.ChangeShapes Go.WideShapes Go.Deep in
theorem open_pairs {H : Type} {enc : TypeId × Value → H} {w : World} {fuel : Nat} {cs : List Value} {x : DataW H × List MemPlace} (h : DataW.trod enc Try.prog w 0 (fun _ => true) true fuel 29 cs = some x) :
    cs = [.slice none 0 0] ∨ ∃ (a : Addr) (len cap : Nat) (ps : List KV), cs = [.slice (some a) len cap] ∧ len ≤ cap ∧ cap ≤ maxLen ∧ RPairs w w.heap.size (some a) len ps := by
  obtain ⟨fs, hfs⟩ : ∃ fs, Try.prog.underlying 48 = some (.struct fs) := ⟨_, Try.underlying48⟩
  rcases open_slice Try.underlying29 h with ⟨h0, _⟩ | ⟨a, len, cap, m, n, D, Pl, hcs, hb, hl, hm, hmm, hx, hi⟩
  · exact .inl h0
  · right
    have hmc : m = cap := by simpa using hmm
    have each : ∀ i, i < len → ∃ d : KV, ∀ b off, a = ⟨b, off, none⟩ → PairAt w w.heap.size b (off + i * 2) d := by
      intro i hilen
      obtain ⟨cs', hc, ht'⟩ := hi i (by omega)
      rw [bkCellPair] at hc
      obtain ⟨ys, n', hn', hy, hlen, hyl, hf⟩ := DataW.trod_struct Try.underlying48 ht'
      obtain ⟨_, hcl, hat⟩ := World.cells?_some hc
      match cs', hcl with
      | [c0, c1], _ =>
        match ys, hyl with
        | [y0, y1], _ =>
          have f0 : DataW.trod enc Try.prog w 0 (fun _ => true) true n' 22 (([c0, c1].drop 0).take (Try.prog.cellsOf 22)) = [y0, y1][0]? := hf 0 _ rfl
          rw [bkCellBytes] at f0
          have f1 : DataW.trod enc Try.prog w 0 (fun _ => true) true n' 22 (([c0, c1].drop 1).take (Try.prog.cellsOf 22)) = [y0, y1][1]? := hf 1 _ rfl
          rw [bkCellBytes] at f1
          simp only [List.drop_zero, List.take_succ_cons, List.take_zero, List.drop_succ_cons, List.getElem?_cons_zero, List.getElem?_cons_succ] at f0 f1
          obtain ⟨ka, kn, kc, K, e0, hk, hkc, hkm⟩ := open_bytes f0
          obtain ⟨va, vn, vc, V, e1, hv, hvc, hvm⟩ := open_bytes f1
          refine ⟨(K, V), fun b off ha => ?_⟩
          subst ha e0 e1
          have a0 := hat 0 (by decide)
          have a1 := hat 1 (by decide)
          simp only [bkAdd_none, List.getElem?_cons_zero, List.getElem?_cons_succ, Nat.add_zero] at a0 a1
          exact ⟨ka, kn, kc, va, vn, vc, a0, a1, hk, ⟨hkc, hkm⟩, hv, ⟨hvc, hvm⟩⟩
    obtain ⟨f, hf⟩ : ∃ f : Nat → KV, ∀ i, i < len → ∀ b off, a = ⟨b, off, none⟩ → PairAt w w.heap.size b (off + i * 2) (f i) := by
      refine ⟨fun i => if h : i < len then (each i h).choose else ([], []), fun i hil => ?_⟩
      simp only [hil, dif_pos]
      exact (each i hil).choose_spec
    refine ⟨a, len, cap, (List.range len).map f, hcs, hl, hm, by simp, fun hn => ?_⟩
    obtain ⟨cs', hc, _⟩ := hi 0 (by omega)
    rw [bkCellPair] at hc
    obtain ⟨_, hcl, hat⟩ := World.cells?_some hc
    have h0 := hat 0 (by decide)
    have hlt0 : 0 < cs'.length := by omega
    rw [List.getElem?_eq_getElem hlt0] at h0
    obtain ⟨b, off, spot⟩ := a
    have hspot : spot = none := by simpa [Addr.add] using World.cell?_spot h0
    subst hspot
    refine ⟨b, off, rfl, ?_, fun j x hj => ?_⟩
    · have := World.block_lt_of_cell? _ _ h0
      simpa [Addr.add] using this
    · have hjl : j < len := by have := (List.getElem?_eq_some_iff.1 hj).1; simpa using this
      have e : f j = x := by simpa [hjl] using hj
      rw [← e]
      exact hf j hjl b off rfl

open Go.ChangeShapes Go.WideShapes Go.Deep in
theorem open_bucket {H : Type} {enc : TypeId × Value → H} {w : World} {fuel : Nat} {cs : List Value} {x : DataW H × List MemPlace} (h : DataW.trod enc Try.prog w 0 (fun _ => true) true fuel 31 cs = some x) (hcl : cs.length = 3) :
    ∃ d y A n c ps, cs = [.int .i64 d, .int .i64 y, .slice A n c] ∧ BkIn w d y A n c ps := by
  obtain ⟨fs, hfs⟩ : ∃ fs, Try.prog.underlying 31 = some (.struct fs) := ⟨_, Try.underlying31⟩
  obtain ⟨ys, n', hn', hy, hlen, hyl, hf⟩ := DataW.trod_struct Try.underlying31 h
  match cs, hcl with
  | [c0, c1, c2], _ =>
    match ys, hyl with
    | [y0, y1, y2], _ =>
      have f0 : DataW.trod enc Try.prog w 0 (fun _ => true) true n' 3 (([c0, c1, c2].drop 0).take (Try.prog.cellsOf 3)) = [y0, y1, y2][0]? := hf 0 _ rfl
      have f1 : DataW.trod enc Try.prog w 0 (fun _ => true) true n' 3 (([c0, c1, c2].drop 1).take (Try.prog.cellsOf 3)) = [y0, y1, y2][1]? := hf 1 _ rfl
      have f2 : DataW.trod enc Try.prog w 0 (fun _ => true) true n' 29 (([c0, c1, c2].drop 2).take (Try.prog.cellsOf 29)) = [y0, y1, y2][2]? := hf 2 _ rfl
      rw [bkCellInt] at f0 f1
      rw [bkCellPairs] at f2
      simp only [List.drop_zero, List.take_succ_cons, List.take_zero, List.drop_succ_cons, List.getElem?_cons_zero, List.getElem?_cons_succ] at f0 f1 f2
      obtain ⟨n0, e0, _, w0⟩ := DataW.trod_int Try.underlying3 f0
      obtain ⟨n1, e1, _, w1⟩ := DataW.trod_int Try.underlying3 f1
      simp only [List.cons.injEq, and_true] at e0 e1
      subst e0 e1
      rcases open_pairs f2 with hcs | ⟨a, l, c, ps, hcs, hl, hm, hr⟩
      · simp only [List.cons.injEq, and_true] at hcs
        subst hcs
        exact ⟨n0, n1, none, 0, 0, [], rfl, ⟨RPairs.nil_, Nat.le_refl _, Nat.zero_le _, bk_int_bounds w0, bk_int_bounds w1⟩⟩
      · simp only [List.cons.injEq, and_true] at hcs
        subst hcs
        exact ⟨n0, n1, some a, l, c, ps, rfl, ⟨hr, hl, Nat.le_trans hl hm, bk_int_bounds w0, bk_int_bounds w1⟩⟩
end Go.Proofs.Ythpgcdfbngngjaa
