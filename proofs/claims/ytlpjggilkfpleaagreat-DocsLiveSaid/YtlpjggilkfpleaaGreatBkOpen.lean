/-
  The texts BkM, BkOpen joined. Conditions: those that each part says at its head.
-/
import Derived.Test.YtlpjggilkfpleaaGreatRefPut
import Derived.Test.YtlpjggilkfpleaaGreatGRow
import Derived.Deep.Slices
import Derived.Deep.Fields
import Derived.ChangeSame
import Derived.ProofKit
import Derived.OpenShut

/-
  Words for a list of pairs as it lies in memory (each a key and a value, slices of bytes); what keeps it; what a bucket is, said over plain lists. Plain facts; no condition beyond what each says.
-/
namespace Go.Proofs.YtlpjggilkfpleaaGreat
open Go.RowKit
set_option maxRecDepth 100000
set_option linter.unusedVariables false

/-- How many bytes pairs need. -/
def szP (ps : List KV) : Nat := (ps.map fun x => 2 + x.1.length + x.2.length).sum
theorem szP_nil : szP [] = 0 := rfl
theorem szP_snoc (ps : List KV) (x : KV) : szP (ps ++ [x]) = szP ps + (2 + x.1.length + x.2.length) := by simp [szP]
theorem szP_cons (x : KV) (ps : List KV) : szP (x :: ps) = (2 + x.1.length + x.2.length) + szP ps := by simp [szP]
theorem szP_append (a b : List KV) : szP (a ++ b) = szP a + szP b := by simp [szP]
theorem szP_step {ps : List KV} {k : Nat} {x : KV} (h : ps[k]? = some x) : szP (ps.take (k + 1)) = szP (ps.take k) + (2 + x.1.length + x.2.length) := by
  obtain ⟨hk, rfl⟩ := List.getElem?_eq_some_iff.1 h
  rw [List.take_succ_eq_append_getElem hk, szP_snoc]
theorem szP_take_le (ps : List KV) (k : Nat) : szP (ps.take k) ≤ szP ps := by
  have := szP_append (ps.take k) (ps.drop k)
  rw [List.take_append_drop] at this
  omega
theorem szP_len (ps : List KV) : 2 * ps.length ≤ szP ps := by
  induction ps with
  | nil => simp [szP]
  | cons x ps ih => rw [szP_cons, List.length_cons]; omega

/-- The place of a key. -/
def findI (ps : List KV) (key : List Int) : Int := match ps.findIdx? (fun x => x.1 == key) with | some i => (i : Int) | none => -1
theorem findI_at {ps : List KV} {key : List Int} {j : Nat} {x : KV} (hx : ps[j]? = some x) (hk : x.1 = key) (hbef : ∀ (m : Nat) (y : KV), m < j → ps[m]? = some y → y.1 ≠ key) : findI ps key = (j : Int) := by
  unfold findI
  obtain ⟨hj, rfl⟩ := List.getElem?_eq_some_iff.1 hx
  have : ps.findIdx? (fun x => x.1 == key) = some j := by
    rw [List.findIdx?_eq_some_iff_getElem]
    exact ⟨hj, by simpa using hk, fun m hm => by simpa using hbef m _ hm (List.getElem?_eq_getElem (by omega))⟩
  rw [this]
theorem findI_none {ps : List KV} {key : List Int} (h : ∀ (m : Nat) (y : KV), ps[m]? = some y → y.1 ≠ key) : findI ps key = -1 := by
  unfold findI
  have : ps.findIdx? (fun x => x.1 == key) = none := by
    rw [List.findIdx?_eq_none_iff]
    intro x hx
    obtain ⟨m, hm, rfl⟩ := List.getElem_of_mem hx
    simpa using h m _ (List.getElem?_eq_getElem hm)
  rw [this]
theorem findI_bounds (ps : List KV) (key : List Int) : -1 ≤ findI ps key ∧ findI ps key ≤ ps.length := by
  unfold findI
  cases h : ps.findIdx? (fun x => x.1 == key) with
  | none => simp
  | some i =>
    have := (List.findIdx?_eq_some_iff_getElem.1 h).1
    simp
    omega

/-- A pair may be at its place. -/
def okAt (ps : List KV) (i : Nat) : Bool := match ps[i]? with
  | some x => decide (1 ≤ x.1.length) && decide (x.1.length ≤ 32) && decide (x.2.length ≤ 120) && (findI ps x.1 == (i : Int))
  | none => true
theorem okAt_some {ps : List KV} {i : Nat} {x : KV} (h : ps[i]? = some x) : okAt ps i = (decide (1 ≤ x.1.length) && decide (x.1.length ≤ 32) && decide (x.2.length ≤ 120) && (findI ps x.1 == (i : Int))) := by
  unfold okAt
  rw [h]
/-- Pairs may be. -/
def pairsB (ps : List KV) : Bool := (List.range ps.length).all (okAt ps)
theorem pairsB_false {ps : List KV} {i : Nat} (hi : i < ps.length) (h : okAt ps i = false) : pairsB ps = false := by
  cases e : pairsB ps
  · rfl
  · have := List.all_eq_true.1 e i (by simpa using hi)
    rw [h] at this
    cases this
theorem pairsB_true {ps : List KV} (h : ∀ i, i < ps.length → okAt ps i = true) : pairsB ps = true :=
  List.all_eq_true.2 fun i hi => h i (by simpa using hi)

/-- A bucket, read. -/
structure BV where
  d : Int
  x : Int
  ps : List KV
/-- It may be. -/
def mayBk (b : BV) : Bool := decide (8 + szP b.ps ≤ 240) && decide (0 ≤ b.d) && decide (b.d ≤ 10) && rightB b.x 4 && pairsB b.ps
/-- A pair's bytes. -/
def pairL (x : KV) : List Int := (x.1.length : Int) :: (x.2.length : Int) :: (x.1 ++ x.2)
def pairsL (ps : List KV) : List Int := ps.flatMap pairL
theorem pairL_length (x : KV) : (pairL x).length = 2 + x.1.length + x.2.length := by simp [pairL]; omega
theorem pairsL_length (ps : List KV) : (pairsL ps).length = szP ps := by
  induction ps with
  | nil => rfl
  | cons x ps ih => rw [szP_cons, ← ih]; simp [pairsL, pairL]; omega
theorem pairsL_step {ps : List KV} {k : Nat} {x : KV} (h : ps[k]? = some x) : pairsL (ps.take (k + 1)) = pairsL (ps.take k) ++ pairL x := by
  obtain ⟨hk, rfl⟩ := List.getElem?_eq_some_iff.1 h
  unfold pairsL
  rw [List.take_succ_eq_append_getElem hk, List.flatMap_append]
  simp only [List.flatMap_cons, List.flatMap_nil, List.append_nil]
/-- What a page begins with. -/
def bkHeadL (b : BV) : List Int := 66 :: (putB b.d 1 ++ (putB b.x 4 ++ putB (b.ps.length : Int) 2))
theorem bkHeadL_length (b : BV) : (bkHeadL b).length = 8 := by simp [bkHeadL, putB_length]
/-- Its page. -/
def pageBk (b : BV) : List Int := bkHeadL b ++ pairsL b.ps ++ List.replicate (240 - (8 + szP b.ps)) 0
theorem pageBk_length {b : BV} (h : 8 + szP b.ps ≤ 240) : (pageBk b).length = 240 := by
  unfold pageBk
  rw [List.length_append, List.length_append, bkHeadL_length, pairsL_length, List.length_replicate]
  omega
/-- Put. -/
def putBk (b : BV) : List Int × Int := if mayBk b = true then (pageBk b, 0) else ([], 1)
end Go.Proofs.YtlpjggilkfpleaaGreat

/-
  A bucket, as the statements' opening gives it: two ints and a slice of pairs of slices of bytes. No condition.
-/
namespace Go.Proofs.YtlpjggilkfpleaaGreat
open Go.RowKit
set_option maxRecDepth 100000
set_option linter.unusedVariables false

/-- Such a bucket came in. -/
structure BkIn (w : World) (d x : Int) (A : Option Addr) (n c : Nat) (ps : List KV) : Prop where
  hr : RPairs w w.heap.size A n ps
  hc : n ≤ c
  hm : n ≤ maxLen
  hd : -9223372036854775808 ≤ d ∧ d ≤ 9223372036854775807
  hx : -9223372036854775808 ≤ x ∧ x ≤ 9223372036854775807

theorem bkCellInt : Tryz.prog.cellsOf 3 = 1 := by kernel_rfl
theorem bkCellBytes : Tryz.prog.cellsOf 86 = 1 := by kernel_rfl
theorem bkCellPair : Tryz.prog.cellsOf 88 = 2 := by kernel_rfl
theorem bkCellPairs : Tryz.prog.cellsOf 43 = 1 := by kernel_rfl
theorem bkCellBucket : Tryz.prog.cellsOf 254 = 3 := by kernel_rfl
theorem bkAdd_none (b off i : Nat) : Addr.add ⟨b, off, none⟩ i = ⟨b, off + i, none⟩ := by unfold Addr.add; split <;> simp_all
theorem bk_int_bounds {n : Int} (h : (Lit.int .i64 n).wf = true) : -9223372036854775808 ≤ n ∧ n ≤ 9223372036854775807 := by
  simp [Lit.wf, IntKind.min, IntKind.max, IntKind.signed, IntKind.bits] at h
  omega

open Go.ChangeShapes Go.WideShapes Go.Deep in
theorem open_bytes {H : Type} {enc : TypeId × Value → H} {w : World} {fuel : Nat} {v : Value} {x : DataW H × List MemPlace} (h : DataW.trod enc Tryz.prog w 0 (fun _ => true) true fuel 86 [v] = some x) :
    ∃ A n c l, v = .slice A n c ∧ RB w w.heap.size A n l ∧ n ≤ c ∧ n ≤ maxLen := by
  rcases open_ints Tryz.underlying86 Tryz.underlying5 (by kernel_rfl) h with ⟨hk, _⟩ | ⟨x', l', c', zs, hk, _, hl', hm', hz', _, hcell', hwz'⟩
  · simp only [List.cons.injEq, and_true] at hk
    exact ⟨none, 0, 0, [], hk, RB.nil_, Nat.le_refl _, Nat.zero_le _⟩
  · simp only [List.cons.injEq, and_true] at hk
    exact ⟨_, l', c', _, hk, RB.of_cells hl' (by simpa using hz') hcell' hwz', hl', Nat.le_trans hl' hm'⟩

open Go.ChangeShapes Go.WideShapes Go.Deep in
theorem open_pairs {H : Type} {enc : TypeId × Value → H} {w : World} {fuel : Nat} {cs : List Value} {x : DataW H × List MemPlace} (h : DataW.trod enc Tryz.prog w 0 (fun _ => true) true fuel 43 cs = some x) :
    cs = [.slice none 0 0] ∨ ∃ (a : Addr) (len cap : Nat) (ps : List KV), cs = [.slice (some a) len cap] ∧ len ≤ cap ∧ cap ≤ maxLen ∧ RPairs w w.heap.size (some a) len ps := by
  obtain ⟨fs, hfs⟩ : ∃ fs, Tryz.prog.underlying 88 = some (.struct fs) := ⟨_, Tryz.underlying88⟩
  rcases open_slice Tryz.underlying43 h with ⟨h0, _⟩ | ⟨a, len, cap, m, n, D, Pl, hcs, hb, hl, hm, hmm, hx, hi⟩
  · exact .inl h0
  · right
    have hmc : m = cap := by simpa using hmm
    have each : ∀ i, i < len → ∃ d : KV, ∀ b off, a = ⟨b, off, none⟩ → PairAt w w.heap.size b (off + i * 2) d := by
      intro i hilen
      obtain ⟨cs', hc, ht'⟩ := hi i (by omega)
      rw [bkCellPair] at hc
      obtain ⟨ys, n', hn', hy, hlen, hyl, hf⟩ := DataW.trod_struct Tryz.underlying88 ht'
      obtain ⟨_, hcl, hat⟩ := World.cells?_some hc
      match cs', hcl with
      | [c0, c1], _ =>
        match ys, hyl with
        | [y0, y1], _ =>
          have f0 : DataW.trod enc Tryz.prog w 0 (fun _ => true) true n' 86 (([c0, c1].drop 0).take (Tryz.prog.cellsOf 86)) = [y0, y1][0]? := hf 0 _ rfl
          rw [bkCellBytes] at f0
          have f1 : DataW.trod enc Tryz.prog w 0 (fun _ => true) true n' 86 (([c0, c1].drop 1).take (Tryz.prog.cellsOf 86)) = [y0, y1][1]? := hf 1 _ rfl
          rw [bkCellBytes] at f1
          simp only [List.drop_zero, List.take_succ_cons, List.take_zero, List.drop_succ_cons, List.getElem?_cons_zero, List.getElem?_cons_succ] at f0 f1
          obtain ⟨ka, kn, kc, K, e0, hk, hkc, hkm⟩ := open_bytes f0
          obtain ⟨va, vn, vc, V, e1, hv, hvc, hvm⟩ := open_bytes f1
          refine ⟨(K, V), fun b off ha => ?_⟩
          subst ha e0 e1
          have a0 := hat 0 (by decide)
          have a1 := hat 1 (by decide)
          simp only [bkAdd_none, List.getElem?_cons_zero, List.getElem?_cons_succ, Nat.add_zero] at a0 a1
          exact ⟨ka, kn, kc, va, vn, vc, a0, a1, hk, ⟨hkc, hkm⟩, hv, ⟨hvc, hvm⟩⟩
    obtain ⟨f, hf⟩ : ∃ f : Nat → KV, ∀ i, i < len → ∀ b off, a = ⟨b, off, none⟩ → PairAt w w.heap.size b (off + i * 2) (f i) := by
      refine ⟨fun i => if h : i < len then (each i h).choose else ([], []), fun i hil => ?_⟩
      simp only [hil, dif_pos]
      exact (each i hil).choose_spec
    refine ⟨a, len, cap, (List.range len).map f, hcs, hl, hm, by simp, fun hn => ?_⟩
    obtain ⟨cs', hc, _⟩ := hi 0 (by omega)
    rw [bkCellPair] at hc
    obtain ⟨_, hcl, hat⟩ := World.cells?_some hc
    have h0 := hat 0 (by decide)
    have hlt0 : 0 < cs'.length := by omega
    rw [List.getElem?_eq_getElem hlt0] at h0
    obtain ⟨b, off, spot⟩ := a
    have hspot : spot = none := by simpa [Addr.add] using World.cell?_spot h0
    subst hspot
    refine ⟨b, off, rfl, ?_, fun j x hj => ?_⟩
    · have := World.block_lt_of_cell? _ _ h0
      simpa [Addr.add] using this
    · have hjl : j < len := by have := (List.getElem?_eq_some_iff.1 hj).1; simpa using this
      have e : f j = x := by simpa [hjl] using hj
      rw [← e]
      exact hf j hjl b off rfl

open Go.ChangeShapes Go.WideShapes Go.Deep in
theorem open_bucket {H : Type} {enc : TypeId × Value → H} {w : World} {fuel : Nat} {cs : List Value} {x : DataW H × List MemPlace} (h : DataW.trod enc Tryz.prog w 0 (fun _ => true) true fuel 254 cs = some x) (hcl : cs.length = 3) :
    ∃ d y A n c ps, cs = [.int .i64 d, .int .i64 y, .slice A n c] ∧ BkIn w d y A n c ps := by
  obtain ⟨fs, hfs⟩ : ∃ fs, Tryz.prog.underlying 254 = some (.struct fs) := ⟨_, Tryz.underlying254⟩
  obtain ⟨ys, n', hn', hy, hlen, hyl, hf⟩ := DataW.trod_struct Tryz.underlying254 h
  match cs, hcl with
  | [c0, c1, c2], _ =>
    match ys, hyl with
    | [y0, y1, y2], _ =>
      have f0 : DataW.trod enc Tryz.prog w 0 (fun _ => true) true n' 3 (([c0, c1, c2].drop 0).take (Tryz.prog.cellsOf 3)) = [y0, y1, y2][0]? := hf 0 _ rfl
      have f1 : DataW.trod enc Tryz.prog w 0 (fun _ => true) true n' 3 (([c0, c1, c2].drop 1).take (Tryz.prog.cellsOf 3)) = [y0, y1, y2][1]? := hf 1 _ rfl
      have f2 : DataW.trod enc Tryz.prog w 0 (fun _ => true) true n' 43 (([c0, c1, c2].drop 2).take (Tryz.prog.cellsOf 43)) = [y0, y1, y2][2]? := hf 2 _ rfl
      rw [bkCellInt] at f0 f1
      rw [bkCellPairs] at f2
      simp only [List.drop_zero, List.take_succ_cons, List.take_zero, List.drop_succ_cons, List.getElem?_cons_zero, List.getElem?_cons_succ] at f0 f1 f2
      obtain ⟨n0, e0, _, w0⟩ := DataW.trod_int Tryz.underlying3 f0
      obtain ⟨n1, e1, _, w1⟩ := DataW.trod_int Tryz.underlying3 f1
      simp only [List.cons.injEq, and_true] at e0 e1
      subst e0 e1
      rcases open_pairs f2 with hcs | ⟨a, l, c, ps, hcs, hl, hm, hr⟩
      · simp only [List.cons.injEq, and_true] at hcs
        subst hcs
        exact ⟨n0, n1, none, 0, 0, [], rfl, ⟨RPairs.nil_, Nat.le_refl _, Nat.zero_le _, bk_int_bounds w0, bk_int_bounds w1⟩⟩
      · simp only [List.cons.injEq, and_true] at hcs
        subst hcs
        exact ⟨n0, n1, some a, l, c, ps, rfl, ⟨hr, hl, Nat.le_trans hl hm, bk_int_bounds w0, bk_int_bounds w1⟩⟩
end Go.Proofs.YtlpjggilkfpleaaGreat
