/-
  Words for the statements' list of additions: a slice of them as it lies in memory, how the statements' opening gives it, and a row of them that a call builds by append. Condition of an append: fewer than 2^31 of them.
-/
import Derived.Test.YtihjlhegcoceoaaGreatLinA
import Derived.Deep.Slices
import Derived.Deep.Fields
import Derived.ChangeSame
import Derived.ProofKit
namespace Go.Proofs.YtihjlhegcoceoaaGreat
open Go.RowKit
set_option maxRecDepth 100000
set_option linter.unusedVariables false

/-- An addition of a statement's list. -/
structure Do25 where
  y : Int
  l : Ln
def Do25Ok (d : Do25) : Prop := (-9223372036854775808 ≤ d.y ∧ d.y ≤ 9223372036854775807) ∧ LnOk d.l
def doV (d : Do25) : List Value := [.int .i64 d.y, .int .i64 d.l.f, .int .i64 d.l.o, .int .i64 d.l.n, .int .i64 d.l.a]
def dosV (l : List Do25) : List Value := l.flatMap doV
theorem dosV_length (l : List Do25) : (dosV l).length = l.length * 5 := by
  unfold dosV
  induction l with
  | nil => rfl
  | cons x r ih => rw [List.flatMap_cons, List.length_append, ih, List.length_cons]; show 5 + _ = _; omega
theorem dosV_append (l m : List Do25) : dosV (l ++ m) = dosV l ++ dosV m := List.flatMap_append
theorem dosV_at : ∀ {l : List Do25} {i : Nat} {x : Do25}, l[i]? = some x → (dosV l)[i * 5]? = some (.int .i64 x.y) ∧ (dosV l)[i * 5 + 1]? = some (.int .i64 x.l.f) ∧ (dosV l)[i * 5 + 2]? = some (.int .i64 x.l.o) ∧ (dosV l)[i * 5 + 3]? = some (.int .i64 x.l.n) ∧ (dosV l)[i * 5 + 4]? = some (.int .i64 x.l.a)
  | [], i, x, h => by cases h
  | y :: r, 0, x, h => by
    obtain rfl : y = x := by simpa using h
    exact ⟨rfl, rfl, rfl, rfl, rfl⟩
  | y :: r, i + 1, x, h => by
    obtain ⟨h0, h1, h2, h3, h4⟩ := dosV_at (l := r) (i := i) (x := x) (by simpa using h)
    have e : ∀ k, (dosV (y :: r))[k + 5]? = (dosV r)[k]? := fun k => by
      show (doV y ++ dosV r)[k + 5]? = _
      rw [List.getElem?_append_right (by show 5 ≤ _; omega)]
      show (dosV r)[k + 5 - 5]? = _
      rw [Nat.add_sub_cancel]
    rw [show (i + 1) * 5 = i * 5 + 5 by omega, show i * 5 + 5 + 1 = i * 5 + 1 + 5 by omega, show i * 5 + 5 + 2 = i * 5 + 2 + 5 by omega, show i * 5 + 5 + 3 = i * 5 + 3 + 5 by omega, show i * 5 + 5 + 4 = i * 5 + 4 + 5 by omega, e, e, e, e, e]
    exact ⟨h0, h1, h2, h3, h4⟩
theorem dosV_one (l : List Do25) : ∀ u ∈ dosV l, u.oneCell' = true := by
  intro u hu
  obtain ⟨x, _, hx⟩ := List.mem_flatMap.1 hu
  unfold doV at hx
  simp only [List.mem_cons, List.not_mem_nil, or_false] at hx
  rcases hx with rfl | rfl | rfl | rfl | rfl <;> rfl

/-- An addition at some place. -/
def Do25At (w : World) (b off : Nat) (x : Do25) : Prop :=
  w.cell? ⟨b, off, none⟩ = some (.int .i64 x.y) ∧ w.cell? ⟨b, off + 1, none⟩ = some (.int .i64 x.l.f) ∧ w.cell? ⟨b, off + 2, none⟩ = some (.int .i64 x.l.o) ∧ w.cell? ⟨b, off + 3, none⟩ = some (.int .i64 x.l.n) ∧ w.cell? ⟨b, off + 4, none⟩ = some (.int .i64 x.l.a)
/-- The slice at A of n additions reads as the list l in w, and lies below block B. -/
def RDos25 (w : World) (B : Nat) (A : Option Addr) (n : Nat) (l : List Do25) : Prop :=
  l.length = n ∧ (∀ x ∈ l, Do25Ok x) ∧ (0 < n → ∃ b off, A = some ⟨b, off, none⟩ ∧ b < B ∧ ∀ j x, l[j]? = some x → Do25At w b (off + j * 5) x)

section
variable {w w' : World} {B B' n base : Nat} {A : Option Addr} {l : List Do25}
theorem Do25At.keep {b off : Nat} {x : Do25} (h : Do25At w b off x) (hb : b < B) (hk : ∀ b o, b < B → w'.cell? ⟨b, o, none⟩ = w.cell? ⟨b, o, none⟩) : Do25At w' b off x := by
  obtain ⟨h0, h1, h2, h3, h4⟩ := h
  exact ⟨(hk _ _ hb).trans h0, (hk _ _ hb).trans h1, (hk _ _ hb).trans h2, (hk _ _ hb).trans h3, (hk _ _ hb).trans h4⟩
theorem RDos25.nil_ : RDos25 w B A 0 [] := ⟨rfl, (fun _ h => by cases h), fun h => absurd h (by omega)⟩
theorem RDos25.len (h : RDos25 w B A n l) : l.length = n := h.1
theorem RDos25.ok (h : RDos25 w B A n l) : ∀ x ∈ l, Do25Ok x := h.2.1
theorem RDos25.keep (h : RDos25 w B A n l) (hk : ∀ b o, b < B → w'.cell? ⟨b, o, none⟩ = w.cell? ⟨b, o, none⟩) : RDos25 w' B A n l :=
  ⟨h.1, h.2.1, fun hn => by
    obtain ⟨b, off, e, hb, hc⟩ := h.2.2 hn
    exact ⟨b, off, e, hb, fun j x hx => (hc j x hx).keep hb hk⟩⟩
theorem RDos25.below (h : RDos25 w B A n l) (hb : Below B w w') : RDos25 w' B A n l := h.keep fun b o hp => hb.cell (p := ⟨b, o, none⟩) hp
theorem RDos25.src (h : RDos25 w B A n l) : ∀ j u, (dosV l)[j]? = some u → ∃ ad, A = some ad ∧ w.cell? (ad.add j) = some u := by
  intro j u hu
  have hjl : j < l.length * 5 := by
    rcases Nat.lt_or_ge j (l.length * 5) with h' | h'
    · exact h'
    · rw [List.getElem?_eq_none (by rw [dosV_length]; omega)] at hu; cases hu
  obtain ⟨x, hx⟩ : ∃ x, l[j / 5]? = some x := ⟨_, List.getElem?_eq_getElem (by omega)⟩
  obtain ⟨b, off, rfl, _, hc⟩ := h.2.2 (by rw [← h.1]; omega)
  obtain ⟨c0, c1, c2, c3, c4⟩ := hc _ _ hx
  obtain ⟨v0, v1, v2, v3, v4⟩ := dosV_at hx
  refine ⟨_, rfl, ?_⟩
  rw [add_none]
  have h5 : j = j / 5 * 5 ∨ j = j / 5 * 5 + 1 ∨ j = j / 5 * 5 + 2 ∨ j = j / 5 * 5 + 3 ∨ j = j / 5 * 5 + 4 := by omega
  rcases h5 with e | e | e | e | e
  · rw [e] at hu ⊢; rw [v0] at hu; rw [← hu, ← c0]
  · rw [e] at hu ⊢; rw [v1] at hu; rw [← hu, ← c1]; congr 2
  · rw [e] at hu ⊢; rw [v2] at hu; rw [← hu, ← c2]; congr 2
  · rw [e] at hu ⊢; rw [v3] at hu; rw [← hu, ← c3]; congr 2
  · rw [e] at hu ⊢; rw [v4] at hu; rw [← hu, ← c4]; congr 2

/-- A row of additions that a call built, from block base on. -/
def DOwn (w : World) (base : Nat) (v : Value) (l : List Do25) : Prop := w.ownsRow base 29 5 v l.length (dosV l)
theorem DOwn.start (w : World) (base : Nat) : DOwn w base (.slice none 0 0) [] := World.ownsRow_nil _ _ _ _
theorem DOwn.at_ {v : Value} (h : DOwn w base v l) : ∀ g, v.ownBlock = some g → base ≤ g ∧ g < w.heap.size := by
  intro g hg
  rcases h.2 with ⟨rfl, _⟩ | ⟨g', cap, cur, rfl, hb, hh, _⟩
  · simp [Value.ownBlock] at hg
  · simp [Value.ownBlock] at hg
    subst hg
    exact ⟨hb, (Array.getElem?_eq_some_iff.1 hh).1⟩
theorem DOwn.stays {v : Value} (h : DOwn w base v l) (hk : ∀ g, v.ownBlock = some g → w'.heap[g]? = w.heap[g]?) : DOwn w' base v l := by
  rcases h.2 with h' | ⟨g, cap, cur, rfl, hg, hb, h3⟩
  · exact ⟨h.1, .inl h'⟩
  · exact ⟨h.1, .inr ⟨g, cap, cur, rfl, hg, (hk g (by simp [Value.ownBlock])).trans hb, h3⟩⟩
theorem DOwn.below {v : Value} (h : DOwn w base v l) (hb : Below w.heap.size w w') : DOwn w' base v l := h.stays fun g hg => hb.block g (h.at_ g hg).2
theorem DOwn.shape {v : Value} (h : DOwn w base v l) : ∃ A c, v = .slice A l.length c ∧ l.length ≤ c := by
  rcases h.2 with ⟨rfl, h0⟩ | ⟨g, cap, cur, rfl, hb, hg, hc, _⟩
  · rw [h0]; exact ⟨none, 0, rfl, Nat.le_refl _⟩
  · exact ⟨_, cap, rfl, hc⟩
/-- How it is read. -/
theorem DOwn.read {n c : Nat} (h : DOwn w base (.slice A n c) l) (hl : ∀ x ∈ l, Do25Ok x) : n = l.length ∧ n ≤ c ∧ RDos25 w w.heap.size A n l := by
  rcases h.2 with ⟨e, h0⟩ | ⟨g, cap, cur, e, hb, hg, hc, _, _, htake⟩
  · cases e
    exact ⟨h0.symm, Nat.le_refl _, h0, hl, fun hn => absurd hn (by omega)⟩
  · cases e
    refine ⟨rfl, hc, rfl, hl, fun hn => ⟨g, 0, rfl, (Array.getElem?_eq_some_iff.1 hg).1, fun i y hy => ?_⟩⟩
    have hi := (List.getElem?_eq_some_iff.1 hy).1
    obtain ⟨g0, g1, g2, g3, g4⟩ := dosV_at hy
    have at_ : ∀ k u, k < l.length * 5 → (dosV l)[k]? = some u → w.cell? ⟨g, k, none⟩ = some u := fun k u hk hu => by
      rw [cell_of_row w g k cur _ (0, 0) hg, ← hu, ← htake, List.getElem?_take, if_pos hk]
      simp
    rw [Nat.zero_add]
    exact ⟨at_ _ _ (by omega) g0, at_ _ _ (by omega) g1, at_ _ _ (by omega) g2, at_ _ _ (by omega) g3, at_ _ _ (by omega) g4⟩
theorem info_do25 : (Tryz.prog.info? 29).map (fun i => (i.zero, i.size, i.bytes)) = some (some (.agg #[.int .i64 0, .int .i64 0, .int .i64 0, .int .i64 0, .int .i64 0]), 5, 40) := by kernel_rfl
theorem doCells_ : (Value.agg #[.int .i64 0, .int .i64 0, .int .i64 0, .int .i64 0, .int .i64 0]).cells.size = 5 := rfl
/-- append of one addition, its cells in block b. -/
theorem DOwn.append1 {v : Value} (h : DOwn w base v l) {x : Do25} {b : Nat} {T : TypeId} (hb : w.heap[b]? = some (.cells #[.int .i64 x.y, .int .i64 x.l.f, .int .i64 x.l.o, .int .i64 x.l.n, .int .i64 x.l.a] T)) (hx : Do25Ok x) (hn : l.length ≤ 2147483647) (hbase : base ≤ w.heap.size) (ty : TypeId) :
    ∃ v' w', (Builtin.append_ #[22, 22] ty #[v, .slice (some ⟨b, 0, none⟩) 1 1]).run Tryz.prog w = .ok v' w' ∧ DOwn w' base v' (l ++ [x]) ∧ Below base w w' ∧ w.grownBy w' v.ownBlock ∧ (v'.ownBlock = v.ownBlock ∨ v'.ownBlock = some w.heap.size) := by
  obtain ⟨i0, hi, hz0, hz1, hz2⟩ := info_parts info_do25
  have hr : RDos25 w w.heap.size (some ⟨b, 0, none⟩) 1 [x] := ⟨rfl, fun y hy => by obtain rfl := List.mem_singleton.1 hy; exact hx, fun _ => ⟨b, 0, rfl, (Array.getElem?_eq_some_iff.1 hb).1, fun j y hy => by
    have hj : j = 0 := by
      have := (List.getElem?_eq_some_iff.1 hy).1
      simp at this
      omega
    subst hj
    obtain rfl : x = y := by simpa using hy
    exact ⟨cell_of_row w b 0 _ T (0, 0) hb, cell_of_row w b 1 _ T (0, 0) hb, cell_of_row w b 2 _ T (0, 0) hb, cell_of_row w b 3 _ T (0, 0) hb, cell_of_row w b 4 _ T (0, 0) hb⟩⟩⟩
  obtain ⟨v', w', hrun, h1, h2, _, h3⟩ := run_append_own_at (P := Tryz.prog) w base 22 ty 29 i0 _ 5 40 Tryz.underlying22 hi hz0 hz1 hz2 doCells_ (by decide) v _ _ h ⟨b, 0, none⟩ 1 1 (dosV [x]) (by rw [dosV_length]; rfl) (fun j u hj => by
    obtain ⟨ad', e, hc⟩ := hr.src j u hj
    cases e
    exact hc) (dosV_one [x]) (by unfold maxLen; omega) (by omega) hbase
  refine ⟨v', w', hrun, ?_, (Below.refl _ _).grown h2 hbase (fun k hk => (h.at_ k hk).1), h2, h3⟩
  show w'.ownsRow base 29 5 v' (l ++ [x]).length (dosV (l ++ [x]))
  rw [dosV_append, List.length_append]
  exact h1
end

open Go.ChangeShapes Go.WideShapes Go.Deep in
theorem cellInt25 : Tryz.prog.cellsOf 3 = 1 := by kernel_rfl
theorem do25Cells : Tryz.prog.cellsOf 29 = 5 := by kernel_rfl
theorem line25Cells : Tryz.prog.cellsOf 27 = 4 := by kernel_rfl
open Go.ChangeShapes Go.WideShapes Go.Deep in
/-- A slice of additions as the statements open it. -/
theorem open_dos25 {H : Type} {enc : TypeId × Value → H} {w : World} {fuel : Nat} {cs : List Value} {x : DataW H × List MemPlace} (h : DataW.trod enc Tryz.prog w 0 (fun _ => true) true fuel 22 cs = some x) :
    cs = [.slice none 0 0] ∨ ∃ (a : Addr) (len cap : Nat) (ls : List Do25), cs = [.slice (some a) len cap] ∧ len ≤ cap ∧ cap ≤ maxLen ∧ RDos25 w w.heap.size (some a) len ls := by
  rcases open_slice Tryz.underlying22 h with ⟨h0, _⟩ | ⟨a, len, cap, m, n, D, Pl, hcs, hb, hl, hm, hmm, hx, hi⟩
  · exact .inl h0
  · right
    have hmc : m = cap := by simpa using hmm
    have each : ∀ i, i < len → ∃ d : Do25, Do25Ok d ∧ ∀ b off, a = ⟨b, off, none⟩ → Do25At w b (off + i * 5) d := by
      intro i hilen
      obtain ⟨cs', hc, ht'⟩ := hi i (by omega)
      rw [do25Cells] at hc
      obtain ⟨ys, n', hn', hy, hlen, hyl, hf⟩ := DataW.trod_struct Tryz.underlying29 ht'
      obtain ⟨_, hcl, hat⟩ := World.cells?_some hc
      match cs', hcl with
      | [c0, c1, c2, c3, c4], _ =>
        match ys, hyl with
        | [y0, y1], _ =>
          have f0 : DataW.trod enc Tryz.prog w 0 (fun _ => true) true n' 3 (([c0, c1, c2, c3, c4].drop 0).take (Tryz.prog.cellsOf 3)) = [y0, y1][0]? := hf 0 _ rfl
          rw [cellInt25] at f0
          have fL : DataW.trod enc Tryz.prog w 0 (fun _ => true) true n' 27 (([c0, c1, c2, c3, c4].drop 1).take (Tryz.prog.cellsOf 27)) = [y0, y1][1]? := hf 1 _ rfl
          rw [line25Cells] at fL
          simp only [List.drop_zero, List.take_succ_cons, List.take_zero, List.drop_succ_cons, List.getElem?_cons_zero, List.getElem?_cons_succ] at f0 fL
          obtain ⟨zs, n2, hn2, hz, hzlen, hzl, hg⟩ := DataW.trod_struct Tryz.underlying27 fL
          match zs, hzl with
          | [z0, z1, z2, z3], _ =>
          have g0 : DataW.trod enc Tryz.prog w 0 (fun _ => true) true n2 3 (([c1, c2, c3, c4].drop 0).take (Tryz.prog.cellsOf 3)) = [z0, z1, z2, z3][0]? := hg 0 _ rfl
          rw [cellInt25] at g0
          have g1 : DataW.trod enc Tryz.prog w 0 (fun _ => true) true n2 3 (([c1, c2, c3, c4].drop 1).take (Tryz.prog.cellsOf 3)) = [z0, z1, z2, z3][1]? := hg 1 _ rfl
          rw [cellInt25] at g1
          have g2 : DataW.trod enc Tryz.prog w 0 (fun _ => true) true n2 3 (([c1, c2, c3, c4].drop 2).take (Tryz.prog.cellsOf 3)) = [z0, z1, z2, z3][2]? := hg 2 _ rfl
          rw [cellInt25] at g2
          have g3 : DataW.trod enc Tryz.prog w 0 (fun _ => true) true n2 3 (([c1, c2, c3, c4].drop 3).take (Tryz.prog.cellsOf 3)) = [z0, z1, z2, z3][3]? := hg 3 _ rfl
          rw [cellInt25] at g3
          simp only [List.drop_zero, List.take_succ_cons, List.take_zero, List.drop_succ_cons, List.getElem?_cons_zero, List.getElem?_cons_succ] at g0 g1 g2 g3
          obtain ⟨n0, e0, _, w0⟩ := DataW.trod_int Tryz.underlying3 f0
          obtain ⟨n1, e1, _, w1⟩ := DataW.trod_int Tryz.underlying3 g0
          obtain ⟨n2', e2, _, w2⟩ := DataW.trod_int Tryz.underlying3 g1
          obtain ⟨n3, e3, _, w3⟩ := DataW.trod_int Tryz.underlying3 g2
          obtain ⟨n4, e4, _, w4⟩ := DataW.trod_int Tryz.underlying3 g3
          simp only [List.cons.injEq, and_true] at e0 e1 e2 e3 e4
          subst e0 e1 e2 e3 e4
          refine ⟨⟨n0, n1, n2', n3, n4⟩, ⟨int_bounds w0, int_bounds w1, int_bounds w2, int_bounds w3, int_bounds w4⟩, fun b off ha => ?_⟩
          subst ha
          have a0 := hat 0 (by decide)
          have a1 := hat 1 (by decide)
          have a2 := hat 2 (by decide)
          have a3 := hat 3 (by decide)
          have a4 := hat 4 (by decide)
          simp only [add_none, List.getElem?_cons_zero, List.getElem?_cons_succ, Nat.add_zero] at a0 a1 a2 a3 a4
          exact ⟨a0, a1, a2, a3, a4⟩
    obtain ⟨f, hf⟩ : ∃ f : Nat → Do25, ∀ i, i < len → Do25Ok (f i) ∧ ∀ b off, a = ⟨b, off, none⟩ → Do25At w b (off + i * 5) (f i) := by
      refine ⟨fun i => if h : i < len then (each i h).choose else ⟨0, 0, 0, 0, 0⟩, fun i hil => ?_⟩
      simp only [hil, dif_pos]
      exact (each i hil).choose_spec
    refine ⟨a, len, cap, (List.range len).map f, hcs, hl, hm, by simp, fun y hy => ?_, fun hn => ?_⟩
    · obtain ⟨i, hi, rfl⟩ := List.mem_map.1 hy
      exact (hf i (List.mem_range.1 hi)).1
    obtain ⟨cs', hc, _⟩ := hi 0 (by omega)
    rw [do25Cells] at hc
    obtain ⟨_, hcl, hat⟩ := World.cells?_some hc
    have h0 := hat 0 (by decide)
    have hlt0 : 0 < cs'.length := by omega
    rw [List.getElem?_eq_getElem hlt0] at h0
    obtain ⟨b, off, spot⟩ := a
    have hspot : spot = none := by simpa [Addr.add] using World.cell?_spot h0
    subst hspot
    refine ⟨b, off, rfl, ?_, fun j y hy => ?_⟩
    · have := World.block_lt_of_cell? _ _ h0
      simpa [Addr.add] using this
    · rw [List.getElem?_map] at hy
      obtain ⟨i, hi, rfl⟩ := Option.map_eq_some_iff.1 hy
      obtain ⟨hlt, e⟩ := List.getElem?_eq_some_iff.1 hi
      rw [List.getElem_range] at e
      subst e
      rw [List.length_range] at hlt
      exact (hf j hlt).2 b off rfl
end Go.Proofs.YtihjlhegcoceoaaGreat
