/-
  Words for a slice of lines as it lies in memory, and for a row of lines that a call builds by append: what keeps it, how it grows, how it is read. Condition of an append: fewer than 2^32 lines.
-/
import Derived.Test.YtombdkebjbhacaaLinP
import Derived.Test.YtombdkebjbhacaaInts
import Derived.Test.YtombdkebjbhacaaApp
import Derived.Maps.AppendAt
import Derived.Deep.AppendLies
import Derived.Laws.AppendOwnNone
namespace Go.Proofs.Ytombdkebjbhacaa
open Go.RowKit
set_option maxRecDepth 100000
set_option linter.unusedVariables false

def lnV (x : Ln) : List Value := [.int .i64 x.f, .int .i64 x.o, .int .i64 x.n, .int .i64 x.a]
def lnsV (l : List Ln) : List Value := l.flatMap lnV
theorem lnsV_length (l : List Ln) : (lnsV l).length = l.length * 4 := by
  unfold lnsV
  induction l with
  | nil => rfl
  | cons x r ih => rw [List.flatMap_cons, List.length_append, ih, List.length_cons]; show 4 + _ = _; omega
theorem lnsV_append (l m : List Ln) : lnsV (l ++ m) = lnsV l ++ lnsV m := List.flatMap_append
theorem lnsV_at : ∀ {l : List Ln} {i : Nat} {x : Ln}, l[i]? = some x → (lnsV l)[i * 4]? = some (.int .i64 x.f) ∧ (lnsV l)[i * 4 + 1]? = some (.int .i64 x.o) ∧ (lnsV l)[i * 4 + 2]? = some (.int .i64 x.n) ∧ (lnsV l)[i * 4 + 3]? = some (.int .i64 x.a)
  | [], i, x, h => by cases h
  | y :: r, 0, x, h => by
    obtain rfl : y = x := by simpa using h
    exact ⟨rfl, rfl, rfl, rfl⟩
  | y :: r, i + 1, x, h => by
    obtain ⟨h0, h1, h2, h3⟩ := lnsV_at (l := r) (i := i) (x := x) (by simpa using h)
    have e : ∀ k, (lnsV (y :: r))[k + 4]? = (lnsV r)[k]? := fun k => by
      show (lnV y ++ lnsV r)[k + 4]? = _
      rw [List.getElem?_append_right (by show 4 ≤ _; omega)]
      show (lnsV r)[k + 4 - 4]? = _
      rw [Nat.add_sub_cancel]
    rw [show (i + 1) * 4 = i * 4 + 4 by omega, show i * 4 + 4 + 1 = i * 4 + 1 + 4 by omega, show i * 4 + 4 + 2 = i * 4 + 2 + 4 by omega, show i * 4 + 4 + 3 = i * 4 + 3 + 4 by omega, e, e, e, e]
    exact ⟨h0, h1, h2, h3⟩
theorem lnsV_one (l : List Ln) : ∀ u ∈ lnsV l, u.oneCell' = true := by
  intro u hu
  obtain ⟨x, _, hx⟩ := List.mem_flatMap.1 hu
  unfold lnV at hx
  simp only [List.mem_cons, List.not_mem_nil, or_false] at hx
  rcases hx with rfl | rfl | rfl | rfl <;> rfl

/-- A line at some place. -/
def LnAt (w : World) (b off : Nat) (x : Ln) : Prop :=
  w.cell? ⟨b, off, none⟩ = some (.int .i64 x.f) ∧ w.cell? ⟨b, off + 1, none⟩ = some (.int .i64 x.o) ∧ w.cell? ⟨b, off + 2, none⟩ = some (.int .i64 x.n) ∧ w.cell? ⟨b, off + 3, none⟩ = some (.int .i64 x.a)
/-- The slice at A of n lines reads as the list l in w, and lies below block B. -/
def RL (w : World) (B : Nat) (A : Option Addr) (n : Nat) (l : List Ln) : Prop :=
  l.length = n ∧ (∀ x ∈ l, LnOk x) ∧ (0 < n → ∃ b off, A = some ⟨b, off, none⟩ ∧ b < B ∧ ∀ j x, l[j]? = some x → LnAt w b (off + j * 4) x)

section
variable {w w' : World} {B B' n base : Nat} {A : Option Addr} {l : List Ln}
theorem LnAt.keep {b off : Nat} {x : Ln} (h : LnAt w b off x) (hb : b < B) (hk : ∀ b o, b < B → w'.cell? ⟨b, o, none⟩ = w.cell? ⟨b, o, none⟩) : LnAt w' b off x := by
  obtain ⟨h0, h1, h2, h3⟩ := h
  exact ⟨(hk _ _ hb).trans h0, (hk _ _ hb).trans h1, (hk _ _ hb).trans h2, (hk _ _ hb).trans h3⟩
theorem RL.nil_ : RL w B A 0 [] := ⟨rfl, (fun _ h => by cases h), fun h => absurd h (by omega)⟩
theorem RL.len (h : RL w B A n l) : l.length = n := h.1
theorem RL.ok (h : RL w B A n l) : ∀ x ∈ l, LnOk x := h.2.1
theorem RL.keep (h : RL w B A n l) (hk : ∀ b o, b < B → w'.cell? ⟨b, o, none⟩ = w.cell? ⟨b, o, none⟩) : RL w' B A n l :=
  ⟨h.1, h.2.1, fun hn => by
    obtain ⟨b, off, e, hb, hc⟩ := h.2.2 hn
    exact ⟨b, off, e, hb, fun j x hx => (hc j x hx).keep hb hk⟩⟩
theorem RL.below (h : RL w B A n l) (hb : Below B w w') : RL w' B A n l := h.keep fun b o hp => hb.cell (p := ⟨b, o, none⟩) hp
theorem RL.more (h : RL w B A n l) (hB : B ≤ B') : RL w B' A n l :=
  ⟨h.1, h.2.1, fun hn => by
    obtain ⟨b, off, e, hb, hc⟩ := h.2.2 hn
    exact ⟨b, off, e, by omega, hc⟩⟩
theorem RL.front {j : Nat} (h : RL w B A n l) (hj : j ≤ n) : RL w B A j (l.take j) := by
  obtain ⟨h1, h2, h3⟩ := h
  refine ⟨by rw [List.length_take]; omega, fun x hx => h2 x (List.mem_of_mem_take hx), fun hn => ?_⟩
  obtain ⟨b, off, e, hb, hp⟩ := h3 (by omega)
  refine ⟨b, off, e, hb, fun i y hy => hp i y ?_⟩
  rw [List.getElem?_take] at hy
  split at hy
  · exact hy
  · cases hy
/-- What lies behind place j, wherever it is said to begin. -/
theorem RL.back {j c : Nat} (h : RL w B A n l) (hj : j ≤ n) (hnc : n ≤ c) : RL w B (if c = j then A else A.map (·.add (j * 4))) (n - j) (l.drop j) := by
  obtain ⟨h1, h2, h3⟩ := h
  refine ⟨by rw [List.length_drop, h1], fun x hx => h2 x (List.mem_of_mem_drop hx), fun hn => ?_⟩
  obtain ⟨b, off, rfl, hb, hp⟩ := h3 (by omega)
  rw [if_neg (by omega)]
  refine ⟨b, off + j * 4, congrArg some (add_none _ _ _), hb, fun i y hy => ?_⟩
  rw [List.getElem?_drop] at hy
  have := hp (j + i) y hy
  rwa [show off + (j + i) * 4 = off + j * 4 + i * 4 by omega] at this
theorem RL.src (h : RL w B A n l) : ∀ j u, (lnsV l)[j]? = some u → ∃ ad, A = some ad ∧ w.cell? (ad.add j) = some u := by
  intro j u hu
  have hjl : j < l.length * 4 := by
    rcases Nat.lt_or_ge j (l.length * 4) with h' | h'
    · exact h'
    · rw [List.getElem?_eq_none (by rw [lnsV_length]; omega)] at hu; cases hu
  obtain ⟨x, hx⟩ : ∃ x, l[j / 4]? = some x := ⟨_, List.getElem?_eq_getElem (by omega)⟩
  obtain ⟨b, off, rfl, _, hc⟩ := h.2.2 (by rw [← h.1]; omega)
  obtain ⟨c0, c1, c2, c3⟩ := hc _ _ hx
  obtain ⟨v0, v1, v2, v3⟩ := lnsV_at hx
  refine ⟨_, rfl, ?_⟩
  rw [add_none]
  have h4 : j = j / 4 * 4 ∨ j = j / 4 * 4 + 1 ∨ j = j / 4 * 4 + 2 ∨ j = j / 4 * 4 + 3 := by omega
  rcases h4 with e | e | e | e
  · rw [e] at hu ⊢; rw [v0] at hu; rw [← hu, ← c0]
  · rw [e] at hu ⊢; rw [v1] at hu; rw [← hu, ← c1]; congr 2
  · rw [e] at hu ⊢; rw [v2] at hu; rw [← hu, ← c2]; congr 2
  · rw [e] at hu ⊢; rw [v3] at hu; rw [← hu, ← c3]; congr 2

/-- A row of lines that a call built, from block base on. -/
def LOwn (w : World) (base : Nat) (v : Value) (l : List Ln) : Prop := w.ownsRow base 42 4 v l.length (lnsV l)
theorem LOwn.start (w : World) (base : Nat) : LOwn w base (.slice none 0 0) [] := World.ownsRow_nil _ _ _ _
theorem LOwn.at_ {v : Value} (h : LOwn w base v l) : ∀ g, v.ownBlock = some g → base ≤ g ∧ g < w.heap.size := by
  intro g hg
  rcases h.2 with ⟨rfl, _⟩ | ⟨g', cap, cur, rfl, hb, hh, _⟩
  · simp [Value.ownBlock] at hg
  · simp [Value.ownBlock] at hg
    subst hg
    exact ⟨hb, (Array.getElem?_eq_some_iff.1 hh).1⟩
theorem LOwn.stays {v : Value} (h : LOwn w base v l) (hk : ∀ g, v.ownBlock = some g → w'.heap[g]? = w.heap[g]?) : LOwn w' base v l := by
  rcases h.2 with h' | ⟨g, cap, cur, rfl, hg, hb, h3⟩
  · exact ⟨h.1, .inl h'⟩
  · exact ⟨h.1, .inr ⟨g, cap, cur, rfl, hg, (hk g (by simp [Value.ownBlock])).trans hb, h3⟩⟩
theorem LOwn.below {v : Value} (h : LOwn w base v l) (hb : Below w.heap.size w w') : LOwn w' base v l := h.stays fun g hg => hb.block g (h.at_ g hg).2
theorem LOwn.shape {v : Value} (h : LOwn w base v l) : ∃ A c, v = .slice A l.length c ∧ l.length ≤ c := by
  rcases h.2 with ⟨rfl, h0⟩ | ⟨g, cap, cur, rfl, hb, hg, hc, _⟩
  · rw [h0]; exact ⟨none, 0, rfl, Nat.le_refl _⟩
  · exact ⟨_, cap, rfl, hc⟩
theorem LOwn.base_le {v : Value} (h : LOwn w base v l) {b : Nat} (hb : b ≤ base) : LOwn w b v l := by
  rcases h.2 with h' | ⟨g, cap, cur, rfl, hg, h3⟩
  · exact ⟨h.1, .inl h'⟩
  · exact ⟨h.1, .inr ⟨g, cap, cur, rfl, Nat.le_trans hb hg, h3⟩⟩
/-- How it is read. -/
theorem LOwn.read {n c : Nat} (h : LOwn w base (.slice A n c) l) (hl : ∀ x ∈ l, LnOk x) : n = l.length ∧ n ≤ c ∧ RL w w.heap.size A n l := by
  rcases h.2 with ⟨e, h0⟩ | ⟨g, cap, cur, e, hb, hg, hc, _, _, htake⟩
  · cases e
    exact ⟨h0.symm, Nat.le_refl _, h0, hl, fun hn => absurd hn (by omega)⟩
  · cases e
    refine ⟨rfl, hc, rfl, hl, fun hn => ⟨g, 0, rfl, (Array.getElem?_eq_some_iff.1 hg).1, fun i y hy => ?_⟩⟩
    have hi := (List.getElem?_eq_some_iff.1 hy).1
    obtain ⟨g0, g1, g2, g3⟩ := lnsV_at hy
    have at_ : ∀ k u, k < l.length * 4 → (lnsV l)[k]? = some u → w.cell? ⟨g, k, none⟩ = some u := fun k u hk hu => by
      rw [cell_of_row w g k cur _ (0, 0) hg, ← hu, ← htake, List.getElem?_take, if_pos hk]
      simp
    rw [Nat.zero_add]
    exact ⟨at_ _ _ (by omega) g0, at_ _ _ (by omega) g1, at_ _ _ (by omega) g2, at_ _ _ (by omega) g3⟩

theorem info_line : (Try.prog.info? 42).map (fun i => (i.zero, i.size, i.bytes)) = some (some (.agg #[.int .i64 0, .int .i64 0, .int .i64 0, .int .i64 0]), 4, 32) := by kernel_rfl
theorem lnCells_ : (Value.agg #[.int .i64 0, .int .i64 0, .int .i64 0, .int .i64 0]).cells.size = 4 := rfl
/-- append of lines that lie anywhere. -/
theorem LOwn.appendL {v : Value} (h : LOwn w base v l) {m : List Ln} {k c : Nat} (hr : RL w B A k m) (hn : l.length ≤ 2147483647) (hk : k ≤ 2147483647) (hbase : base ≤ w.heap.size) (ty : TypeId) :
    ∃ v' w', (Builtin.append_ #[22, 22] ty #[v, .slice A k c]).run Try.prog w = .ok v' w' ∧ LOwn w' base v' (l ++ m) ∧ Below base w w' ∧ w.grownBy w' v.ownBlock ∧ (v'.ownBlock = v.ownBlock ∨ v'.ownBlock = some w.heap.size) := by
  obtain ⟨i0, hi, hz0, hz1, hz2⟩ := info_parts info_line
  rcases A with _ | ad
  · have hm : k = 0 := by
      rcases Nat.eq_zero_or_pos k with h0 | h0
      · exact h0
      · obtain ⟨b, off, e, _⟩ := hr.2.2 h0; cases e
    subst hm
    obtain rfl : m = [] := List.eq_nil_of_length_eq_zero hr.len
    rw [List.append_nil]
    exact ⟨_, w, run_append_none (P := Try.prog) (w := w) base 22 ty 42 i0 4 Try.underlying22 hi _ _ _ h c, h, Below.refl _ _, ⟨rfl, rfl, rfl, Nat.le_refl _, fun _ _ _ => rfl⟩, .inl rfl⟩
  · obtain ⟨v', w', hrun, h1, h2, _, h3⟩ := run_append_own_at (P := Try.prog) w base 22 ty 42 i0 _ 4 32 Try.underlying22 hi hz0 hz1 hz2 lnCells_ (by decide) v _ _ h ad k c (lnsV m) (by rw [lnsV_length, hr.len]) (fun j u hj => by
      obtain ⟨ad', e, hc⟩ := hr.src j u hj
      cases e
      exact hc) (lnsV_one m) (by unfold maxLen; omega) (by omega) hbase
    refine ⟨v', w', hrun, ?_, (Below.refl _ _).grown h2 hbase (fun k hk => (h.at_ k hk).1), h2, h3⟩
    show w'.ownsRow base 42 4 v' (l ++ m).length (lnsV (l ++ m))
    rw [lnsV_append, List.length_append, hr.len]
    exact h1
/-- append of one line, its cells in block b. -/
theorem LOwn.append1 {v : Value} (h : LOwn w base v l) {x : Ln} {b : Nat} {T : TypeId} (hb : w.heap[b]? = some (.cells #[.int .i64 x.f, .int .i64 x.o, .int .i64 x.n, .int .i64 x.a] T)) (hx : LnOk x) (hn : l.length ≤ 2147483647) (hbase : base ≤ w.heap.size) (ty : TypeId) :
    ∃ v' w', (Builtin.append_ #[22, 22] ty #[v, .slice (some ⟨b, 0, none⟩) 1 1]).run Try.prog w = .ok v' w' ∧ LOwn w' base v' (l ++ [x]) ∧ Below base w w' ∧ w.grownBy w' v.ownBlock ∧ (v'.ownBlock = v.ownBlock ∨ v'.ownBlock = some w.heap.size) :=
  h.appendL (B := w.heap.size) (m := [x]) ⟨rfl, fun y hy => by obtain rfl := List.mem_singleton.1 hy; exact hx, fun _ => ⟨b, 0, rfl, (Array.getElem?_eq_some_iff.1 hb).1, fun j y hy => by
    have hj : j = 0 := by
      have := (List.getElem?_eq_some_iff.1 hy).1
      simp at this
      omega
    subst hj
    obtain rfl : x = y := by simpa using hy
    exact ⟨cell_of_row w b 0 _ T (0, 0) hb, cell_of_row w b 1 _ T (0, 0) hb, cell_of_row w b 2 _ T (0, 0) hb, cell_of_row w b 3 _ T (0, 0) hb⟩⟩⟩ hn (Nat.le_of_ble_eq_true rfl) hbase ty
end

open Go.ChangeShapes Go.WideShapes Go.Deep in
theorem cellIntL : Try.prog.cellsOf 3 = 1 := by kernel_rfl
theorem lineCells : Try.prog.cellsOf 42 = 4 := by kernel_rfl
open Go.ChangeShapes Go.WideShapes Go.Deep in
/-- A slice of lines as the statements open it. -/
theorem open_lines {H : Type} {enc : TypeId × Value → H} {w : World} {fuel : Nat} {cs : List Value} {x : DataW H × List MemPlace} (h : DataW.trod enc Try.prog w 0 (fun _ => true) true fuel 22 cs = some x) :
    cs = [.slice none 0 0] ∨ ∃ (a : Addr) (len cap : Nat) (ls : List Ln), cs = [.slice (some a) len cap] ∧ len ≤ cap ∧ cap ≤ maxLen ∧ RL w w.heap.size (some a) len ls := by
  rcases open_slice Try.underlying22 h with ⟨h0, _⟩ | ⟨a, len, cap, m, n, D, Pl, hcs, hb, hl, hm, hmm, hx, hi⟩
  · exact .inl h0
  · right
    have hmc : m = cap := by simpa using hmm
    have each : ∀ i, i < len → ∃ d : Ln, LnOk d ∧ ∀ b off, a = ⟨b, off, none⟩ → LnAt w b (off + i * 4) d := by
      intro i hilen
      obtain ⟨cs', hc, ht'⟩ := hi i (by omega)
      rw [lineCells] at hc
      obtain ⟨ys, n', hn', hy, hlen, hyl, hf⟩ := DataW.trod_struct Try.underlying42 ht'
      obtain ⟨_, hcl, hat⟩ := World.cells?_some hc
      match cs', hcl with
      | [c0, c1, c2, c3], _ =>
        match ys, hyl with
        | [y0, y1, y2, y3], _ =>
          have f0 : DataW.trod enc Try.prog w 0 (fun _ => true) true n' 3 (([c0, c1, c2, c3].drop 0).take (Try.prog.cellsOf 3)) = [y0, y1, y2, y3][0]? := hf 0 _ rfl
          rw [cellIntL] at f0
          have f1 : DataW.trod enc Try.prog w 0 (fun _ => true) true n' 3 (([c0, c1, c2, c3].drop 1).take (Try.prog.cellsOf 3)) = [y0, y1, y2, y3][1]? := hf 1 _ rfl
          rw [cellIntL] at f1
          have f2 : DataW.trod enc Try.prog w 0 (fun _ => true) true n' 3 (([c0, c1, c2, c3].drop 2).take (Try.prog.cellsOf 3)) = [y0, y1, y2, y3][2]? := hf 2 _ rfl
          rw [cellIntL] at f2
          have f3 : DataW.trod enc Try.prog w 0 (fun _ => true) true n' 3 (([c0, c1, c2, c3].drop 3).take (Try.prog.cellsOf 3)) = [y0, y1, y2, y3][3]? := hf 3 _ rfl
          rw [cellIntL] at f3
          simp only [List.drop_zero, List.take_succ_cons, List.take_zero, List.drop_succ_cons, List.getElem?_cons_zero, List.getElem?_cons_succ] at f0 f1 f2 f3
          obtain ⟨n0, e0, _, w0⟩ := DataW.trod_int Try.underlying3 f0
          obtain ⟨n1, e1, _, w1⟩ := DataW.trod_int Try.underlying3 f1
          obtain ⟨n2, e2, _, w2⟩ := DataW.trod_int Try.underlying3 f2
          obtain ⟨n3, e3, _, w3⟩ := DataW.trod_int Try.underlying3 f3
          simp only [List.cons.injEq, and_true] at e0 e1 e2 e3
          subst e0 e1 e2 e3
          refine ⟨⟨n0, n1, n2, n3⟩, ⟨int_bounds w0, int_bounds w1, int_bounds w2, int_bounds w3⟩, fun b off ha => ?_⟩
          subst ha
          have a0 := hat 0 (by decide)
          have a1 := hat 1 (by decide)
          have a2 := hat 2 (by decide)
          have a3 := hat 3 (by decide)
          simp only [add_none, List.getElem?_cons_zero, List.getElem?_cons_succ, Nat.add_zero] at a0 a1 a2 a3
          exact ⟨a0, a1, a2, a3⟩
    obtain ⟨f, hf⟩ : ∃ f : Nat → Ln, ∀ i, i < len → LnOk (f i) ∧ ∀ b off, a = ⟨b, off, none⟩ → LnAt w b (off + i * 4) (f i) := by
      refine ⟨fun i => if h : i < len then (each i h).choose else ⟨0, 0, 0, 0⟩, fun i hil => ?_⟩
      simp only [hil, dif_pos]
      exact (each i hil).choose_spec
    refine ⟨a, len, cap, (List.range len).map f, hcs, hl, hm, by simp, fun y hy => ?_, fun hn => ?_⟩
    · obtain ⟨i, hi, rfl⟩ := List.mem_map.1 hy
      exact (hf i (List.mem_range.1 hi)).1
    obtain ⟨cs', hc, _⟩ := hi 0 (by omega)
    rw [lineCells] at hc
    obtain ⟨_, hcl, hat⟩ := World.cells?_some hc
    have h0 := hat 0 (by decide)
    have hlt0 : 0 < cs'.length := by omega
    rw [List.getElem?_eq_getElem hlt0] at h0
    obtain ⟨b, off, spot⟩ := a
    have hspot : spot = none := by simpa [Addr.add] using World.cell?_spot h0
    subst hspot
    refine ⟨b, off, rfl, ?_, fun j y hy => ?_⟩
    · have := World.block_lt_of_cell? _ _ h0
      simpa [Addr.add] using this
    · rw [List.getElem?_map] at hy
      obtain ⟨i, hi, rfl⟩ := Option.map_eq_some_iff.1 hy
      obtain ⟨hlt, e⟩ := List.getElem?_eq_some_iff.1 hi
      rw [List.getElem_range] at e
      subst e
      rw [List.length_range] at hlt
      exact (hf j hlt).2 b off rfl
end Go.Proofs.Ytombdkebjbhacaa
