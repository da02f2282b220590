/-
  A slice of structs as it lies in memory, whatever the struct's cells are, and a row of them that a call builds by append: what keeps it, how it grows, how it is read. Condition of an append: fewer than 2^32 of them.
-/
import Derived.Test.YtlcbmobdokicaaaGreatIntApp
import Derived.Test.YtlcbmobdokicaaaGreatEqual
import Derived.Maps.AppendAt
import Derived.Deep.AppendLies
import Derived.Laws.AppendOwnNone
import Derived.OpenShut
import Derived.Deep.Slices
import Derived.ProofKit
namespace Go.Proofs.YtlcbmobdokicaaaGreat
open Go.RowKit
set_option maxRecDepth 100000
set_option linter.unusedVariables false

/-- How a struct's cells tell it. -/
structure Enc (β : Type) where
  V : β → List Value
  K : Nat
  ok : β → Prop
  len : ∀ x, (V x).length = K
  pos : 0 < K
  one : ∀ x, ∀ u ∈ V x, u.oneCell' = true
section
variable {β : Type} {E : Enc β}
def Enc.all (E : Enc β) (l : List β) : List Value := l.flatMap E.V
theorem Enc.all_length (l : List β) : (E.all l).length = l.length * E.K := by
  unfold Enc.all
  induction l with
  | nil => simp
  | cons x r ih => rw [List.flatMap_cons, List.length_append, ih, List.length_cons, E.len, Nat.add_mul, Nat.one_mul, Nat.add_comm]
theorem Enc.all_append (l m : List β) : E.all (l ++ m) = E.all l ++ E.all m := List.flatMap_append
theorem Enc.all_at : ∀ {l : List β} {i : Nat} {x : β}, l[i]? = some x → ∀ k, k < E.K → (E.all l)[i * E.K + k]? = (E.V x)[k]?
  | [], i, x, h, k, hk => by cases h
  | y :: r, 0, x, h, k, hk => by
    obtain rfl : y = x := by simpa using h
    show (E.V y ++ E.all r)[0 * E.K + k]? = _
    rw [Nat.zero_mul, Nat.zero_add, List.getElem?_append_left (by rw [E.len]; exact hk)]
  | y :: r, i + 1, x, h, k, hk => by
    have ih := Enc.all_at (l := r) (i := i) (x := x) (by simpa using h) k hk
    show (E.V y ++ E.all r)[(i + 1) * E.K + k]? = _
    have e : (i + 1) * E.K = E.K + i * E.K := by rw [Nat.add_mul, Nat.one_mul, Nat.add_comm]
    rw [e, List.getElem?_append_right (by rw [E.len]; omega), E.len, show E.K + i * E.K + k - E.K = i * E.K + k by omega]
    exact ih
theorem Enc.all_one (l : List β) : ∀ u ∈ E.all l, u.oneCell' = true := by
  intro u hu
  obtain ⟨x, _, hx⟩ := List.mem_flatMap.1 hu
  exact E.one x u hx

/-- One of them at some place. -/
def Enc.At (E : Enc β) (w : World) (b off : Nat) (x : β) : Prop := ∀ k, k < E.K → w.cell? ⟨b, off + k, none⟩ = (E.V x)[k]?
/-- The slice at A of n of them reads as the list l in w, and lies below block B. -/
def Enc.R (E : Enc β) (w : World) (B : Nat) (A : Option Addr) (n : Nat) (l : List β) : Prop :=
  l.length = n ∧ (∀ x ∈ l, E.ok x) ∧ (0 < n → ∃ b off, A = some ⟨b, off, none⟩ ∧ b < B ∧ ∀ j x, l[j]? = some x → E.At w b (off + j * E.K) x)
/-- A row of them that a call built, from block base on. -/
def Enc.Own (E : Enc β) (e : TypeId) (w : World) (base : Nat) (v : Value) (l : List β) : Prop := w.ownsRow base e E.K v l.length (E.all l)
/-- What the program tells of the struct and of slices of it. -/
structure Enc.Ty (E : Enc β) (t e : TypeId) : Prop where
  und : Tryz.prog.underlying t = some (.slice e)
  info : ∃ i0 z, Tryz.prog.info? e = some i0 ∧ i0.zero = some z ∧ i0.size = E.K ∧ i0.bytes ≤ 128 ∧ z.cells.size = E.K

section
variable {w w' : World} {B B' n base : Nat} {A : Option Addr} {l : List β} {t e : TypeId}
theorem Enc.At.keep {b off : Nat} {x : β} (h : E.At w b off x) (hb : b < B) (hk : ∀ b o, b < B → w'.cell? ⟨b, o, none⟩ = w.cell? ⟨b, o, none⟩) : E.At w' b off x := fun k hkk => (hk _ _ hb).trans (h k hkk)
theorem Enc.At.row {b : Nat} {x : β} {T : TypeId} {fr : Nat × Nat} (hb : w.heap[b]? = some (.cells (E.V x).toArray T fr)) : E.At w b 0 x := fun k hk => by
  rw [Nat.zero_add, cell_of_row w b k _ T fr hb]
  simp
theorem Enc.R.nil_ : E.R w B A 0 [] := ⟨rfl, (fun _ h => by cases h), fun h => absurd h (by omega)⟩
theorem Enc.R.len (h : E.R w B A n l) : l.length = n := h.1
theorem Enc.R.ok (h : E.R w B A n l) : ∀ x ∈ l, E.ok x := h.2.1
theorem Enc.R.keep (h : E.R w B A n l) (hk : ∀ b o, b < B → w'.cell? ⟨b, o, none⟩ = w.cell? ⟨b, o, none⟩) : E.R w' B A n l :=
  ⟨h.1, h.2.1, fun hn => by
    obtain ⟨b, off, e, hb, hc⟩ := h.2.2 hn
    exact ⟨b, off, e, hb, fun j x hx => (hc j x hx).keep hb hk⟩⟩
theorem Enc.R.below (h : E.R w B A n l) (hb : Below B w w') : E.R w' B A n l := h.keep fun b o hp => hb.cell (p := ⟨b, o, none⟩) hp
theorem Enc.R.more (h : E.R w B A n l) (hB : B ≤ B') : E.R w B' A n l :=
  ⟨h.1, h.2.1, fun hn => by
    obtain ⟨b, off, e, hb, hc⟩ := h.2.2 hn
    exact ⟨b, off, e, by omega, hc⟩⟩
theorem Enc.R.front {j : Nat} (h : E.R w B A n l) (hj : j ≤ n) : E.R w B A j (l.take j) := by
  obtain ⟨h1, h2, h3⟩ := h
  refine ⟨by rw [List.length_take]; omega, fun x hx => h2 x (List.mem_of_mem_take hx), fun hn => ?_⟩
  obtain ⟨b, off, e, hb, hp⟩ := h3 (by omega)
  refine ⟨b, off, e, hb, fun i y hy => hp i y ?_⟩
  rw [List.getElem?_take] at hy
  split at hy
  · exact hy
  · cases hy
theorem Enc.R.src (h : E.R w B A n l) : ∀ j u, (E.all l)[j]? = some u → ∃ ad, A = some ad ∧ w.cell? (ad.add j) = some u := by
  intro j u hu
  have hjl : j < l.length * E.K := by
    rcases Nat.lt_or_ge j (l.length * E.K) with h' | h'
    · exact h'
    · rw [List.getElem?_eq_none (by rw [Enc.all_length]; omega)] at hu; cases hu
  have hdiv : j / E.K < l.length := Nat.div_lt_of_lt_mul (by rw [Nat.mul_comm]; exact hjl)
  obtain ⟨x, hx⟩ : ∃ x, l[j / E.K]? = some x := ⟨_, List.getElem?_eq_getElem hdiv⟩
  obtain ⟨b, off, rfl, _, hc⟩ := h.2.2 (by rw [← h.1]; exact Nat.lt_of_le_of_lt (Nat.zero_le _) hdiv)
  have hmod := Nat.mod_lt j E.pos
  have hj : j / E.K * E.K + j % E.K = j := by rw [Nat.mul_comm]; exact Nat.div_add_mod j E.K
  have h1 := hc _ _ hx (j % E.K) hmod
  have h2 := Enc.all_at hx (j % E.K) hmod
  rw [hj] at h2
  refine ⟨_, rfl, ?_⟩
  rw [add_none, ← hu, h2, ← h1, Nat.add_assoc, hj]
theorem Enc.R.of_row {b : Nat} {T : TypeId} {fr : Nat × Nat} {cs : Array Value} (hb : w.heap[b]? = some (.cells cs T fr)) (hcs : cs.toList = E.all l) (hl : ∀ x ∈ l, E.ok x) : E.R w w.heap.size (some ⟨b, 0, none⟩) l.length l :=
  ⟨rfl, hl, fun _ => ⟨b, 0, rfl, (Array.getElem?_eq_some_iff.1 hb).1, fun j x hx k hk => by
    rw [Nat.zero_add, cell_of_row w b _ _ T fr hb, ← Enc.all_at hx k hk, ← hcs]
    simp⟩⟩
theorem Enc.R.one {b : Nat} {T : TypeId} {fr : Nat × Nat} {x : β} (hb : w.heap[b]? = some (.cells (E.V x).toArray T fr)) (hx : E.ok x) : E.R w w.heap.size (some ⟨b, 0, none⟩) 1 [x] :=
  Enc.R.of_row (l := [x]) hb (by simp [Enc.all]) (fun y hy => by obtain rfl := List.mem_singleton.1 hy; exact hx)

theorem Enc.Own.start (w : World) (e : TypeId) (base : Nat) : E.Own e w base (.slice none 0 0) [] := World.ownsRow_nil _ _ _ _
theorem Enc.Own.at_ {v : Value} (h : E.Own e w base v l) : ∀ g, v.ownBlock = some g → base ≤ g ∧ g < w.heap.size := by
  intro g hg
  rcases h.2 with ⟨rfl, _⟩ | ⟨g', cap, cur, rfl, hb, hh, _⟩
  · simp [Value.ownBlock] at hg
  · simp [Value.ownBlock] at hg
    subst hg
    exact ⟨hb, (Array.getElem?_eq_some_iff.1 hh).1⟩
theorem Enc.Own.stays {v : Value} (h : E.Own e w base v l) (hk : ∀ g, v.ownBlock = some g → w'.heap[g]? = w.heap[g]?) : E.Own e w' base v l := by
  rcases h.2 with h' | ⟨g, cap, cur, rfl, hg, hb, h3⟩
  · exact ⟨h.1, .inl h'⟩
  · exact ⟨h.1, .inr ⟨g, cap, cur, rfl, hg, (hk g (by simp [Value.ownBlock])).trans hb, h3⟩⟩
theorem Enc.Own.below {v : Value} (h : E.Own e w base v l) (hb : Below w.heap.size w w') : E.Own e w' base v l := h.stays fun g hg => hb.block g (h.at_ g hg).2
theorem Enc.Own.shape {v : Value} (h : E.Own e w base v l) : ∃ A c, v = .slice A l.length c ∧ l.length ≤ c := by
  rcases h.2 with ⟨rfl, h0⟩ | ⟨g, cap, cur, rfl, hb, hg, hc, _⟩
  · rw [h0]; exact ⟨none, 0, rfl, Nat.le_refl _⟩
  · exact ⟨_, cap, rfl, hc⟩
theorem Enc.Own.base_le {v : Value} (h : E.Own e w base v l) {b : Nat} (hb : b ≤ base) : E.Own e w b v l := by
  rcases h.2 with h' | ⟨g, cap, cur, rfl, hg, h3⟩
  · exact ⟨h.1, .inl h'⟩
  · exact ⟨h.1, .inr ⟨g, cap, cur, rfl, Nat.le_trans hb hg, h3⟩⟩
/-- How it is read. -/
theorem Enc.Own.read {n c : Nat} (h : E.Own e w base (.slice A n c) l) (hl : ∀ x ∈ l, E.ok x) : n = l.length ∧ n ≤ c ∧ E.R w w.heap.size A n l := by
  rcases h.2 with ⟨e, h0⟩ | ⟨g, cap, cur, e, hb, hg, hc, _, _, htake⟩
  · cases e
    exact ⟨h0.symm, Nat.le_refl _, h0, hl, fun hn => absurd hn (by omega)⟩
  · cases e
    refine ⟨rfl, hc, rfl, hl, fun hn => ⟨g, 0, rfl, (Array.getElem?_eq_some_iff.1 hg).1, fun i y hy k hk => ?_⟩⟩
    have hi := (List.getElem?_eq_some_iff.1 hy).1
    have hik : i * E.K + k < l.length * E.K := by
      have := Nat.mul_le_mul_right E.K (show i + 1 ≤ l.length from hi)
      rw [Nat.add_mul, Nat.one_mul] at this
      omega
    rw [Nat.zero_add, cell_of_row w g _ cur _ (0, 0) hg, ← Enc.all_at hy k hk, ← htake, List.getElem?_take, if_pos hik]
    simp
/-- append of some that lie anywhere. -/
theorem Enc.Own.appendL {v : Value} (h : E.Own e w base v l) (T : E.Ty t e) {m : List β} {k c : Nat} (hr : E.R w B A k m) (hn : l.length ≤ 2147483647) (hk : k ≤ 2147483647) (hbase : base ≤ w.heap.size) (ty : TypeId) :
    ∃ v' w', (Builtin.append_ #[t, t] ty #[v, .slice A k c]).run Tryz.prog w = .ok v' w' ∧ E.Own e w' base v' (l ++ m) ∧ Below base w w' ∧ w.grownBy w' v.ownBlock ∧ (v'.ownBlock = v.ownBlock ∨ v'.ownBlock = some w.heap.size) := by
  obtain ⟨i0, z, hi, hz0, hz1, hz2, hz3⟩ := T.info
  rcases A with _ | ad
  · have hm : k = 0 := by
      rcases Nat.eq_zero_or_pos k with h0 | h0
      · exact h0
      · obtain ⟨b, off, e, _⟩ := hr.2.2 h0; cases e
    subst hm
    obtain rfl : m = [] := List.eq_nil_of_length_eq_zero hr.len
    rw [List.append_nil]
    exact ⟨_, w, run_append_none (P := Tryz.prog) (w := w) base t ty e i0 E.K T.und hi _ _ _ h c, h, Below.refl _ _, ⟨rfl, rfl, rfl, Nat.le_refl _, fun _ _ _ => rfl⟩, .inl rfl⟩
  · obtain ⟨v', w', hrun, h1, h2, _, h3⟩ := run_append_own_at (P := Tryz.prog) w base t ty e i0 z E.K i0.bytes T.und hi hz0 hz1 rfl hz3 E.pos v _ _ h ad k c (E.all m) (by rw [Enc.all_length, hr.len]) (fun j u hj => by
      obtain ⟨ad', e, hc⟩ := hr.src j u hj
      cases e
      exact hc) (Enc.all_one m) (by unfold maxLen; omega) (by
        have : (l.length + k) * i0.bytes ≤ (l.length + k) * 128 := Nat.mul_le_mul_left _ hz2
        omega) hbase
    refine ⟨v', w', hrun, ?_, (Below.refl _ _).grown h2 hbase (fun k hk => (h.at_ k hk).1), h2, h3⟩
    show w'.ownsRow base e E.K v' (l ++ m).length (E.all (l ++ m))
    rw [Enc.all_append, List.length_append, hr.len]
    exact h1
/-- append of one, its cells in block b. -/
theorem Enc.Own.append1 {v : Value} (h : E.Own e w base v l) (T : E.Ty t e) {x : β} {b : Nat} {TT : TypeId} {fr : Nat × Nat} {cs : Array Value} (hb : w.heap[b]? = some (.cells cs TT fr)) (hcs : cs = (E.V x).toArray) (hx : E.ok x) (hn : l.length ≤ 2147483647) (hbase : base ≤ w.heap.size) (ty : TypeId) :
    ∃ v' w', (Builtin.append_ #[t, t] ty #[v, .slice (some ⟨b, 0, none⟩) 1 1]).run Tryz.prog w = .ok v' w' ∧ E.Own e w' base v' (l ++ [x]) ∧ Below base w w' ∧ w.grownBy w' v.ownBlock ∧ (v'.ownBlock = v.ownBlock ∨ v'.ownBlock = some w.heap.size) := by
  subst hcs
  exact h.appendL T (Enc.R.one hb hx) hn (by omega) hbase ty
end

open Go.ChangeShapes Go.WideShapes Go.Deep in
/-- A slice of them as the statements open it. -/
theorem Enc.open_rows {H : Type} {enc : TypeId × Value → H} {w : World} {fuel : Nat} {cs : List Value} {x : DataW H × List MemPlace} {t e : TypeId} (dflt : β) (hu : Tryz.prog.underlying t = some (.slice e)) (hc : Tryz.prog.cellsOf e = E.K)
    (op : ∀ (n : Nat) (ys : List Value) (y : DataW H × List MemPlace), DataW.trod enc Tryz.prog w 0 (fun _ => true) true n e ys = some y → ys.length = E.K → ∃ d, E.ok d ∧ ys = E.V d)
    (h : DataW.trod enc Tryz.prog w 0 (fun _ => true) true fuel t cs = some x) :
    cs = [.slice none 0 0] ∨ ∃ (a : Addr) (len cap : Nat) (ls : List β), cs = [.slice (some a) len cap] ∧ len ≤ cap ∧ cap ≤ maxLen ∧ E.R w w.heap.size (some a) len ls := by
  rcases open_slice hu h with ⟨h0, _⟩ | ⟨a, len, cap, m, n, D, Pl, hcs, hb, hl, hm, hmm, hx, hi⟩
  · exact .inl h0
  · right
    have hmc : m = cap := by simpa using hmm
    have each : ∀ i, i < len → ∃ d : β, E.ok d ∧ ∀ b off, a = ⟨b, off, none⟩ → E.At w b (off + i * E.K) d := by
      intro i hilen
      obtain ⟨cs', hcc, ht'⟩ := hi i (by omega)
      rw [hc] at hcc
      obtain ⟨_, hcl, hat⟩ := World.cells?_some hcc
      obtain ⟨d, hd, rfl⟩ := op _ _ _ ht' hcl
      refine ⟨d, hd, fun b off ha k hk => ?_⟩
      subst ha
      have := hat k hk
      simp only [add_none] at this
      exact this
    obtain ⟨f, hf⟩ : ∃ f : Nat → β, ∀ i, i < len → E.ok (f i) ∧ ∀ b off, a = ⟨b, off, none⟩ → E.At w b (off + i * E.K) (f i) := by
      refine ⟨fun i => if h : i < len then (each i h).choose else dflt, fun i hil => ?_⟩
      simp only [hil, dif_pos]
      exact (each i hil).choose_spec
    refine ⟨a, len, cap, (List.range len).map f, hcs, hl, hm, by simp, fun y hy => ?_, fun hn => ?_⟩
    · obtain ⟨i, hi, rfl⟩ := List.mem_map.1 hy
      exact (hf i (List.mem_range.1 hi)).1
    obtain ⟨cs', hcc, _⟩ := hi 0 (by omega)
    rw [hc] at hcc
    obtain ⟨_, hcl, hat⟩ := World.cells?_some hcc
    have hp := E.pos
    have h0 := hat 0 hp
    have hlt0 : 0 < cs'.length := by omega
    rw [List.getElem?_eq_getElem hlt0] at h0
    obtain ⟨b, off, spot⟩ := a
    have hspot : spot = none := by simpa [Addr.add] using World.cell?_spot h0
    subst hspot
    refine ⟨b, off, rfl, ?_, fun j y hy => ?_⟩
    · have := World.block_lt_of_cell? _ _ h0
      simpa [Addr.add] using this
    · rw [List.getElem?_map] at hy
      obtain ⟨i, hi, rfl⟩ := Option.map_eq_some_iff.1 hy
      obtain ⟨hlt, e⟩ := List.getElem?_eq_some_iff.1 hi
      rw [List.getElem_range] at e
      subst e
      rw [List.length_range] at hlt
      exact (hf j hlt).2 b off rfl
end
end Go.Proofs.YtlcbmobdokicaaaGreat
