/-
  What the document's Funds does to its list of funds: one more put in at its place, or one's amount changed; the appends of the first, in either order. Conditions: fewer than 2^30 lines.
-/
import Derived.Test.YtccibahlcpkiaaaGreatLinA
import Derived.Test.YtccibahlcpkiaaaGreatAnyZ
import Derived.BigQuiet
import Derived.Lib.AppendZeros
namespace Go.Proofs.YtccibahlcpkiaaaGreat
open Go.RowKit Go.Maps
set_option maxRecDepth 100000
set_option linter.unusedVariables false

theorem addF_ins : ∀ {L : FL} {j : Nat} {f a : Int}, j ≤ L.length → (∀ (i : Nat) (y : Int × Int), i < j → L[i]? = some y → y.1 < f) → (∀ y, L[j]? = some y → f < y.1) → addF L f a = L.take j ++ [(f, a)] ++ L.drop j
  | [], j, f, a, hj, _, _ => by
    obtain rfl : j = 0 := by simpa using hj
    rfl
  | p :: L, 0, f, a, _, _, h => by
    have := h p rfl
    unfold addF
    rw [if_neg (by omega), if_neg (by omega)]
    rfl
  | p :: L, j + 1, f, a, hj, h1, h2 => by
    unfold addF
    rw [if_pos (h1 0 p (by omega) rfl), addF_ins (j := j) (by simpa using hj) (fun i y hi hy => h1 (i + 1) y (by omega) (by simpa using hy)) (fun y hy => h2 y (by simpa using hy))]
    rfl
theorem addF_rep : ∀ {L : FL} {j : Nat} {f a : Int} {y : Int × Int}, (∀ (i : Nat) (y : Int × Int), i < j → L[i]? = some y → y.1 < f) → L[j]? = some y → y.1 = f → addF L f a = L.set j (f, IntKind.i64.wrap (y.2 + a))
  | [], j, f, a, y, _, h, _ => by simp at h
  | p :: L, 0, f, a, y, _, h, e => by
    obtain rfl : p = y := by simpa using h
    unfold addF
    rw [if_neg (by omega), if_pos e]
    rfl
  | p :: L, j + 1, f, a, y, h1, h2, e => by
    unfold addF
    rw [if_pos (h1 0 p (by omega) rfl), addF_rep (j := j) (fun i y hi hy => h1 (i + 1) y (by omega) (by simpa using hy)) (by simpa using h2) e]
    rfl
theorem fundLn_okQ {L : FL} (h : ∀ p ∈ L, B64 p.1 ∧ B64 p.2) : ∀ x ∈ L.map fundLn, LnOk x := by
  intro x hx
  obtain ⟨p, hp, rfl⟩ := List.mem_map.1 hx
  exact ⟨(h p hp).1, by show B64 0; unfold B64; omega, by show B64 0; unfold B64; omega, (h p hp).2⟩
theorem lnsV_set : ∀ (l : List Ln) (j : Nat) (x : Ln) (z : Int), l[j]? = some x → lnsV (l.set j ⟨x.f, x.o, x.n, z⟩) = (lnsV l).set (j * 4 + 3) (.int .i64 z)
  | [], j, x, z, h => by simp at h
  | p :: l, 0, x, z, h => by
    obtain rfl : p = x := by simpa using h
    rfl
  | p :: l, j + 1, x, z, h => by
    have ih := lnsV_set l j x z (by simpa using h)
    show lnV p ++ lnsV (l.set j ⟨x.f, x.o, x.n, z⟩) = (lnV p ++ lnsV l).set _ _
    rw [ih, show (j + 1) * 4 + 3 = (lnV p).length + (j * 4 + 3) from by show _ = 4 + _; omega, List.set_append_right _ _ (Nat.le_add_right _ _), Nat.add_sub_cancel_left]

section
variable {w w' : World} {base : Nat} {l : List Ln}
/-- An amount of the row is written anew. -/
theorem LOwn.setA {A : Option Addr} {n c j : Nat} {x : Ln} (h : LOwn w base (.slice A n c) l) (hj : l[j]? = some x) (z : Int) :
    ∃ g, A = some ⟨g, 0, none⟩ ∧ base ≤ g ∧ g < w.heap.size ∧ (∀ i, w.frozen? ⟨g, i, none⟩ = false) ∧ LnAt w g (j * 4) x ∧ LOwn (w.setCell ⟨g, j * 4 + 3, none⟩ (.int .i64 z)) base (.slice A n c) (l.set j ⟨x.f, x.o, x.n, z⟩) ∧ Below base w (w.setCell ⟨g, j * 4 + 3, none⟩ (.int .i64 z)) := by
  have hjl := (List.getElem?_eq_some_iff.1 hj).1
  rcases h.2 with ⟨e, h0⟩ | ⟨g, cap, cur, e, hb, hg, hc, hcm, hsz, htake⟩
  · omega
  · obtain ⟨rfl, rfl, rfl⟩ : A = some ⟨g, 0, none⟩ ∧ n = l.length ∧ c = cap := by injection e with e1 e2 e3; exact ⟨e1, e2, e3⟩
    have e1 := heap_setCell_same w g (j * 4 + 3) cur 37 (.int .i64 z) hg
    obtain ⟨g0, g1, g2, g3⟩ := lnsV_at hj
    have at_ : ∀ k u, k < l.length * 4 → (lnsV l)[k]? = some u → w.cell? ⟨g, k, none⟩ = some u := fun k u hk hu => by
      rw [cell_of_row w g k cur _ (0, 0) hg, ← hu, ← htake, List.getElem?_take, if_pos hk]
      simp
    refine ⟨g, rfl, hb, (Array.getElem?_eq_some_iff.1 hg).1, fun i => frozen_of_row w g i _ _ hg, ⟨at_ _ _ (by omega) g0, at_ _ _ (by omega) g1, at_ _ _ (by omega) g2, at_ _ _ (by omega) g3⟩, ⟨?_, Or.inr ⟨g, c, _, by rw [List.length_set], hb, e1, by rw [List.length_set]; exact hc, hcm, by simpa using hsz, ?_⟩⟩, ⟨rfl, rfl, rfl, by simp [World.setCell], fun k hk => Below.heap_setCell _ _ _ _ (by show k ≠ g; omega)⟩⟩
    · rw [lnsV_length]
    · rw [List.length_set, lnsV_set _ _ _ _ hj, ← htake]
      simp only [Array.toList_setIfInBounds, List.take_set]
/-- What the last two appends leave. -/
def InsL (w : World) (L' : List Ln) (W : World) (gl : Nat) (v6 : Value) (A2 : Option Addr) (m c2 : Nat) : Prop :=
  ∃ v7 w7, (Builtin.append_ #[23, 23] 23 #[v6, .slice (some ⟨gl, 0, none⟩) 1 1]).run Tryz.prog W = .ok v7 w7 ∧ Below w.heap.size w w7 ∧
    ∃ v8 w8, (Builtin.append_ #[23, 23] 23 #[v7, .slice A2 m c2]).run Tryz.prog w7 = .ok v8 w8 ∧ Below w.heap.size w w8 ∧ LOwn w8 w.heap.size v8 L'
theorem InsL.mk_ {W : World} {L1 L2 : List Ln} {gl m c2 : Nat} {v6 : Value} {A2 : Option Addr} {x : Ln} {T : TypeId} (hb : Below w.heap.size w W) (hT : LOwn W w.heap.size v6 L1) (hlit : W.heap[gl]? = some (.cells #[.int .i64 x.f, .int .i64 x.o, .int .i64 x.n, .int .i64 x.a] T))
    (hx : LnOk x) (hs : RL w w.heap.size A2 m L2) (h1 : L1.length ≤ 1073741823) (h2 : m ≤ 1073741823) : InsL w (L1 ++ [x] ++ L2) W gl v6 A2 m c2 := by
  obtain ⟨v7, w7, hr7, hT7, hb7, _⟩ := hT.append1 hlit hx (by omega) hb.size 23
  have hb07 := hb.trans hb7
  obtain ⟨v8, w8, hr8, hT8, hb8, _⟩ := hT7.appendL (c := c2) (hs.below hb07) (by rw [List.length_append]; simp; omega) (by omega) hb07.size 23
  exact ⟨v7, w7, hr7, hb07, v8, w8, hr8, hb07.trans hb8, hT8⟩
/-- The first append, then the line's own block. -/
theorem insLA {wd : World} {A1 A2 : Option Addr} {L1 L2 : List Ln} {n1 c1 m c2 : Nat} {x : Ln} (hb : Below w.heap.size w wd) (h1 : RL w w.heap.size A1 n1 L1) (hs : RL w w.heap.size A2 m L2) (hx : LnOk x) (hn1 : n1 ≤ 1073741823) (hm : m ≤ 1073741823) :
    ∃ v6 w6, (Builtin.append_ #[23, 23] 23 #[.slice none 0 0, .slice A1 n1 c1]).run Tryz.prog wd.drew = .ok v6 w6 ∧ Below w.heap.size w w6 ∧ Below w.heap.size w (w6.alloc (.cells #[.int .i64 x.f, .int .i64 x.o, .int .i64 x.n, .int .i64 x.a] 37 (0, 0))) ∧ InsL w (L1 ++ [x] ++ L2) (w6.alloc (.cells #[.int .i64 x.f, .int .i64 x.o, .int .i64 x.n, .int .i64 x.a] 37 (0, 0))) w6.heap.size v6 A2 m c2 := by
  have hbd : Below w.heap.size w wd.drew := hb.drew
  obtain ⟨v6, w6, hr6, hT6, hb6, _⟩ := (LOwn.start wd.drew w.heap.size).appendL (c := c1) (h1.below hbd) (by simp) (by omega) hbd.size 23
  rw [List.nil_append] at hT6
  have hb06 := hbd.trans hb6
  have hba := hb06.alloc hb06.size (.cells #[.int .i64 x.f, .int .i64 x.o, .int .i64 x.n, .int .i64 x.a] 37 (0, 0))
  exact ⟨v6, w6, hr6, hb06, hba, InsL.mk_ hba (hT6.below ((Below.refl _ _).alloc (Nat.le_refl _) _)) (heap_alloc_new _ _) hx hs (by rw [h1.1]; exact hn1) hm⟩
/-- The line's own block, then the first append. -/
theorem insLB {wd : World} {A1 A2 : Option Addr} {L1 L2 : List Ln} {n1 c1 m c2 : Nat} {x : Ln} (hb : Below w.heap.size w wd) (h1 : RL w w.heap.size A1 n1 L1) (hs : RL w w.heap.size A2 m L2) (hx : LnOk x) (hn1 : n1 ≤ 1073741823) (hm : m ≤ 1073741823) :
    Below w.heap.size w (wd.alloc (.cells #[.int .i64 x.f, .int .i64 x.o, .int .i64 x.n, .int .i64 x.a] 37 (0, 0))).drew ∧ ∃ v6 w6, (Builtin.append_ #[23, 23] 23 #[.slice none 0 0, .slice A1 n1 c1]).run Tryz.prog (wd.alloc (.cells #[.int .i64 x.f, .int .i64 x.o, .int .i64 x.n, .int .i64 x.a] 37 (0, 0))).drew = .ok v6 w6 ∧ Below w.heap.size w w6 ∧ InsL w (L1 ++ [x] ++ L2) w6 wd.heap.size v6 A2 m c2 := by
  have hbd : Below w.heap.size w (wd.alloc (.cells #[.int .i64 x.f, .int .i64 x.o, .int .i64 x.n, .int .i64 x.a] 37 (0, 0))).drew := (hb.alloc hb.size _).drew
  have hlit : (wd.alloc (.cells #[.int .i64 x.f, .int .i64 x.o, .int .i64 x.n, .int .i64 x.a] 37 (0, 0))).drew.heap[wd.heap.size]? = some (.cells #[.int .i64 x.f, .int .i64 x.o, .int .i64 x.n, .int .i64 x.a] 37 (0, 0)) := heap_alloc_new wd _
  have hlt : wd.heap.size < (wd.alloc (.cells #[.int .i64 x.f, .int .i64 x.o, .int .i64 x.n, .int .i64 x.a] 37 (0, 0))).drew.heap.size := (Array.getElem?_eq_some_iff.1 hlit).1
  obtain ⟨v6, w6, hr6, hT6, hb6, hg6, _⟩ := (LOwn.start (wd.alloc (.cells #[.int .i64 x.f, .int .i64 x.o, .int .i64 x.n, .int .i64 x.a] 37 (0, 0))).drew w.heap.size).appendL (c := c1) (h1.below hbd) (by simp) (by omega) hbd.size 23
  rw [List.nil_append] at hT6
  have hb06 := hbd.trans hb6
  exact ⟨hbd, v6, w6, hr6, hb06, InsL.mk_ hb06 hT6 ((hg6.block _ hlt (by simp [Value.ownBlock])).trans hlit) hx hs (by rw [h1.1]; exact hn1) hm⟩
end
end Go.Proofs.YtccibahlcpkiaaaGreat
