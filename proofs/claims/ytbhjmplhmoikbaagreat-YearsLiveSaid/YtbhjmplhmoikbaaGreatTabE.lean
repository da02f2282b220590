/-
  The document's plain table's Put by contract. Conditions: fewer than 2^31 pairs, texts and values of at most 2^47 bytes.
-/
import Derived.Test.YtbhjmplhmoikbaaGreatTabD
import Derived.Lib.AppendZeros
namespace Go.Proofs.YtbhjmplhmoikbaaGreat
open Go.RowKit Go.Maps
set_option maxRecDepth 100000
set_option linter.unusedVariables false

theorem set_ins : ∀ {L : TL} {j : Nat} {x : Txt} {v : List Int}, j ≤ L.length → (∀ (a : Nat) (y : Txt × List Int), a < j → L[a]? = some y → y.1 < x) → (∀ y, L[j]? = some y → x < y.1) → setT L x v = L.take j ++ [(x, v)] ++ L.drop j
  | [], j, x, v, hj, _, _ => by
    obtain rfl : j = 0 := by simpa using hj
    rfl
  | p :: L, 0, x, v, _, _, h2 => by
    have h := h2 p rfl
    unfold setT
    rw [if_neg (fun h' => tlt_irrefl _ (tlt_trans h h')), if_neg (fun e => by rw [e] at h; exact tlt_irrefl _ h)]
    rfl
  | p :: L, j + 1, x, v, hj, h1, h2 => by
    unfold setT
    rw [if_pos (h1 0 p (by omega) rfl), set_ins (j := j) (by simpa using hj) (fun a y ha hy => h1 (a + 1) y (by omega) (by simpa using hy)) (fun y hy => h2 y (by simpa using hy))]
    rfl
theorem set_rep : ∀ {L : TL} {j : Nat} {x : Txt} {v : List Int} {y : Txt × List Int}, (∀ (a : Nat) (y : Txt × List Int), a < j → L[a]? = some y → y.1 < x) → L[j]? = some y → y.1 = x → setT L x v = L.set j (x, v)
  | [], j, x, v, y, _, h, _ => by simp at h
  | p :: L, 0, x, v, y, _, h, e => by
    obtain rfl : p = y := by simpa using h
    unfold setT
    rw [if_neg (fun h' => by rw [e] at h'; exact tlt_irrefl _ h'), if_pos e]
    rfl
  | p :: L, j + 1, x, v, y, h1, h2, e => by
    unfold setT
    rw [if_pos (h1 0 p (by omega) rfl), set_rep (j := j) (fun a y ha hy => h1 (a + 1) y (by omega) (by simpa using hy)) (by simpa using h2) e]
    rfl

section
variable {w w' : World} {X X' Y : Nat → Prop} {t base : Nat} {L : TL}
theorem SPs.front {A : Option Addr} {n c j : Nat} (h : SPs w X A n c L) (hj : j ≤ n) : SPs w X A j c (L.take j) := by
  obtain ⟨h1, h2, h3⟩ := h
  refine ⟨by omega, by rw [List.length_take]; omega, fun hn => ?_⟩
  obtain ⟨b, off, e, hb, hx, hp⟩ := h3 (by omega)
  refine ⟨b, off, e, hb, hx, fun i y hy => hp i y ?_⟩
  rw [List.getElem?_take] at hy
  split at hy
  · exact hy
  · cases hy
theorem SPs.back {b off n c j : Nat} (h : SPs w X (some ⟨b, off, none⟩) n c L) (hj : j ≤ n) : SPs w X (some ⟨b, off + j * 2, none⟩) (n - j) (c - j) (L.drop j) := by
  obtain ⟨h1, h2, h3⟩ := h
  refine ⟨by omega, by rw [List.length_drop]; omega, fun hn => ?_⟩
  obtain ⟨b', off', e, hb, hx, hp⟩ := h3 (by omega)
  cases e
  refine ⟨b, off + j * 2, rfl, hb, hx, fun i y hy => ?_⟩
  rw [List.getElem?_drop] at hy
  have := hp (j + i) y hy
  rwa [show off + (j + i) * 2 = off + j * 2 + i * 2 by omega] at this

set_option maxHeartbeats 800000 in
theorem run_nil_append_bytes {w : World} {A : Option Addr} {n k B : Nat} {l : List Int} (hr : RB w B A n l) (hB : B ≤ w.heap.size) (hn : n ≤ 140737488355328) (ty : TypeId) :
    ∃ u w', (Builtin.append_ #[32, 32] ty #[.slice none 0 0, .slice A n k]).run Tryz.prog w = .ok u w' ∧ SV w' (fun k => k < w.heap.size) u l ∧ RowKit.Below w.heap.size w w' := by
  obtain ⟨i0, hi, hz0, hz1, hz2⟩ := info_parts info_u8
  have hown : w.ownsRow w.heap.size 5 1 (.slice none 0 0) 0 [] := ⟨rfl, .inl ⟨rfl, rfl⟩⟩
  rcases A with _ | ad
  · have hm : n = 0 := by
      rcases Nat.eq_zero_or_pos n with h0 | h0
      · exact h0
      · obtain ⟨b, off, e, _⟩ := hr.at_ h0; cases e
    subst hm
    obtain rfl : l = [] := List.eq_nil_of_length_eq_zero hr.len
    exact ⟨_, w, run_append_none (P := Tryz.prog) (w := w) w.heap.size 32 ty 5 i0 1 Tryz.underlying32 hi _ _ _ hown k, SV.nil_ _ _ _, RowKit.Below.refl _ _⟩
  · obtain ⟨v', w', hrun, h1, h2, _, h3⟩ := run_append_own_at (P := Tryz.prog) w w.heap.size 32 ty 5 i0 (.int .u8 0) 1 1 Tryz.underlying32 hi hz0 hz1 hz2 rfl (by decide) (.slice none 0 0) 0 [] hown ad n k (l.map (Value.int .u8)) (by simp [hr.len]) (fun j u hj => by
      obtain ⟨ad', e, hc⟩ := hr.src j u hj
      cases e
      exact hc) (oneCell_bytes l) (by unfold maxLen; omega) (by omega) (Nat.le_refl _)
    rw [Nat.zero_add, List.nil_append] at h1
    exact ⟨v', w', hrun, SV.of_own h1 hr.bytes hn (fun k hk => hk), (RowKit.Below.refl _ _).grown h2 (Nat.le_refl _) (fun k hk => by simp [Value.ownBlock] at hk)⟩

theorem TabRow.bel {wr : World} {u : Value} {l : TL} (h : TabRow w wr X u l) : RowKit.Below w.heap.size w wr := by
  obtain ⟨Y, _, _, _, _, h⟩ := h
  exact h
/-- append of a pair whose cells lie in some block. -/
theorem TabRow.pushAt {wr : World} {u u1 u2 : Value} {l : TL} {x : Txt × List Int} {b : Nat} (h : TabRow w wr X u l) (s1 : SV w X u1 (by_ x.1)) (s2 : SV w X u2 x.2) (hb : wr.heap[b]? = some (.cells #[u1, u2] 42 (0, 0))) (hn : l.length ≤ 4294967296) (ty : TypeId) :
    ∃ v' w6, (Builtin.append_ #[36, 36] ty #[u, .slice (some ⟨b, 0, none⟩) 1 1]).run Tryz.prog wr = .ok v' w6 ∧ TabRow w w6 X v' (l ++ [x]) ∧ RowKit.Below w.heap.size w w6 := by
  obtain ⟨Y, h1, h2, h3, h4, h5⟩ := h
  have far : ∀ {u : Value} {d : List Int}, SV w X u d → SV wr Y u d := fun hs => hs.keep h5.size (fun k hk hx hy => by
    rcases h2 k hy with a | a
    · exact hx a
    · omega) (fun k hk _ => h5.block k hk)
  obtain ⟨v', w6, hrun, g1, g2, g3, _⟩ := h1.append_pair (x := kvOf x) (far s1) (far s2) hb (by rw [List.length_map]; exact hn) h5.size ty
  have hbb : RowKit.Below w.heap.size w w6 := h5.trans ((RowKit.Below.refl _ _).grown g2 h5.size (fun k hk => (h1.at_ k hk).1))
  refine ⟨v', w6, hrun, ⟨_, by rw [List.map_append]; exact g1, fun k hk => ?_, fun k hk => Or.inl (h3 k hk), fun k hk => ?_, hbb⟩, hbb⟩
  · rcases hk with a | a
    · exact h2 k a
    · exact .inr (g1.at_ k a).1
  · rcases hk with a | a
    · exact Nat.lt_of_lt_of_le (h4 k a) g2.size
    · exact (g1.at_ k a).2
/-- A pair of the list that was built is written anew. -/
theorem TabRow.setAt {wr : World} {A : Option Addr} {n c j : Nat} {l : TL} {x : Txt × List Int} {u1 u2 : Value} (h : TabRow w wr X (.slice A n c) l) (hj : j < l.length) (s1 : SV w X u1 (by_ x.1)) (s2 : SV w X u2 x.2) :
    ∃ g, A = some ⟨g, 0, none⟩ ∧ w.heap.size ≤ g ∧ n = l.length ∧ (∀ i, wr.frozen? ⟨g, i, none⟩ = false) ∧ (∃ v1, wr.cell? ⟨g, j * 2, none⟩ = some v1) ∧ (∃ v2, wr.cell? ⟨g, j * 2 + 1, none⟩ = some v2) ∧
      TabRow w ((wr.setCell ⟨g, j * 2, none⟩ u1).setCell ⟨g, j * 2 + 1, none⟩ u2) X (.slice A n c) (l.set j x) := by
  obtain ⟨Y, h1, h2, h3, h4, h5⟩ := h
  obtain ⟨g, rfl⟩ : ∃ g, A = some ⟨g, 0, none⟩ := by
    obtain ⟨vs, hr, _⟩ := h1.row
    rcases hr.2 with ⟨e, h0⟩ | ⟨g, cap, cur, e, _⟩
    · rw [List.length_map] at h0; omega
    · injection e with e1; exact ⟨g, e1⟩
  obtain ⟨hnl, hbg, hYg, vs, hR, hP⟩ := h1.open_
  rw [List.length_map] at hnl
  have hR' := hR.set2 (i := j) (by omega) u1 u2
  have hvl := hR.len
  have htch : Touch (fun k => k = g) wr ((wr.setCell ⟨g, j * 2, none⟩ u1).setCell ⟨g, j * 2 + 1, none⟩ u2) := ⟨rfl, rfl, rfl, by simp [World.setCell], fun k hk hne => (Below.heap_setCell _ _ _ _ (by simpa using hne)).trans (Below.heap_setCell _ _ _ _ (by simpa using hne))⟩
  have far : ∀ {u : Value} {d : List Int}, SV w X u d → SV wr Y u d := fun hs => hs.keep h5.size (fun k hk hx hy => by
    rcases h2 k hy with a | a
    · exact hx a
    · omega) (fun k hk _ => h5.block k hk)
  have far2 : ∀ {u : Value} {d : List Int}, SV wr Y u d → SV ((wr.setCell ⟨g, j * 2, none⟩ u1).setCell ⟨g, j * 2 + 1, none⟩ u2) Y u d := fun hs => hs.keep htch.size (fun _ _ h => h) (fun k hk hy => htch.block k hk fun e => hy (by rw [e]; exact hYg))
  have hG := GRow.shut (l := (l.set j x).map kvOf) (Y := Y) (base := w.heap.size) hR' (by simp; omega) hbg hYg (fun a y hy => by
    rw [List.getElem?_map] at hy
    obtain ⟨q, hq, rfl⟩ := Option.map_eq_some_iff.1 hy
    by_cases e : a = j
    · subst e
      rw [List.getElem?_set_self hj] at hq
      obtain rfl : x = q := by simpa using hq
      refine ⟨u1, u2, ?_, ?_, far2 (far s1), far2 (far s2)⟩
      · rw [List.getElem?_set_ne (by omega), List.getElem?_set_self (by omega)]
      · rw [List.getElem?_set_self (by rw [List.length_set]; omega)]
    · rw [List.getElem?_set_ne (Ne.symm e)] at hq
      refine ((hP a (kvOf q) (by rw [List.getElem?_map, hq]; rfl)).keep htch hYg).of ?_ ?_
      · rw [List.getElem?_set_ne (by omega), List.getElem?_set_ne (by omega)]
      · rw [List.getElem?_set_ne (by omega), List.getElem?_set_ne (by omega)])
  have hlen : ((l.set j x).map kvOf).length = n := by simp [hnl]
  rw [hlen] at hG
  refine ⟨g, rfl, hbg, hnl, fun i => hR.frozen i, ⟨_, hR.cell (List.getElem?_eq_getElem (by omega))⟩, ⟨_, hR.cell (List.getElem?_eq_getElem (by omega))⟩, ⟨Y, hG, h2, h3, fun k hk => Nat.lt_of_lt_of_le (h4 k hk) htch.size, ⟨h5.os, h5.tape, h5.output, Nat.le_trans h5.size htch.size, fun k hk => (htch.block k (Nat.lt_of_lt_of_le hk h5.size) (by omega)).trans (h5.block k hk)⟩⟩⟩
/-- What lies behind place j of a row of pairs, wherever it is said to begin. -/
theorem SPs.back_any {A : Option Addr} {n c j : Nat} (h : SPs w X A n c L) (hj : j ≤ n) : SPs w X (if c = j then A else A.map (·.add (j * 2))) (n - j) (c - j) (L.drop j) := by
  by_cases e : j = n
  · subst e
    have : L.drop j = [] := List.drop_eq_nil_of_le (by rw [h.2.1]; exact Nat.le_refl _)
    rw [this, Nat.sub_self]
    exact SPs.nil_ _ _ _ _
  · have hc : ¬ c = j := by have := h.1; omega
    obtain ⟨b, off, rfl, _⟩ := h.2.2 (by omega)
    rw [if_neg hc]
    have := h.back hj
    rw [show (some (⟨b, off, none⟩ : Addr)).map (·.add (j * 2)) = some ⟨b, off + j * 2, none⟩ from congrArg some (addr_add _ _ _)]
    exact this
/-- What the last two appends and the store leave. -/
def InsEnd (w : World) (X : Nat → Prop) (t : Nat) (L' : TL) (W : World) (gl : Nat) (v6 : Value) (A2 : Option Addr) (m c2 : Nat) : Prop :=
  ∃ v7 w7, (Builtin.append_ #[36, 36] 36 #[v6, .slice (some ⟨gl, 0, none⟩) 1 1]).run Tryz.prog W = .ok v7 w7 ∧ RowKit.Below w.heap.size w w7 ∧
    ∃ A8 n8 c8 w8, (Builtin.append_ #[36, 36] 36 #[v7, .slice A2 m c2]).run Tryz.prog w7 = .ok (.slice A8 n8 c8) w8 ∧ RowKit.Below w.heap.size w w8 ∧
      w8.frozen? ⟨t, 0, none⟩ = false ∧ TabAt (w8.setCell ⟨t, 0, none⟩ (.slice A8 n8 c8)) X t L' ∧ Touch (fun k => k = t) w (w8.setCell ⟨t, 0, none⟩ (.slice A8 n8 c8))
theorem InsEnd.mk_ {w0 W : World} {L1 L2 : TL} {gl m c2 : Nat} {v6 uk uv : Value} {A2 : Option Addr} {x : Txt × List Int} (hb : RowKit.Below w.heap.size w w0) (ht : TabAt w X t L) (hX : ∀ k, X k → k < w.heap.size) (hT : TabRow w0 W X v6 L1) (hlit : W.heap[gl]? = some (.cells #[uk, uv] 42 (0, 0)))
    (sk : SV w X uk (by_ x.1)) (sv : SV w X uv x.2) (hs : SPs w X A2 m c2 L2) (h1 : L1.length ≤ 2147483647) (h2 : m ≤ 2147483647) : InsEnd w X t (L1 ++ [x] ++ L2) W gl v6 A2 m c2 := by
  obtain ⟨v7, w7, hr7, hT7, hb7⟩ := hT.pushAt (x := x) (sk.keep hb.size (fun _ _ h => h) (fun k hk _ => hb.block k hk)) (sv.keep hb.size (fun _ _ h => h) (fun k hk _ => hb.block k hk)) hlit (by omega) 36
  obtain ⟨v8, w8, hr8, hT8, hb8⟩ := hT7.pushL (hs.below hb) (by rw [List.length_append]; simp; omega) 36
  obtain ⟨A8, c8, rfl⟩ := hT8.shape
  have hset := hT8.set (ht.below hb) (fun k hk => Nat.lt_of_lt_of_le (hX k hk) hb.size)
  have hb8' := hb.trans (hT8.bel.mono hb.size)
  refine ⟨v7, w7, hr7, hb.trans (hb7.mono hb.size), A8, _, c8, w8, hr8, hb8', ?_, hset.1, ?_⟩
  · obtain ⟨A0, n0, c0, e0, _⟩ := ht
    exact frozen_of_row w8 t 0 _ _ ((hb8'.block t (Array.getElem?_eq_some_iff.1 e0).1).trans e0)
  · obtain ⟨a1, a2, a3, a4, a5⟩ := hset.2
    exact ⟨a1.trans hb.os, a2.trans hb.tape, a3.trans hb.output, Nat.le_trans hb.size a4, fun k hk hne => (a5 k (Nat.lt_of_lt_of_le hk hb.size) hne).trans (hb.block k hk)⟩
/-- The first append, then the pair's own block. -/
theorem insA {wd : World} {A1 A2 : Option Addr} {L1 L2 : TL} {n1 c1 m c2 : Nat} {uk uv : Value} {x : Txt × List Int} (hb : RowKit.Below w.heap.size w wd) (ht : TabAt w X t L) (hX : ∀ k, X k → k < w.heap.size) (h1 : SPs w X A1 n1 c1 L1) (hs : SPs w X A2 m c2 L2)
    (sk : SV w X uk (by_ x.1)) (sv : SV w X uv x.2) (hn1 : n1 ≤ 2147483647) (hm : m ≤ 2147483647) :
    ∃ v6 w6, (Builtin.append_ #[36, 36] 36 #[.slice none 0 0, .slice A1 n1 c1]).run Tryz.prog wd.drew = .ok v6 w6 ∧ RowKit.Below w.heap.size w w6 ∧ RowKit.Below w.heap.size w (w6.alloc (.cells #[uk, uv] 42 (0, 0))) ∧ InsEnd w X t (L1 ++ [x] ++ L2) (w6.alloc (.cells #[uk, uv] 42 (0, 0))) w6.heap.size v6 A2 m c2 := by
  have hbd : RowKit.Below w.heap.size w wd.drew := hb.drew
  obtain ⟨v6, w6, hr6, hT6, hb6⟩ := ((TabRow.start hX).below hbd).pushL h1 (by simp; omega) 36
  rw [List.nil_append] at hT6
  replace hb6 := hT6.bel
  have hba := hb6.alloc hb6.size (.cells #[uk, uv] 42 (0, 0))
  exact ⟨v6, w6, hr6, hb6, hba, InsEnd.mk_ (RowKit.Below.refl _ _) ht hX (hT6.below ((RowKit.Below.refl _ _).alloc (Nat.le_refl _) _)) (heap_alloc_new _ _) sk sv hs (by rw [h1.2.1]; exact hn1) hm⟩
/-- The pair's own block, then the first append. -/
theorem insB {wd : World} {A1 A2 : Option Addr} {L1 L2 : TL} {n1 c1 m c2 : Nat} {uk uv : Value} {x : Txt × List Int} (hb : RowKit.Below w.heap.size w wd) (ht : TabAt w X t L) (hX : ∀ k, X k → k < w.heap.size) (h1 : SPs w X A1 n1 c1 L1) (hs : SPs w X A2 m c2 L2)
    (sk : SV w X uk (by_ x.1)) (sv : SV w X uv x.2) (hn1 : n1 ≤ 2147483647) (hm : m ≤ 2147483647) :
    RowKit.Below w.heap.size w (wd.alloc (.cells #[uk, uv] 42 (0, 0))).drew ∧ ∃ v6 w6, (Builtin.append_ #[36, 36] 36 #[.slice none 0 0, .slice A1 n1 c1]).run Tryz.prog (wd.alloc (.cells #[uk, uv] 42 (0, 0))).drew = .ok v6 w6 ∧ RowKit.Below w.heap.size w w6 ∧ InsEnd w X t (L1 ++ [x] ++ L2) w6 wd.heap.size v6 A2 m c2 := by
  have hbd : RowKit.Below w.heap.size w (wd.alloc (.cells #[uk, uv] 42 (0, 0))).drew := (hb.alloc hb.size _).drew
  have hlit : (wd.alloc (.cells #[uk, uv] 42 (0, 0))).drew.heap[wd.heap.size]? = some (.cells #[uk, uv] 42 (0, 0)) := heap_alloc_new wd _
  have hlt : wd.heap.size < (wd.alloc (.cells #[uk, uv] 42 (0, 0))).drew.heap.size := (Array.getElem?_eq_some_iff.1 hlit).1
  obtain ⟨v6, w6, hr6, hT6, hb6⟩ := (TabRow.start (w := (wd.alloc (.cells #[uk, uv] 42 (0, 0))).drew) (fun k hk => Nat.lt_of_lt_of_le (hX k hk) hbd.size)).pushL (h1.below hbd) (by simp; omega) 36
  rw [List.nil_append] at hT6
  exact ⟨hbd, v6, w6, hr6, hbd.trans (hb6.mono hbd.size), InsEnd.mk_ hbd ht hX hT6 ((hb6.block _ hlt).trans hlit) sk sv hs (by rw [h1.2.1]; exact hn1) hm⟩
end

end Go.Proofs.YtbhjmplhmoikbaaGreat
