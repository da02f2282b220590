/-
  Contracts of the view's changes, Changes, Commit over memory. Conditions: fewer than 32,768 changes, fewer than 2^40 pairs, texts and values of at most 2^47 bytes.
-/
import Derived.Test.YtbhjmplhmoikbaaGreatViewD
import Derived.Lib.AppendZeros
namespace Go.Proofs.YtbhjmplhmoikbaaGreat
open Go.RowKit Go.Maps
set_option maxRecDepth 100000
set_option linter.unusedVariables false

/-- Two lists under way: of pairs, and of texts, in rows of their own from block base on. -/
def ChRows (w : World) (base : Nat) (pv dv : Value) (P : List KV) (T : List (List Int)) : Prop :=
  ∃ Y : Nat → Prop, GRow PairR 42 2 w Y base pv P ∧ GRow TextR 32 1 w Y base dv T ∧ (∀ k, Y k → k < w.heap.size) ∧ ∀ r, pv.ownBlock = some r → dv.ownBlock ≠ some r
section
variable {w w' : World} {base : Nat} {pv dv : Value} {P : List KV} {T : List (List Int)}
theorem ChRows.start (w : World) (base : Nat) : ChRows w base (.slice none 0 0) (.slice none 0 0) [] [] :=
  ⟨fun _ => False, GRow.start _ _ _, GRow.start _ _ _, fun k h => h.elim, fun r h => by simp [Value.ownBlock] at h⟩
theorem ChRows.below (h : ChRows w base pv dv P T) (hb : Below w.heap.size w w') : ChRows w' base pv dv P T := by
  obtain ⟨Y, h1, h2, h3, h4⟩ := h
  exact ⟨Y, h1.below @pairR_kept hb, h2.below @textR_kept hb, fun k hk => Nat.lt_of_lt_of_le (h3 k hk) hb.size, h4⟩
theorem ChRows.shapes (h : ChRows w base pv dv P T) : ∃ A c A' c', pv = .slice A P.length c ∧ dv = .slice A' T.length c' := by
  obtain ⟨Y, h1, h2, _⟩ := h
  obtain ⟨A, c, e, _⟩ := h1.shape
  obtain ⟨A', c', e', _⟩ := h2.shape
  exact ⟨A, c, A', c', e, e'⟩
theorem ChRows.own_ge (h : ChRows w base pv dv P T) : (∀ r, pv.ownBlock = some r → base ≤ r) ∧ ∀ r, dv.ownBlock = some r → base ≤ r := by
  obtain ⟨Y, h1, h2, _⟩ := h
  exact ⟨fun r hr => (h1.at_ r hr).1, fun r hr => (h2.at_ r hr).1⟩
/-- One pair more, its cells in block b, its slices new since W. -/
theorem ChRows.pushP {W : World} {u1 u2 : Value} {x : KV} {b : Nat} {TT : TypeId} (h : ChRows W base pv dv P T) (hW : Below W.heap.size W w) (hu1 : SV w (fun k => k < W.heap.size) u1 x.1) (hu2 : SV w (fun k => k < W.heap.size) u2 x.2) (hb : w.heap[b]? = some (.cells #[u1, u2] TT)) (hn : P.length ≤ 4294967296) (hbase : base ≤ w.heap.size) (ty : TypeId) :
    ∃ v' w', (Builtin.append_ #[36, 36] ty #[pv, .slice (some ⟨b, 0, none⟩) 1 1]).run Tryz.prog w = .ok v' w' ∧ ChRows w' base v' dv (P ++ [x]) T ∧ Below base w w' := by
  obtain ⟨Y, h1, h2, h3, h4⟩ := h
  have h1' := h1.below @pairR_kept hW
  have h2' := h2.below @textR_kept hW
  obtain ⟨v', w', hrun, g1, g2, g3, _⟩ := h1'.append_pair (hu1.far fun k hk => h3 k hk) (hu2.far fun k hk => h3 k hk) hb hn hbase ty
  refine ⟨v', w', hrun, ⟨_, g1, h2'.keep @textR_kept g2.size (fun k hk hy hh => ?_) (fun k hk hy => g2.block k hk fun e => hy (h1.own k e.symm)) (fun r hr => ⟨g2.block r (h2'.at_ r hr).2 (fun e => h4 r e.symm hr), .inl (h2.own r hr)⟩), fun k hk => ?_, fun r hr hd => ?_⟩, ?_⟩
  · rcases hh with a | a
    · exact hy a
    · rcases g3 with q | q
      · rw [q] at a; exact hy (h1.own k a)
      · rw [q] at a; injection a with a; omega
  · rcases hk with a | a
    · exact Nat.lt_of_lt_of_le (h3 k a) (Nat.le_trans hW.size g2.size)
    · exact (g1.at_ k a).2
  · rcases g3 with q | q
    · rw [q] at hr; exact h4 r hr hd
    · rw [q] at hr
      injection hr with hr
      have := (h2'.at_ r hd).2
      omega
  · exact (Below.refl base w).grown g2 hbase (fun k hk => (h1.at_ k hk).1)
theorem ChRows.pushT {W : World} {u1 : Value} {x : List Int} {b : Nat} {TT : TypeId} (h : ChRows W base pv dv P T) (hW : Below W.heap.size W w) (hu1 : SV w (fun k => k < W.heap.size) u1 x) (hb : w.heap[b]? = some (.cells #[u1] TT)) (hn : T.length ≤ 4294967296) (hbase : base ≤ w.heap.size) (ty : TypeId) :
    ∃ v' w', (Builtin.append_ #[241, 241] ty #[dv, .slice (some ⟨b, 0, none⟩) 1 1]).run Tryz.prog w = .ok v' w' ∧ ChRows w' base pv v' P (T ++ [x]) ∧ Below base w w' := by
  obtain ⟨Y, h1, h2, h3, h4⟩ := h
  have h1' := h1.below @pairR_kept hW
  have h2' := h2.below @textR_kept hW
  obtain ⟨v', w', hrun, g1, g2, g3, _⟩ := h2'.append_text (hu1.far fun k hk => h3 k hk) hb hn hbase ty
  refine ⟨v', w', hrun, ⟨_, h1'.keep @pairR_kept g2.size (fun k hk hy hh => ?_) (fun k hk hy => g2.block k hk fun e => hy (h2.own k e.symm)) (fun r hr => ⟨g2.block r (h1'.at_ r hr).2 (fun e => h4 r hr e.symm), .inl (h1.own r hr)⟩), g1, fun k hk => ?_, fun r hr hd => ?_⟩, ?_⟩
  · rcases hh with a | a
    · exact hy a
    · rcases g3 with q | q
      · rw [q] at a; exact hy (h2.own k a)
      · rw [q] at a; injection a with a; omega
  · rcases hk with a | a
    · exact Nat.lt_of_lt_of_le (h3 k a) (Nat.le_trans hW.size g2.size)
    · exact (g1.at_ k a).2
  · rcases g3 with q | q
    · rw [q] at hd; exact h4 r hr hd
    · rw [q] at hd
      injection hd with hd
      have := (h1'.at_ r hr).2
      omega
  · exact (Below.refl base w).grown g2 hbase (fun k hk => (h2.at_ k hk).1)
/-- How they are read at the end. -/
theorem ChRows.read {A A' : Option Addr} {n c n' c' : Nat} (h : ChRows w base (.slice A n c) (.slice A' n' c') P T) : n = P.length ∧ n ≤ c ∧ RPairs w w.heap.size A n P ∧ n' = T.length ∧ n' ≤ c' ∧ RTexts w w.heap.size A' n' T := by
  obtain ⟨Y, h1, h2, _⟩ := h
  obtain ⟨a1, a2, a3⟩ := h1.pairs
  obtain ⟨b1, b2, b3⟩ := h2.texts
  exact ⟨a1, a2, a3, b1, b2, b3⟩
end

theorem fm_step {α β : Type} {f : α → Option β} {L : List α} {j : Nat} {p : α} (h : L[j]? = some p) : (L.take (j + 1)).filterMap f = (L.take j).filterMap f ++ (f p).toList := by
  obtain ⟨hi, rfl⟩ := List.getElem?_eq_some_iff.1 h
  rw [List.take_succ_eq_append_getElem hi, List.filterMap_append]
  congr 1

section
variable {w w' : World} {X : Nat → Prop} {v m c : Nat} {S : VS}

/-- The pairs, and the texts, of the first j changes. -/
def putsN (S : VS) (j : Nat) : List KV := ((S.C.take j).filterMap (VS.putsF S.W)).map kvOf
def delsN (S : VS) (j : Nat) : List (List Int) := ((S.C.take j).filterMap (VS.delsF S.W)).map by_
theorem putsN_len (S : VS) (j : Nat) : (putsN S j).length ≤ j := by
  unfold putsN
  rw [List.length_map]
  exact Nat.le_trans (List.length_filterMap_le _ _) (by rw [List.length_take]; exact Nat.min_le_left _ _)
theorem delsN_len (S : VS) (j : Nat) : (delsN S j).length ≤ j := by
  unfold delsN
  rw [List.length_map]
  exact Nat.le_trans (List.length_filterMap_le _ _) (by rw [List.length_take]; exact Nat.min_le_left _ _)

theorem putsN_step {S : VS} {j : Nat} {p : Txt × Option (List Int)} (hp : S.C[j]? = some p) : putsN S (j + 1) = putsN S j ++ (VS.putsF S.W p).toList.map kvOf := by
  unfold putsN
  rw [fm_step hp, List.map_append]
theorem delsN_step {S : VS} {j : Nat} {p : Txt × Option (List Int)} (hp : S.C[j]? = some p) : delsN S (j + 1) = delsN S j ++ (VS.delsF S.W p).toList.map by_ := by
  unfold delsN
  rw [fm_step hp, List.map_append]
theorem putsF_some {W : TL} {p : Txt × Option (List Int)} {val : List Int} (hc : p.2 = some val) : VS.putsF W p = if lookT W p.1 = some val then none else some (p.1, val) := by
  unfold VS.putsF
  rw [hc]
theorem putsF_none {W : TL} {p : Txt × Option (List Int)} (hc : p.2 = none) : VS.putsF W p = none := by
  unfold VS.putsF
  rw [hc]
theorem delsF_some {W : TL} {p : Txt × Option (List Int)} {val : List Int} (hc : p.2 = some val) : VS.delsF W p = none := by
  unfold VS.delsF
  rw [hc]
theorem delsF_none {W : TL} {p : Txt × Option (List Int)} (hc : p.2 = none) : VS.delsF W p = if (lookT W p.1).isSome then some p.1 else none := by
  unfold VS.delsF
  rw [hc]

end

end Go.Proofs.YtbhjmplhmoikbaaGreat
