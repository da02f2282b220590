/-
  The document's plain table's Put by contract. Conditions: fewer than 2^32 pairs, texts and values of at most 2^47 bytes.
-/
import Derived.Test.YteogpohhnnjbmaaGreatTabC
namespace Go.Proofs.YteogpohhnnjbmaaGreat
open Go.RowKit Go.Maps
set_option maxRecDepth 100000
set_option linter.unusedVariables false

theorem addr_add (b off j : Nat) : Addr.add ⟨b, off, none⟩ j = ⟨b, off + j, none⟩ := by
  unfold Addr.add
  split <;> simp_all
section
variable {w w' : World} {X X' Y : Nat → Prop} {t base : Nat} {L : TL}
set_option maxHeartbeats 800000 in
/-- append of a slice of pairs of the table's own. -/
theorem TabRow.pushL {wr : World} {u : Value} {l L' : TL} {A : Option Addr} {m c : Nat} (h : TabRow w wr X u l) (hs : SPs w X A m c L') (hn : l.length + m ≤ 4294967296) (ty : TypeId) :
    ∃ v' w6, (Builtin.append_ #[39, 39] ty #[u, .slice A m c]).run Tryz.prog wr = .ok v' w6 ∧ TabRow w w6 X v' (l ++ L') ∧ RowKit.Below w.heap.size wr w6 := by
  obtain ⟨i0, hi, hz0, hz1, hz2⟩ := info_parts info_pairG
  obtain ⟨Y, h1, h2, h3, h4, h5⟩ := h
  obtain ⟨hmc, hml, hp⟩ := hs
  have hg := h1
  obtain ⟨⟨vs, hown, hvs⟩, hown2⟩ := h1
  rw [List.length_map] at hown
  rcases Nat.eq_zero_or_pos m with hm | hm
  · subst hm
    obtain rfl : L' = [] := List.eq_nil_of_length_eq_zero hml
    rw [List.append_nil]
    rcases A with _ | ad
    · exact ⟨u, wr, run_append_none (P := Tryz.prog) (w := wr) w.heap.size 39 ty 69 i0 2 Tryz.underlying39 hi u _ _ hown c, ⟨Y, hg, h2, h3, h4, h5⟩, RowKit.Below.refl _ _⟩
    · obtain ⟨v', w6, hrun, g1, g2, _, g3⟩ := run_append_own_at (P := Tryz.prog) wr w.heap.size 39 ty 69 i0 (.agg #[.slice none 0 0, .slice none 0 0]) 2 48 Tryz.underlying39 hi hz0 hz1 hz2 rfl (by decide) u l.length vs hown ad 0 c [] rfl (fun j x hx => by simp at hx) (fun v hv => by cases hv) (by unfold maxLen; omega) (by omega) h5.size
      rw [Nat.add_zero, List.append_nil] at g1
      have hwk : ∀ k, k < wr.heap.size → ¬ Y k → w6.heap[k]? = wr.heap[k]? := fun k hk hy => g2.block k hk (fun e => hy (hown2 k e.symm))
      have hbb : RowKit.Below w.heap.size wr w6 := (RowKit.Below.refl _ _).grown g2 h5.size (fun k hk => (hg.at_ k hk).1)
      have g1l := gown_at g1
      refine ⟨v', w6, hrun, ⟨fun k => Y k ∨ v'.ownBlock = some k, ⟨⟨vs, by rw [List.length_map]; exact g1, fun i x hx => pairR_kept (hvs i x hx) g2.size (fun k hk hy hh => ?_) hwk⟩, fun r hr => .inr hr⟩, fun k hk => ?_, fun k hk => Or.inl (h3 k hk), fun k hk => ?_, h5.trans hbb⟩, hbb⟩
      · rcases hh with a | a
        · exact hy a
        · rcases g3 with q | q
          · rw [q] at a; exact hy (hown2 k a)
          · rw [q] at a; injection a with a; omega
      · rcases hk with a | a
        · exact h2 k a
        · exact .inr (g1l k a).1
      · rcases hk with a | a
        · exact Nat.lt_of_lt_of_le (h4 k a) g2.size
        · exact (g1l k a).2
  · obtain ⟨b, off, rfl, hbl, hXb, hp⟩ := hp hm
    -- the cells that are appended
    have hcell : ∀ t, t < m * 2 → ∃ A n c, w.cell? ⟨b, off + t, none⟩ = some (.slice A n c) := fun t ht => by
      obtain ⟨x, hx⟩ : ∃ x, L'[t / 2]? = some x := ⟨_, List.getElem?_eq_getElem (by omega)⟩
      obtain ⟨u1, u2, c1, c2, s1, s2⟩ := hp _ x hx
      obtain ⟨A1, n1, k1, e1⟩ := s1.slice
      obtain ⟨A2, n2, k2, e2⟩ := s2.slice
      have : t = t / 2 * 2 ∨ t = t / 2 * 2 + 1 := by omega
      rcases this with q | q
      · exact ⟨A1, n1, k1, by rw [← e1, ← c1]; congr 2; omega⟩
      · exact ⟨A2, n2, k2, by rw [← e2, ← c2]; congr 2; omega⟩
    obtain ⟨us, hus⟩ : ∃ us : List Value, us = (List.range (m * 2)).map fun t => (w.cell? ⟨b, off + t, none⟩).getD (.bool false) := ⟨_, rfl⟩
    have husl : us.length = m * 2 := by rw [hus]; simp
    have husat : ∀ t u, us[t]? = some u → t < m * 2 ∧ w.cell? ⟨b, off + t, none⟩ = some u := fun t u hu => by
      have ht : t < m * 2 := by have := (List.getElem?_eq_some_iff.1 hu).1; omega
      obtain ⟨A1, n1, k1, e⟩ := hcell t ht
      rw [hus, List.getElem?_map, List.getElem?_range ht] at hu
      simp [e] at hu
      rw [← hu]
      exact ⟨ht, e⟩
    have hatus : ∀ t u, t < m * 2 → w.cell? ⟨b, off + t, none⟩ = some u → us[t]? = some u := fun t u ht e => by
      rw [hus, List.getElem?_map, List.getElem?_range ht]
      simp [e]
    obtain ⟨v', w6, hrun, g1, g2, _, g3⟩ := run_append_own_at (P := Tryz.prog) wr w.heap.size 39 ty 69 i0 (.agg #[.slice none 0 0, .slice none 0 0]) 2 48 Tryz.underlying39 hi hz0 hz1 hz2 rfl (by decide) u l.length vs hown ⟨b, off, none⟩ m c us husl (fun j x hx => by
      obtain ⟨hj, e⟩ := husat j x hx
      rw [addr_add]
      exact (h5.cell (p := ⟨b, off + j, none⟩) hbl).trans e) (fun v hv => by
      obtain ⟨j, hj, rfl⟩ := List.getElem_of_mem hv
      obtain ⟨q1, q2⟩ := husat j _ (List.getElem?_eq_getElem hj)
      obtain ⟨A1, n1, k1, e⟩ := hcell j q1
      rw [q2] at e
      injection e with e
      rw [e]; rfl) (by unfold maxLen; omega) (by omega) h5.size
    have hwk : ∀ k, k < wr.heap.size → ¬ Y k → w6.heap[k]? = wr.heap[k]? := fun k hk hy => g2.block k hk (fun e => hy (hown2 k e.symm))
    have hbb : RowKit.Below w.heap.size wr w6 := (RowKit.Below.refl _ _).grown g2 h5.size (fun k hk => (hg.at_ k hk).1)
    have g1l := gown_at g1
    have hvl : vs.length = l.length * 2 := hown.1
    have hYY : ∀ k, k < wr.heap.size → ¬ Y k → ¬ (Y k ∨ v'.ownBlock = some k) := fun k hk hy hh => by
      rcases hh with a | a
      · exact hy a
      · rcases g3 with q | q
        · rw [q] at a; exact hy (hown2 k a)
        · rw [q] at a; injection a with a; omega
    have far : ∀ {u : Value} {d : List Int}, SV w X u d → SV wr Y u d := fun hs => hs.keep h5.size (fun k hk hx hy => by
      rcases h2 k hy with a | a
      · exact hx a
      · omega) (fun k hk _ => h5.block k hk)
    refine ⟨v', w6, hrun, ⟨fun k => Y k ∨ v'.ownBlock = some k, ⟨⟨vs ++ us, by rw [List.length_map, List.length_append, hml]; exact g1, fun i x hx => pairR_kept (w := wr) (Y := Y) ?_ g2.size hYY hwk⟩, fun r hr => .inr hr⟩, fun k hk => ?_, fun k hk => Or.inl (h3 k hk), fun k hk => ?_, h5.trans hbb⟩, hbb⟩
    · rw [List.map_append] at hx
      rcases Nat.lt_or_ge i l.length with hi' | hi'
      · rw [List.getElem?_append_left (by rw [List.length_map]; exact hi')] at hx
        rw [List.drop_append_of_le_length (by omega), List.take_append_of_le_length (by rw [List.length_drop]; omega)]
        exact hvs i x hx
      · rw [List.getElem?_append_right (by rw [List.length_map]; exact hi'), List.length_map, List.getElem?_map] at hx
        obtain ⟨q, hq, rfl⟩ := Option.map_eq_some_iff.1 hx
        obtain ⟨u1, u2, c1, c2, s1, s2⟩ := hp _ q hq
        have hqi : i - l.length < m := by have := (List.getElem?_eq_some_iff.1 hq).1; omega
        have f1 : (vs ++ us)[i * 2]? = some u1 := by
          rw [List.getElem?_append_right (by omega)]
          exact hatus _ _ (by omega) (by rw [← c1]; congr 2; omega)
        have f2 : (vs ++ us)[i * 2 + 1]? = some u2 := by
          rw [List.getElem?_append_right (by omega)]
          exact hatus _ _ (by omega) (by rw [← c2]; congr 2; omega)
        rw [take_two f1 f2]
        exact ⟨u1, u2, rfl, far s1, far s2⟩
    · rcases hk with a | a
      · exact h2 k a
      · exact .inr (g1l k a).1
    · rcases hk with a | a
      · exact Nat.lt_of_lt_of_le (h4 k a) g2.size
      · exact (g1l k a).2
end

end Go.Proofs.YteogpohhnnjbmaaGreat
