/-
  The texts ViewD, ViewE joined. Conditions: those that each part says at its head.
-/
import Derived.Test.YtihjlhegcoceoaaGreatViewC
import Derived.Test.YtihjlhegcoceoaaGreatGRow
import Derived.Test.YtihjlhegcoceoaaGreatViewK
import Derived.Lib.ConvBytes
import Derived.Lib.AppendZeros

/-
  Contracts of the view's pairOf, and of the memory's Write. Conditions: texts and values of at most 2^47 bytes; fewer than 2^47 pairs.
-/
namespace Go.Proofs.YtihjlhegcoceoaaGreat
open Go.RowKit Go.Maps
set_option maxRecDepth 100000
set_option linter.unusedVariables false

/-- A text's bytes, in new memory. -/
theorem conv_txt (w : World) (x : Txt) (hx : x.length ≤ 140737488355328) : ∃ u w', (convert 9 54 (encStr x)).run Tryz.prog w = .ok u w' ∧ SV w' (fun k => k < w.heap.size) u (by_ x) ∧ Below w.heap.size w w' := by
  have hrun := Lib.run_convert_string_bytes (P := Tryz.prog) w 9 54 5 ⟨x.toArray⟩ Tryz.underlying9 Tryz.underlying54 Tryz.underlying5
  have hsz : (ByteArray.mk x.toArray).size = x.length := by simp [ByteArray.size]
  have hge := grownCap_ge w x.length 0 5
  rw [hsz] at hrun
  refine ⟨_, _, hrun, ⟨_, _, _, rfl, hge, hx, ⟨by rw [by_length], by_bytes x, fun hn => ⟨w.heap.size, 0, rfl, by rw [Lib.bytesWorld_size]; omega, fun j hj => ?_⟩⟩, fun a ha hn hlt => ?_⟩, ⟨rfl, rfl, rfl, by rw [Lib.bytesWorld_size]; omega, fun k hk => Lib.bytesWorld_at_old _ _ _ _ hk⟩⟩
  · rw [Nat.zero_add, Lib.bytesWorld_cell _ _ _ _ (by rw [hsz]; exact hj)]
    unfold by_
    rw [List.getElem?_map, List.getElem?_eq_getElem hj]
    simp [List.getD, hj]
  · cases ha
    exact absurd hlt (Nat.lt_irrefl _)

theorem piece_cells2 {w : World} {b : Nat} {x0 x1 : Value} (z0 z1 : Value) (h0 : w.cell? ⟨b, 0, none⟩ = some x0) (h1 : w.cell? ⟨b, 1, none⟩ = some x1) : ((w.setCell ⟨b, 0, none⟩ z0).setCell ⟨b, 1, none⟩ z1).cell? ⟨b, 0, none⟩ = some z0 ∧ ((w.setCell ⟨b, 0, none⟩ z0).setCell ⟨b, 1, none⟩ z1).cell? ⟨b, 1, none⟩ = some z1 := by
  refine ⟨?_, World.cell?_setCell_same' _ _ _ ?_⟩
  · rw [World.cell?_setCell_other _ _ _ _ (by simp)]
    exact World.cell?_setCell_same' _ _ _ (by rw [h0]; rfl)
  · rw [World.cell?_setCell_other _ _ _ _ (by simp), h1]; rfl

section
variable {w w' : World} {X : Nat → Prop} {v m c : Nat} {S : VS}
set_option maxHeartbeats 800000 in
theorem pairOf_any (w : World) (x : Txt) (hx : x.length ≤ 140737488355328) {A : Option Addr} {n k B : Nat} {l : List Int} (hr : RB w B A n l) (hB : B ≤ w.heap.size) (hn : n ≤ 140737488355328) :
    Calls Tryz.prog 20 #[encStr x, .slice A n k] w fun e w' => ∃ u1 u2, e = .returned (.agg #[u1, u2]) ∧ SV w' (fun k => k < w.heap.size) u1 (by_ x) ∧ SV w' (fun k => k < w.heap.size) u2 l ∧ Below w.heap.size w w' := by
  obtain ⟨w1, hw1⟩ : ∃ w1, w1 = w.alloc (.cells #[.slice none 0 0, .slice none 0 0] 61 (0, 0)) := ⟨_, rfl⟩
  have hb1 : Below w.heap.size w w1 := by rw [hw1]; exact (Below.refl _ w).alloc (Nat.le_refl _) _
  have hs1 : w1.heap.size = w.heap.size + 1 := by rw [hw1]; simp
  have hbk1 : w1.heap[w.heap.size]? = some (.cells #[.slice none 0 0, .slice none 0 0] 61 (0, 0)) := by rw [hw1]; exact heap_alloc_new _ _
  obtain ⟨u1, w2, hconv, hsv1, hb2⟩ := conv_txt w1 x hx
  have hbk2 := (hb2.block w.heap.size (by omega)).trans hbk1
  have hb02 := hb1.trans (hb2.mono hb1.size)
  have HC := Lib.hid (SCloneN_any (w := w2) k (hr.below (hb02.mono hB)) (by have := hb2.size; omega) hn)
  have HS1 := Lib.hid hsv1
  obtain ⟨A1, n1, k1, rfl, _⟩ := hsv1
  have HB := Lib.hid hb02
  have HK := Lib.hid (And.intro hbk2 (And.intro hs1 hb2.size))
  generalize hst : encStr x = st at hconv ⊢
  rw [hw1] at hconv
  clear hbk1 hbk2 hb1 hb2 hb02 hs1 hr hst
  go_enter Tryz.func20, Tryz.ntmps20
  go_wp2_with fail
  refine HC.out.mono ?_
  rintro e w3 ⟨u2, rfl, hs2, hb3⟩
  obtain ⟨hk2, hz1, hz2⟩ := HK.out
  have hk3 := (hb3.block w.heap.size (by omega)).trans hk2
  have c0 : w3.cell? ⟨w.heap.size, 0, none⟩ = some (.slice none 0 0) := by rw [cell_of_row w3 _ 0 _ _ (0, 0) hk3]; rfl
  have c1 : w3.cell? ⟨w.heap.size, 1, none⟩ = some (.slice none 0 0) := by rw [cell_of_row w3 _ 1 _ _ (0, 0) hk3]; rfl
  have f0 : w3.frozen? ⟨w.heap.size, 0, none⟩ = false := by simp [World.frozen?, hk3]
  have f1 : w3.frozen? ⟨w.heap.size, 1, none⟩ = false := by simp [World.frozen?, hk3]
  have HS2 := Lib.hid hs2
  obtain ⟨A2, n2, k2, rfl, _⟩ := hs2
  have HB3 := Lib.hid hb3
  have HZ := Lib.hid (And.intro hz1 hz2)
  clear hk2 hz1 hz2 hk3 hb3
  go_wp2_with fail
  obtain ⟨d0, d1⟩ := piece_cells2 (.slice A1 n1 k1) (.slice A2 n2 k2) c0 c1
  refine bodyPost_ret (v := .agg #[.slice A1 n1 k1, .slice A2 n2 k2]) (by
    generalize ((w3.setCell ⟨w.heap.size, 0, none⟩ (Value.slice A1 n1 k1)).setCell ⟨w.heap.size, 1, none⟩ (Value.slice A2 n2 k2)) = X at *
    simp [results, Tryz.results20, go_sem, d0, d1]) rfl ?_
  obtain ⟨hz1, hz2⟩ := HZ.out
  have hbs : Below w.heap.size w3 ((w3.setCell ⟨w.heap.size, 0, none⟩ (Value.slice A1 n1 k1)).setCell ⟨w.heap.size, 1, none⟩ (Value.slice A2 n2 k2)) := Below.setCell (p := ⟨w.heap.size, 1, none⟩) (Below.setCell (p := ⟨w.heap.size, 0, none⟩) (Below.refl _ _) (Nat.le_refl _) _) (Nat.le_refl _) _
  have hkeep : ∀ {u : Value} {d : List Int}, SV w3 (fun k => k < w1.heap.size) u d → SV ((w3.setCell ⟨w.heap.size, 0, none⟩ (Value.slice A1 n1 k1)).setCell ⟨w.heap.size, 1, none⟩ (Value.slice A2 n2 k2)) (fun k => k < w.heap.size) u d := fun h => (h.keep (X' := fun k => k < w1.heap.size) hbs.size (fun _ _ h => h) (fun k hk hn => by
    rw [Below.heap_setCell _ _ _ _ (by simp; omega), Below.heap_setCell _ _ _ _ (by simp; omega)])).far (fun k hk => by omega)
  refine ⟨_, _, rfl, hkeep (HS1.out.keep HB3.out.size (fun _ _ h => h) (fun k hk _ => HB3.out.block k hk)), hkeep (HS2.out.far fun k hk => by omega), (HB.out.trans (HB3.out.mono HB.out.size)).trans hbs⟩

theorem MapL.cellsKept {β : Type} {R : World → (Nat → Prop) → Value → β → Prop} {X X' : Nat → Prop} {b : Nat} {L L' : List (Txt × β)} (h : MapL R w X b L) (h' : MapL R w' X' b L') (ht : Touch (fun k => k = b) w w') : ∀ p o, p < w.heap.size → w'.cell? ⟨p, o, none⟩ = w.cell? ⟨p, o, none⟩ := by
  intro p o hp
  by_cases e : p = b
  · rw [e, h.noCell, h'.noCell]
  · exact World.cell?_of_block (a := ⟨p, o, none⟩) (ht.block p hp e)
theorem written_take (W ps : TL) (ds : List Txt) : VS.written W ps ds = (ps.take ps.length).foldl (fun L p => setT L p.1 p.2) ((ds.take ds.length).foldl delT W) := by rw [List.take_length, List.take_length]; rfl
theorem dels_step {W : TL} {ds : List Txt} {i : Nat} {x : Txt} (h : ds[i]? = some x) : (ds.take (i + 1)).foldl delT W = delT ((ds.take i).foldl delT W) x := by
  obtain ⟨hi, rfl⟩ := List.getElem?_eq_some_iff.1 h
  rw [List.take_succ_eq_append_getElem hi, List.foldl_append]
  rfl
theorem puts_step {W ps : TL} {i : Nat} {x : Txt × List Int} (h : ps[i]? = some x) : (ps.take (i + 1)).foldl (fun L p => setT L p.1 p.2) W = setT ((ps.take i).foldl (fun L p => setT L p.1 p.2) W) x.1 x.2 := by
  obtain ⟨hi, rfl⟩ := List.getElem?_eq_some_iff.1 h
  rw [List.take_succ_eq_append_getElem hi, List.foldl_append]
  rfl
theorem dels_rise : ∀ (ds : List Txt) {W : TL}, RiseT W → RiseT (ds.foldl delT W) ∧ (ds.foldl delT W).length ≤ W.length
  | [], W, h => ⟨h, Nat.le_refl _⟩
  | d :: ds, W, h => by
    have ih := dels_rise ds (h.del d)
    exact ⟨ih.1, Nat.le_trans ih.2 (delT_len _ _)⟩
theorem puts_rise : ∀ (ps : TL) {W : TL}, RiseT W → RiseT (ps.foldl (fun L p => setT L p.1 p.2) W) ∧ (ps.foldl (fun L p => setT L p.1 p.2) W).length ≤ W.length + ps.length
  | [], W, h => ⟨h, Nat.le_refl _⟩
  | d :: ds, W, h => by
    have ih := puts_rise ds (h.set d.1 d.2)
    refine ⟨ih.1, Nat.le_trans ih.2 ?_⟩
    have := setT_len W d.1 d.2
    simp
    omega

end

end Go.Proofs.YtihjlhegcoceoaaGreat

/-
  Contracts of the view's changes, Changes, Commit over memory. Conditions: fewer than 32,768 changes, fewer than 2^40 pairs, texts and values of at most 2^47 bytes.
-/
namespace Go.Proofs.YtihjlhegcoceoaaGreat
open Go.RowKit Go.Maps
set_option maxRecDepth 100000
set_option linter.unusedVariables false

/-- Two lists under way: of pairs, and of texts, in rows of their own from block base on. -/
def ChRows (w : World) (base : Nat) (pv dv : Value) (P : List KV) (T : List (List Int)) : Prop :=
  ∃ Y : Nat → Prop, GRow PairR 61 2 w Y base pv P ∧ GRow TextR 54 1 w Y base dv T ∧ (∀ k, Y k → k < w.heap.size) ∧ ∀ r, pv.ownBlock = some r → dv.ownBlock ≠ some r
section
variable {w w' : World} {base : Nat} {pv dv : Value} {P : List KV} {T : List (List Int)}
theorem ChRows.start (w : World) (base : Nat) : ChRows w base (.slice none 0 0) (.slice none 0 0) [] [] :=
  ⟨fun _ => False, GRow.start _ _ _, GRow.start _ _ _, fun k h => h.elim, fun r h => by simp [Value.ownBlock] at h⟩
theorem ChRows.below (h : ChRows w base pv dv P T) (hb : Below w.heap.size w w') : ChRows w' base pv dv P T := by
  obtain ⟨Y, h1, h2, h3, h4⟩ := h
  exact ⟨Y, h1.below @pairR_kept hb, h2.below @textR_kept hb, fun k hk => Nat.lt_of_lt_of_le (h3 k hk) hb.size, h4⟩
theorem ChRows.shapes (h : ChRows w base pv dv P T) : ∃ A c A' c', pv = .slice A P.length c ∧ dv = .slice A' T.length c' := by
  obtain ⟨Y, h1, h2, _⟩ := h
  obtain ⟨A, c, e, _⟩ := h1.shape
  obtain ⟨A', c', e', _⟩ := h2.shape
  exact ⟨A, c, A', c', e, e'⟩
theorem ChRows.own_ge (h : ChRows w base pv dv P T) : (∀ r, pv.ownBlock = some r → base ≤ r) ∧ ∀ r, dv.ownBlock = some r → base ≤ r := by
  obtain ⟨Y, h1, h2, _⟩ := h
  exact ⟨fun r hr => (h1.at_ r hr).1, fun r hr => (h2.at_ r hr).1⟩
/-- One pair more, its cells in block b, its slices new since W. -/
theorem ChRows.pushP {W : World} {u1 u2 : Value} {x : KV} {b : Nat} {TT : TypeId} (h : ChRows W base pv dv P T) (hW : Below W.heap.size W w) (hu1 : SV w (fun k => k < W.heap.size) u1 x.1) (hu2 : SV w (fun k => k < W.heap.size) u2 x.2) (hb : w.heap[b]? = some (.cells #[u1, u2] TT)) (hn : P.length ≤ 4294967296) (hbase : base ≤ w.heap.size) (ty : TypeId) :
    ∃ v' w', (Builtin.append_ #[33, 33] ty #[pv, .slice (some ⟨b, 0, none⟩) 1 1]).run Tryz.prog w = .ok v' w' ∧ ChRows w' base v' dv (P ++ [x]) T ∧ Below base w w' := by
  obtain ⟨Y, h1, h2, h3, h4⟩ := h
  have h1' := h1.below @pairR_kept hW
  have h2' := h2.below @textR_kept hW
  obtain ⟨v', w', hrun, g1, g2, g3, _⟩ := h1'.append_pair (hu1.far fun k hk => h3 k hk) (hu2.far fun k hk => h3 k hk) hb hn hbase ty
  refine ⟨v', w', hrun, ⟨_, g1, h2'.keep @textR_kept g2.size (fun k hk hy hh => ?_) (fun k hk hy => g2.block k hk fun e => hy (h1.own k e.symm)) (fun r hr => ⟨g2.block r (h2'.at_ r hr).2 (fun e => h4 r e.symm hr), .inl (h2.own r hr)⟩), fun k hk => ?_, fun r hr hd => ?_⟩, ?_⟩
  · rcases hh with a | a
    · exact hy a
    · rcases g3 with q | q
      · rw [q] at a; exact hy (h1.own k a)
      · rw [q] at a; injection a with a; omega
  · rcases hk with a | a
    · exact Nat.lt_of_lt_of_le (h3 k a) (Nat.le_trans hW.size g2.size)
    · exact (g1.at_ k a).2
  · rcases g3 with q | q
    · rw [q] at hr; exact h4 r hr hd
    · rw [q] at hr
      injection hr with hr
      have := (h2'.at_ r hd).2
      omega
  · exact (Below.refl base w).grown g2 hbase (fun k hk => (h1.at_ k hk).1)
theorem ChRows.pushT {W : World} {u1 : Value} {x : List Int} {b : Nat} {TT : TypeId} (h : ChRows W base pv dv P T) (hW : Below W.heap.size W w) (hu1 : SV w (fun k => k < W.heap.size) u1 x) (hb : w.heap[b]? = some (.cells #[u1] TT)) (hn : T.length ≤ 4294967296) (hbase : base ≤ w.heap.size) (ty : TypeId) :
    ∃ v' w', (Builtin.append_ #[196, 196] ty #[dv, .slice (some ⟨b, 0, none⟩) 1 1]).run Tryz.prog w = .ok v' w' ∧ ChRows w' base pv v' P (T ++ [x]) ∧ Below base w w' := by
  obtain ⟨Y, h1, h2, h3, h4⟩ := h
  have h1' := h1.below @pairR_kept hW
  have h2' := h2.below @textR_kept hW
  obtain ⟨v', w', hrun, g1, g2, g3, _⟩ := h2'.append_text (hu1.far fun k hk => h3 k hk) hb hn hbase ty
  refine ⟨v', w', hrun, ⟨_, h1'.keep @pairR_kept g2.size (fun k hk hy hh => ?_) (fun k hk hy => g2.block k hk fun e => hy (h2.own k e.symm)) (fun r hr => ⟨g2.block r (h1'.at_ r hr).2 (fun e => h4 r hr e.symm), .inl (h1.own r hr)⟩), g1, fun k hk => ?_, fun r hr hd => ?_⟩, ?_⟩
  · rcases hh with a | a
    · exact hy a
    · rcases g3 with q | q
      · rw [q] at a; exact hy (h2.own k a)
      · rw [q] at a; injection a with a; omega
  · rcases hk with a | a
    · exact Nat.lt_of_lt_of_le (h3 k a) (Nat.le_trans hW.size g2.size)
    · exact (g1.at_ k a).2
  · rcases g3 with q | q
    · rw [q] at hd; exact h4 r hr hd
    · rw [q] at hd
      injection hd with hd
      have := (h1'.at_ r hr).2
      omega
  · exact (Below.refl base w).grown g2 hbase (fun k hk => (h2.at_ k hk).1)
/-- How they are read at the end. -/
theorem ChRows.read {A A' : Option Addr} {n c n' c' : Nat} (h : ChRows w base (.slice A n c) (.slice A' n' c') P T) : n = P.length ∧ n ≤ c ∧ RPairs w w.heap.size A n P ∧ n' = T.length ∧ n' ≤ c' ∧ RTexts w w.heap.size A' n' T := by
  obtain ⟨Y, h1, h2, _⟩ := h
  obtain ⟨a1, a2, a3⟩ := h1.pairs
  obtain ⟨b1, b2, b3⟩ := h2.texts
  exact ⟨a1, a2, a3, b1, b2, b3⟩
end

theorem fm_step {α β : Type} {f : α → Option β} {L : List α} {j : Nat} {p : α} (h : L[j]? = some p) : (L.take (j + 1)).filterMap f = (L.take j).filterMap f ++ (f p).toList := by
  obtain ⟨hi, rfl⟩ := List.getElem?_eq_some_iff.1 h
  rw [List.take_succ_eq_append_getElem hi, List.filterMap_append]
  congr 1

section
variable {w w' : World} {X : Nat → Prop} {v m c : Nat} {S : VS}

/-- The pairs, and the texts, of the first j changes. -/
def putsN (S : VS) (j : Nat) : List KV := ((S.C.take j).filterMap (VS.putsF S.W)).map kvOf
def delsN (S : VS) (j : Nat) : List (List Int) := ((S.C.take j).filterMap (VS.delsF S.W)).map by_
theorem putsN_len (S : VS) (j : Nat) : (putsN S j).length ≤ j := by
  unfold putsN
  rw [List.length_map]
  exact Nat.le_trans (List.length_filterMap_le _ _) (by rw [List.length_take]; exact Nat.min_le_left _ _)
theorem delsN_len (S : VS) (j : Nat) : (delsN S j).length ≤ j := by
  unfold delsN
  rw [List.length_map]
  exact Nat.le_trans (List.length_filterMap_le _ _) (by rw [List.length_take]; exact Nat.min_le_left _ _)

theorem putsN_step {S : VS} {j : Nat} {p : Txt × Option (List Int)} (hp : S.C[j]? = some p) : putsN S (j + 1) = putsN S j ++ (VS.putsF S.W p).toList.map kvOf := by
  unfold putsN
  rw [fm_step hp, List.map_append]
theorem delsN_step {S : VS} {j : Nat} {p : Txt × Option (List Int)} (hp : S.C[j]? = some p) : delsN S (j + 1) = delsN S j ++ (VS.delsF S.W p).toList.map by_ := by
  unfold delsN
  rw [fm_step hp, List.map_append]
theorem putsF_some {W : TL} {p : Txt × Option (List Int)} {val : List Int} (hc : p.2 = some val) : VS.putsF W p = if lookT W p.1 = some val then none else some (p.1, val) := by
  unfold VS.putsF
  rw [hc]
theorem putsF_none {W : TL} {p : Txt × Option (List Int)} (hc : p.2 = none) : VS.putsF W p = none := by
  unfold VS.putsF
  rw [hc]
theorem delsF_some {W : TL} {p : Txt × Option (List Int)} {val : List Int} (hc : p.2 = some val) : VS.delsF W p = none := by
  unfold VS.delsF
  rw [hc]
theorem delsF_none {W : TL} {p : Txt × Option (List Int)} (hc : p.2 = none) : VS.delsF W p = if (lookT W p.1).isSome then some p.1 else none := by
  unfold VS.delsF
  rw [hc]

end

end Go.Proofs.YtihjlhegcoceoaaGreat
