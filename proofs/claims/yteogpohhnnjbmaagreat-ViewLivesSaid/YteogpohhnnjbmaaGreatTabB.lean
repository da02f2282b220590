/-
  The document's plain table's Delete and Scan by contract. Conditions: fewer than 2^32 pairs, texts and values of at most 2^47 bytes.
-/
import Derived.Test.YteogpohhnnjbmaaGreatTabA
namespace Go.Proofs.YteogpohhnnjbmaaGreat
open Go.RowKit Go.Maps
set_option maxRecDepth 100000
set_option linter.unusedVariables false

/-- The cells of a pair of texts and values. -/
def PairT (w : World) (Y : Nat → Prop) (us : List Value) (x : Txt × List Int) : Prop := PairR w Y us (kvOf x)
theorem pairT_kept : KeptL PairT := fun h hs hY hk => pairR_kept h hs hY hk
section
variable {w w' : World} {X X' Y : Nat → Prop} {t base : Nat} {L : TL}
/-- A row that a call built, read as a slice of pairs. -/
theorem GRow.sps {A : Option Addr} {n c : Nat} {l : TL} (h : GRow PairR 69 2 w Y base (.slice A n c) (l.map kvOf)) (hX : ∀ k, X k → Y k ∨ w.heap.size ≤ k) (hA : ∀ b, X b → b < base ∨ w.heap.size ≤ b) : SPs w X A n c l := by
  obtain ⟨vs, h1, h2⟩ := h.row
  rw [List.length_map] at h1
  rcases h1.2 with ⟨e, h0⟩ | ⟨g, cap, cur, e, hb, hg, hc, _, _, htake⟩
  · injection e with e1 e2 e3
    subst e2 e3
    exact ⟨Nat.le_refl _, h0, fun hn => absurd hn (by omega)⟩
  · injection e with e1 e2 e3
    subst e1 e2 e3
    have hgl : g < w.heap.size := (Array.getElem?_eq_some_iff.1 hg).1
    refine ⟨hc, rfl, fun hn => ⟨g, 0, rfl, hgl, fun hx => by rcases hA g hx with a | a <;> omega, fun j x hj => ?_⟩⟩
    have hjl := (List.getElem?_eq_some_iff.1 hj).1
    obtain ⟨u1, u2, e3, s1, s2⟩ := h2 j (kvOf x) (by rw [List.getElem?_map, hj]; rfl)
    have far : ∀ {u : Value} {d : List Int}, SV w Y u d → SV w X u d := fun hs => by
      obtain ⟨A, n, c, rfl, a1, a2, a3, a4⟩ := hs
      refine ⟨A, n, c, rfl, a1, a2, a3, fun a ha hn hx => ?_⟩
      rcases hX _ hx with q | q
      · exact a4 a ha hn q
      · obtain ⟨bb, o, e, hbb, _⟩ := a3.2.2 hn
        rw [ha] at e
        cases e
        exact absurd hbb (Nat.not_lt.2 q)
    refine ⟨u1, u2, ?_, ?_, far s1, far s2⟩
    · have g1 : vs[j * 2]? = some u1 := by
        have : ((vs.drop (j * 2)).take 2)[0]? = some u1 := by rw [e3]; rfl
        rw [List.getElem?_take, if_pos (by decide), List.getElem?_drop] at this
        simpa using this
      rw [Nat.zero_add, cell_of_row w g (j * 2) cur _ (0, 0) hg, ← g1, ← htake, List.getElem?_take, if_pos (by omega)]
      simp
    · have g1 : vs[j * 2 + 1]? = some u2 := by
        have : ((vs.drop (j * 2)).take 2)[1]? = some u2 := by rw [e3]; rfl
        rw [List.getElem?_take, if_pos (by decide), List.getElem?_drop] at this
        simpa using this
      rw [Nat.zero_add, cell_of_row w g (j * 2 + 1) cur _ (0, 0) hg, ← g1, ← htake, List.getElem?_take, if_pos (by omega)]
      simp

theorem below_drewN {B : Nat} (h : RowKit.Below B w w') (q : Nat) : RowKit.Below B w (w'.drewN q) := ⟨h.os, h.tape, h.output, h.size, h.block⟩
/-- A list of pairs that a call of the table builds: its pairs are the table's own. -/
def TabRow (w wr : World) (X : Nat → Prop) (u : Value) (l : TL) : Prop :=
  ∃ Y : Nat → Prop, GRow PairR 69 2 wr Y w.heap.size u (l.map kvOf) ∧ (∀ k, Y k → X k ∨ w.heap.size ≤ k) ∧ (∀ k, X k → Y k) ∧ (∀ k, Y k → k < wr.heap.size) ∧ RowKit.Below w.heap.size w wr
theorem TabRow.start (hX : ∀ k, X k → k < w.heap.size) : TabRow w w X (.slice none 0 0) [] := ⟨X, GRow.start _ _ _, fun k hk => .inl hk, fun k hk => hk, hX, RowKit.Below.refl _ _⟩
theorem TabRow.below {wr wr' : World} {u : Value} {l : TL} (h : TabRow w wr X u l) (hb : RowKit.Below wr.heap.size wr wr') : TabRow w wr' X u l := by
  obtain ⟨Y, h1, h2, h3, h4, h5⟩ := h
  exact ⟨Y, h1.below @pairR_kept hb, h2, h3, fun k hk => Nat.lt_of_lt_of_le (h4 k hk) hb.size, h5.trans (hb.mono h5.size)⟩
theorem TabRow.shape {wr : World} {u : Value} {l : TL} (h : TabRow w wr X u l) : ∃ A c, u = .slice A l.length c := by
  obtain ⟨Y, h1, _⟩ := h
  obtain ⟨A, c, e, _⟩ := h1.shape
  rw [List.length_map] at e
  exact ⟨A, c, e⟩
theorem TabRow.push {wr : World} {u u1 u2 : Value} {l : TL} {x : Txt × List Int} (h : TabRow w wr X u l) (s1 : SV w X u1 (by_ x.1)) (s2 : SV w X u2 x.2) (hn : l.length ≤ 4294967296) (ty : TypeId) :
    ∃ v' w6, (Builtin.append_ #[39, 39] ty #[u, .slice (some ⟨wr.heap.size, 0, none⟩) 1 1]).run Tryz.prog (wr.alloc (.cells #[u1, u2] 69 (0, 0))) = .ok v' w6 ∧ TabRow w w6 X v' (l ++ [x]) := by
  obtain ⟨Y, h1, h2, h3, h4, h5⟩ := h
  have hb : RowKit.Below wr.heap.size wr (wr.alloc (.cells #[u1, u2] 69 (0, 0))) := (RowKit.Below.refl _ _).alloc (Nat.le_refl _) _
  have hbw := h5.trans (hb.mono h5.size)
  have far : ∀ {u : Value} {d : List Int}, SV w X u d → SV (wr.alloc (.cells #[u1, u2] 69 (0, 0))) Y u d := fun hs => hs.keep hbw.size (fun k hk hx hy => by
    rcases h2 k hy with a | a
    · exact hx a
    · omega) (fun k hk _ => hbw.block k hk)
  obtain ⟨v', w6, hrun, g1, g2, g3, _⟩ := (h1.below @pairR_kept hb).append_pair (x := kvOf x) (far s1) (far s2) (heap_alloc_new _ _) (by rw [List.length_map]; exact hn) hbw.size ty
  refine ⟨v', w6, hrun, _, by rw [List.map_append]; exact g1, fun k hk => ?_, fun k hk => Or.inl (h3 k hk), fun k hk => ?_, hbw.trans ((RowKit.Below.refl _ _).grown g2 hbw.size (fun k hk => (h1.at_ k hk).1))⟩
  · rcases hk with a | a
    · exact h2 k a
    · exact .inr (g1.at_ k a).1
  · rcases hk with a | a
    · exact Nat.lt_of_lt_of_le (h4 k a) (Nat.le_trans hb.size g2.size)
    · exact (g1.at_ k a).2
theorem TabRow.sps {wr : World} {A : Option Addr} {n c : Nat} {l : TL} (h : TabRow w wr X (.slice A n c) l) (hX : ∀ k, X k → k < w.heap.size) : SPs wr X A n c l := by
  obtain ⟨Y, h1, h2, h3, h4, h5⟩ := h
  exact h1.sps (fun k hk => .inl (h3 k hk)) (fun b hb => .inl (hX b hb))
/-- The table's cell is set to a list that was built. -/
theorem TabRow.set {wr : World} {A : Option Addr} {n c : Nat} {l : TL} (h : TabRow w wr X (.slice A n c) l) (ht : TabAt w X t L) (hX : ∀ k, X k → k < w.heap.size) : TabAt (wr.setCell ⟨t, 0, none⟩ (.slice A n c)) X t l ∧ Touch (fun k => k = t) w (wr.setCell ⟨t, 0, none⟩ (.slice A n c)) := by
  have hs := h.sps hX
  obtain ⟨Y, h1, h2, h3, h4, h5⟩ := h
  obtain ⟨A0, n0, c0, e0, hXt, _⟩ := ht
  have htl : t < w.heap.size := (Array.getElem?_eq_some_iff.1 e0).1
  have e1 := (h5.block t htl).trans e0
  have e2 := heap_setCell_same wr t 0 _ 42 (.slice A n c) e1
  refine ⟨⟨A, n, c, by simpa using e2, hXt, hs.keep (by simp [World.setCell]) (fun _ _ h => h) (fun k hk hx => Below.heap_setCell _ _ _ _ (fun e => hx (by rw [e]; exact hXt)))⟩, ⟨h5.os, h5.tape, h5.output, Nat.le_trans h5.size (by simp [World.setCell]), fun k hk hne => (Below.heap_setCell _ _ _ _ (by simpa using hne)).trans (h5.block k hk)⟩⟩

theorem del_take {L : TL} {j : Nat} {x : Txt × List Int} {k : Txt} (hx : L[j]? = some x) : delT (L.take (j + 1)) k = if x.1 = k then delT (L.take j) k else delT (L.take j) k ++ [x] := by
  obtain ⟨hi, rfl⟩ := List.getElem?_eq_some_iff.1 hx
  unfold delT
  rw [List.take_succ_eq_append_getElem hi, List.filter_append]
  by_cases e : L[j].1 = k <;> simp [e]
theorem del_lt {L : TL} {k : Txt} : decide ((delT L k).length < L.length) = (lookT L k).isSome := by
  induction L with
  | nil => rfl
  | cons p r ih =>
    unfold delT at ih ⊢
    rw [lookT_cons, List.filter_cons]
    by_cases e : p.1 = k
    · rw [if_neg (by simpa using e), if_pos e]
      exact decide_eq_true (Nat.lt_succ_of_le (List.length_filter_le _ _))
    · rw [if_pos (by simpa using e), if_neg e, ← ih]
      simp

set_option maxHeartbeats 6400000 in
theorem tabDelete_any (h : TabAt w X t L) (hX : ∀ k, X k → k < w.heap.size) (hN : L.length ≤ 4294967295) {A : Option Addr} {n k B : Nat} {l : List Int} (hr : RB w B A n l) (hB : B ≤ w.heap.size) :
    Calls Tryz.prog 33 #[.pointer (some ⟨t, 0, none⟩), .slice A n k] w fun e w' => e = .returned (.bool (lookT L (tx l)).isSome) ∧ TabAt w' X t (delT L (tx l)) ∧ Touch (fun k => k = t) w w' := by
  have HT := Lib.hid h
  have HR := Lib.hid hr
  have HXl := Lib.hid hX
  obtain ⟨TA, N, TC, ht, _, hs⟩ := h
  have hc0 : w.cell? ⟨t, 0, none⟩ = some (.slice TA N TC) := by rw [cell_of_row w t 0 _ _ (0, 0) ht]; rfl
  have hNL : L.length = N := hs.2.1
  have HS := Lib.hid hs
  rw [hNL] at hN
  have htl := HT.out.lt
  have HC := Lib.hid (And.intro hc0 (And.intro htl hNL))
  have H0 := Lib.hid (show TabRow w w X (.slice none 0 0) (delT (L.take 0) (tx l)) from TabRow.start hX)
  clear hr ht hs hc0 htl hNL hX
  go_enter Tryz.func33, Tryz.ntmps33
  go_wp2_with fail
  go_loopw [5, 6] (fun u i wr => ∃ j : Nat, j ≤ N ∧ i = .int .i64 j ∧ Hid (TabRow w wr X u (delT (L.take j) (tx l)))) (fun _ i _ => N - (intOf i).toNat)
  case atStart => exact ⟨0, Nat.zero_le _, rfl, H0⟩
  case round =>
    obtain ⟨j, hj, rfl, HM⟩ := hrel
    have hb : RowKit.Below w.heap.size w wr := by obtain ⟨Y, _, _, _, _, hb⟩ := HM.out; exact hb
    have c0 := (hb.cell (p := ⟨t, 0, none⟩) HC.out.2.1).trans HC.out.1
    obtain ⟨UA, UC, rfl⟩ := HM.out.shape
    by_cases hlt : j < N
    · obtain ⟨x, hx⟩ : ∃ x, L[j]? = some x := ⟨_, List.getElem?_eq_getElem (by rw [HC.out.2.2]; exact hlt)⟩
      obtain ⟨_, _, hp⟩ := HS.out
      obtain ⟨b, off, rfl, hbl, _, hp⟩ := hp (by omega)
      obtain ⟨u1, u2, c1, c2, s1, s2⟩ := hp j x hx
      have c1' := (hb.cell (p := ⟨b, off + j * 2, none⟩) hbl).trans c1
      have c2' := (hb.cell (p := ⟨b, off + j * 2 + 1, none⟩) hbl).trans c2
      have hdn : (delT (L.take j) (tx l)).length ≤ 4294967296 := by
        have := delT_len (L.take j) (tx l)
        rw [List.length_take] at this
        omega
      have HPU := Lib.hid (fun q => (HM.out.below (below_drewN (RowKit.Below.refl _ wr) q)).push s1 s2 hdn 39)
      obtain ⟨A1, n1, k1, rfl, _, _, z1, _⟩ := s1
      obtain ⟨A2, n2, k2, rfl, _⟩ := s2
      have v1 : ∀ q, (convert 45 9 (.slice A1 n1 k1)).run Tryz.prog (wr.drewN q) = .ok (encStr x.1) (wr.drewN q) := fun q => by
        have : (convert 45 9 (.slice A1 n1 k1)).run Tryz.prog (wr.drewN q) = .ok (encStr (tx (by_ x.1))) (wr.drewN q) := (z1.below (below_drewN hb q)).conv k1
        rwa [tx_by] at this
      have v2 : ∀ q, (convert 45 9 (.slice A n k)).run Tryz.prog (wr.drewN q) = .ok (encStr (tx l)) (wr.drewN q) := fun q => (HR.out.below ((below_drewN hb q).mono hB)).conv k
      have hj64 : (j : Int) < (N : Int) := by omega
      have hst := del_take (k := tx l) hx
      by_cases he : x.1 = tx l
      · have hq : (x.1 == tx l) = true := by simpa using he
        have hq2 : (x.1 != tx l) = false := by simpa using he
        have HN := Lib.hid (show ∀ q, TabRow w (wr.drewN q) X (.slice UA (delT (L.take j) (tx l)).length UC) (delT (L.take (j + 1)) (tx l)) from fun q => by
          rw [hst, if_pos he]
          exact HM.out.below (below_drewN (RowKit.Below.refl _ wr) q))
        clear hx z1 hb hp he hst c1 c2
        go_wp2_with fail
        go_quiet (fail)
        go_wp2
        go_roundw
        case rel => exact ⟨j + 1, by omega, by go_num, Lib.hid (HN.out _)⟩
        case measure => simp [intOf]; omega
      · have hq : (x.1 == tx l) = false := by simpa using he
        have hq2 : (x.1 != tx l) = true := by simpa using he
        rw [if_neg he] at hst
        have HST := Lib.hid hst
        clear hx z1 hb hp he hst c1 c2
        go_wp2_with fail
        go_quiet (fail)
        obtain ⟨v', w6, hrun, hR6⟩ := HPU.out nq
        have HRUN := Lib.hid hrun
        rw [← HST.out] at hR6
        have HN := Lib.hid hR6
        clear hrun hR6
        go_wp2_with (at_builtin; refine Lib.wpList_append_run _ rfl _ _ _ _ rfl _ _ rfl rfl _ _ HRUN.out ?_)
        go_roundw
        case rel => exact ⟨j + 1, by omega, by go_num, HN⟩
        case measure => simp [intOf]; omega
    · obtain rfl : j = N := by omega
      have hall : delT (L.take j) (tx l) = delT L (tx l) := by rw [← HC.out.2.2, List.take_length]
      rw [hall] at HM ⊢
      have hset := HM.out.set HT.out HXl.out
      have hfr : wr.frozen? ⟨t, 0, none⟩ = false := by
        obtain ⟨A0, n0, c0, e0, _⟩ := HT.out
        exact frozen_of_row wr t 0 _ _ ((hb.block t HC.out.2.1).trans e0)
      have HFIN := Lib.hid (And.intro hset (del_lt (L := L) (k := tx l)))
      have HL := Lib.hid (HC.out.2.2)
      have hlen64 : (((delT L (tx l)).length : Int) < (j : Int)) = ((delT L (tx l)).length < L.length) := by rw [HL.out]; exact propext (by omega)
      clear hb hset hall
      go_wp2
      go_ret
      exact ⟨congrArg (fun b => Ending.returned (Value.bool b)) HFIN.out.2, HFIN.out.1⟩
end

end Go.Proofs.YteogpohhnnjbmaaGreat
