/-
  The texts RecB, RecE, RecF joined. Conditions: those that each part says at its head.
-/
import Derived.Test.YtlcbmobdokicaaaGreatRecA

/-
  Contracts of recs.Doc, DocLine, Entry, Line: what pair each makes. No condition but that numbers are ints.
-/
namespace Go.Proofs.YtlcbmobdokicaaaGreat
open Go.RowKit
set_option maxRecDepth 100000
set_option linter.unusedVariables false

set_option maxHeartbeats 3200000 in
theorem recDoc_any  (a0 : Int) (a1 : Int) (a2 : Int) (a3 : Int) (a4 : Int) (w : World) (h : In64 [a0, a1, a2, a3, a4]) :
    Calls Tryz.prog 118 #[.agg #[.int .i64 a0, .int .i64 a1, .int .i64 a2, .int .i64 a3, .int .i64 a4]] w fun e w' => RecPair w w' e (keyL 68 [a0]) (packN 8 [a1, a2, a3, a4]) := by
  have HK := Lib.hid (key_at 68 [a0] 1 5 (by omega) (h.sub (by simp)) rfl (by omega) rfl)
  have HP := Lib.hid (pair_at [a1, a2, a3, a4] 4 32 (h.sub (by simp)) rfl (by omega) rfl)
  clear h
  go_enter Tryz.func118, Tryz.ntmps118
  go_wp2_with fail
  obtain ⟨w1, hw1⟩ : ∃ w1, w1 = ((w.alloc (.cells #[.int .i64 a0, .int .i64 a1, .int .i64 a2, .int .i64 a3, .int .i64 a4] 66)).alloc (.cells #[.slice none 0 0, .slice none 0 0] 111)) := ⟨_, rfl⟩
  have hb1 : Below w.heap.size w w1 := by rw [hw1]; exact ((Below.refl _ _).alloc (Nat.le_refl _) _).alloc (by simp) _
  have g0 : w1.heap[w.heap.size]? = some (.cells #[.int .i64 a0, .int .i64 a1, .int .i64 a2, .int .i64 a3, .int .i64 a4] 66 (0, 0)) := by rw [hw1]; exact (((Below.refl (w.alloc _).heap.size _).alloc (Nat.le_refl _) _).block _ (by simp)).trans (heap_alloc_new _ _)
  have g1 : w1.heap[w.heap.size + 1]? = some (.cells #[.slice none 0 0, .slice none 0 0] 111 (0, 0)) := by rw [hw1]; exact heap_alloc2_new _ _ _
  have hs1 : w1.heap.size = w.heap.size + 2 := by rw [hw1]; simp
  rw [← hw1]
  clear hw1
  have HC : Hid (∀ W, Below w1.heap.size w1 W → W.cell? ⟨w.heap.size, 0, none⟩ = some (.int .i64 a0) ∧ W.cell? ⟨w.heap.size, 1, none⟩ = some (.int .i64 a1) ∧ W.cell? ⟨w.heap.size, 2, none⟩ = some (.int .i64 a2) ∧ W.cell? ⟨w.heap.size, 3, none⟩ = some (.int .i64 a3) ∧ W.cell? ⟨w.heap.size, 4, none⟩ = some (.int .i64 a4)) := Lib.hid fun W hW => by
    have f0 := (hW.block _ (by omega)).trans g0
    exact ⟨cell_of_row W _ 0 _ _ (0, 0) f0, cell_of_row W _ 1 _ _ (0, 0) f0, cell_of_row W _ 2 _ _ (0, 0) f0, cell_of_row W _ 3 _ _ (0, 0) f0, cell_of_row W _ 4 _ _ (0, 0) f0⟩
  have HD : Hid (∀ W0 x y W, Below w1.heap.size w1 W0 → W = (W0.setCell ⟨w.heap.size + 1, 0, none⟩ x).setCell ⟨w.heap.size + 1, 1, none⟩ y → W.cell? ⟨w.heap.size, 0, none⟩ = some (.int .i64 a0) ∧ W.cell? ⟨w.heap.size, 1, none⟩ = some (.int .i64 a1) ∧ W.cell? ⟨w.heap.size, 2, none⟩ = some (.int .i64 a2) ∧ W.cell? ⟨w.heap.size, 3, none⟩ = some (.int .i64 a3) ∧ W.cell? ⟨w.heap.size, 4, none⟩ = some (.int .i64 a4)) := Lib.hid fun W0 x y W hW e => by
    have f0 : W.heap[w.heap.size]? = some (.cells #[.int .i64 a0, .int .i64 a1, .int .i64 a2, .int .i64 a3, .int .i64 a4] 66 (0, 0)) := by
      rw [e, heap_setCell_other _ _ _ _ (show w.heap.size ≠ w.heap.size + 1 by omega), heap_setCell_other _ _ _ _ (show w.heap.size ≠ w.heap.size + 1 by omega)]
      exact (hW.block _ (by omega)).trans g0
    exact ⟨cell_of_row W _ 0 _ _ (0, 0) f0, cell_of_row W _ 1 _ _ (0, 0) f0, cell_of_row W _ 2 _ _ (0, 0) f0, cell_of_row W _ 3 _ _ (0, 0) f0, cell_of_row W _ 4 _ _ (0, 0) f0⟩
  have HF : Hid (∀ W, Below w1.heap.size w1 W → W.heap[w.heap.size + 1]? = some (.cells #[.slice none 0 0, .slice none 0 0] 111 (0, 0))) := Lib.hid fun W hW => (hW.block _ (by omega)).trans g1
  have HB1 := Lib.hid (And.intro hb1 hs1)
  clear hb1 g0 g1 hs1
  have tok1 : True := trivial
  go_region_held3 (fun W => W.cell? ⟨w.heap.size, 0, none⟩ = some (.int .i64 a0) ∧ W.cell? ⟨w.heap.size, 1, none⟩ = some (.int .i64 a1) ∧ W.cell? ⟨w.heap.size, 2, none⟩ = some (.int .i64 a2) ∧ W.cell? ⟨w.heap.size, 3, none⟩ = some (.int .i64 a3) ∧ W.cell? ⟨w.heap.size, 4, none⟩ = some (.int .i64 a4))
    (first | exact HC.out _ ((Below.refl _ _).drew) | exact HC.out _ (((Below.refl _ _).alloc (Nat.le_refl _) _).drew) | exact HC.out _ ((((Below.refl _ _).alloc (Nat.le_refl _) _).alloc (by simp) _).drew) | exact HC.out _ hb3 | exact HD.out _ _ _ _ hb3 rfl | exact HC.out _ b2 | exact HC.out _ (b2.alloc b2.size _) | exact HC.out _ (b2.alloc b2.size _).drew)
    (first
    | (have _t := tok1; clear tok1; go_at_call 92; refine Calls.mono (HK.out _ _ ?_) ?_; (first | exact RowN.a (l := [a0]) _ _ | exact RowN.b (l := [a0]) _ _ _ | exact RowN.c (l := [a0]) _ _ _ | exact RowN.d (l := [a0]) _ _ _); rintro e w2 ⟨kA, kc, rfl, ko⟩; have ko1 := (by first | exact ko.of_le (w0 := w1) ((Below.refl _ _).alloc (Nat.le_refl _) _).drew | exact ko.of_le (w0 := w1) (((Below.refl _ _).alloc (Nat.le_refl _) _).alloc (by simp) _).drew : OwnB w1 w2 (.slice kA 5 kc) _); have KO := Lib.hid ko1; have b2 := ko1.2; have KB := Lib.hid ko.2; clear ko ko1; have tok2 : True := trivial)
    | (have _t := tok2; clear tok2; go_at_call 109; refine Calls.mono (HP.out _ _ _ _ _ ?_) ?_; (first | exact RowN.a' (l := [a1, a2, a3, a4]) _ _ | exact RowN.a (l := [a1, a2, a3, a4]) _ _ | exact (RowN.a (l := [a1, a2, a3, a4]) _ _).later KB.out | exact (RowN.c (l := [a1, a2, a3, a4]) _ _ _).later KB.out | exact (RowN.d (l := [a1, a2, a3, a4]) _ _ _).later KB.out | exact (RowN.b (l := [a1, a2, a3, a4]) _ _ _).later KB.out); rintro e w3 ⟨vA, vc, rfl, vo⟩; have B23 : Below w2.heap.size w2 w3 := (by first | exact vo.2 | exact ((Below.refl _ _).alloc (Nat.le_refl _) _).trans (vo.2.mono (by simp)) | exact ((Below.refl _ _).alloc (Nat.le_refl _) _).drew.trans (vo.2.mono (by simp))); have hb3 := b2.trans (B23.mono b2.size); have VO := Lib.hid (by first | exact vo.of_le (w0 := w1) b2 | exact vo.of_le (w0 := w1) (b2.alloc b2.size _) | exact vo.of_le (w0 := w1) (b2.alloc b2.size _).drew : OwnB w1 w3 (.slice vA 32 vc) _); have hf0 := box_frozen (o := 0) (HF.out _ hb3); have hf1 := box_frozen (o := 1) (HF.out _ hb3); have z0 := box_cell0 (HF.out _ hb3); have z1 := box_cell1 (HF.out _ hb3); have HG := Lib.hid (box_set (x := .slice kA 5 kc) (y := .slice vA 32 vc) (HF.out _ hb3)); have HQ := Lib.hid (pairR_boxed (g := w.heap.size + 1) (x := .slice kA 5 kc) (y := .slice vA 32 vc) HB1.out.1 (Nat.le_succ _) (by have := HB1.out.2; omega) KO.out B23 VO.out); clear vo B23 VO KO))
  all_goals
    go_wp2_with fail
    refine bodyPost_ret (results_cell_row rfl _ _ (w.heap.size + 1) _ _ _ _ rfl HG.out Tryz.underlying111 rfl pairSize) rfl ?_
    exact HQ.out

set_option maxHeartbeats 3200000 in
theorem recDocLine_any (id : Int) (ln : Int) (a0 : Int) (a1 : Int) (a2 : Int) (a3 : Int) (w : World) (h : In64 [a0, a1, a2, a3, id, ln]) :
    Calls Tryz.prog 98 #[.int .i64 id, .int .i64 ln, .agg #[.int .i64 a0, .int .i64 a1, .int .i64 a2, .int .i64 a3]] w fun e w' => RecPair w w' e (keyL 76 [id, ln]) (packN 8 [a0, a1, a2, a3]) := by
  have HK := Lib.hid (key_at 76 [id, ln] 2 9 (by omega) (h.sub (by simp)) rfl (by omega) rfl)
  have HP := Lib.hid (pair_at [a0, a1, a2, a3] 4 32 (h.sub (by simp)) rfl (by omega) rfl)
  clear h
  go_enter Tryz.func98, Tryz.ntmps98
  go_wp2_with fail
  obtain ⟨w1, hw1⟩ : ∃ w1, w1 = ((w.alloc (.cells #[.int .i64 a0, .int .i64 a1, .int .i64 a2, .int .i64 a3] 58)).alloc (.cells #[.slice none 0 0, .slice none 0 0] 111)) := ⟨_, rfl⟩
  have hb1 : Below w.heap.size w w1 := by rw [hw1]; exact ((Below.refl _ _).alloc (Nat.le_refl _) _).alloc (by simp) _
  have g0 : w1.heap[w.heap.size]? = some (.cells #[.int .i64 a0, .int .i64 a1, .int .i64 a2, .int .i64 a3] 58 (0, 0)) := by rw [hw1]; exact (((Below.refl (w.alloc _).heap.size _).alloc (Nat.le_refl _) _).block _ (by simp)).trans (heap_alloc_new _ _)
  have g1 : w1.heap[w.heap.size + 1]? = some (.cells #[.slice none 0 0, .slice none 0 0] 111 (0, 0)) := by rw [hw1]; exact heap_alloc2_new _ _ _
  have hs1 : w1.heap.size = w.heap.size + 2 := by rw [hw1]; simp
  rw [← hw1]
  clear hw1
  have HC : Hid (∀ W, Below w1.heap.size w1 W → W.cell? ⟨w.heap.size, 0, none⟩ = some (.int .i64 a0) ∧ W.cell? ⟨w.heap.size, 1, none⟩ = some (.int .i64 a1) ∧ W.cell? ⟨w.heap.size, 2, none⟩ = some (.int .i64 a2) ∧ W.cell? ⟨w.heap.size, 3, none⟩ = some (.int .i64 a3)) := Lib.hid fun W hW => by
    have f0 := (hW.block _ (by omega)).trans g0
    exact ⟨cell_of_row W _ 0 _ _ (0, 0) f0, cell_of_row W _ 1 _ _ (0, 0) f0, cell_of_row W _ 2 _ _ (0, 0) f0, cell_of_row W _ 3 _ _ (0, 0) f0⟩
  have HD : Hid (∀ W0 x y W, Below w1.heap.size w1 W0 → W = (W0.setCell ⟨w.heap.size + 1, 0, none⟩ x).setCell ⟨w.heap.size + 1, 1, none⟩ y → W.cell? ⟨w.heap.size, 0, none⟩ = some (.int .i64 a0) ∧ W.cell? ⟨w.heap.size, 1, none⟩ = some (.int .i64 a1) ∧ W.cell? ⟨w.heap.size, 2, none⟩ = some (.int .i64 a2) ∧ W.cell? ⟨w.heap.size, 3, none⟩ = some (.int .i64 a3)) := Lib.hid fun W0 x y W hW e => by
    have f0 : W.heap[w.heap.size]? = some (.cells #[.int .i64 a0, .int .i64 a1, .int .i64 a2, .int .i64 a3] 58 (0, 0)) := by
      rw [e, heap_setCell_other _ _ _ _ (show w.heap.size ≠ w.heap.size + 1 by omega), heap_setCell_other _ _ _ _ (show w.heap.size ≠ w.heap.size + 1 by omega)]
      exact (hW.block _ (by omega)).trans g0
    exact ⟨cell_of_row W _ 0 _ _ (0, 0) f0, cell_of_row W _ 1 _ _ (0, 0) f0, cell_of_row W _ 2 _ _ (0, 0) f0, cell_of_row W _ 3 _ _ (0, 0) f0⟩
  have HF : Hid (∀ W, Below w1.heap.size w1 W → W.heap[w.heap.size + 1]? = some (.cells #[.slice none 0 0, .slice none 0 0] 111 (0, 0))) := Lib.hid fun W hW => (hW.block _ (by omega)).trans g1
  have HB1 := Lib.hid (And.intro hb1 hs1)
  clear hb1 g0 g1 hs1
  have tok1 : True := trivial
  go_region_held3 (fun W => W.cell? ⟨w.heap.size, 0, none⟩ = some (.int .i64 a0) ∧ W.cell? ⟨w.heap.size, 1, none⟩ = some (.int .i64 a1) ∧ W.cell? ⟨w.heap.size, 2, none⟩ = some (.int .i64 a2) ∧ W.cell? ⟨w.heap.size, 3, none⟩ = some (.int .i64 a3))
    (first | exact HC.out _ ((Below.refl _ _).drew) | exact HC.out _ (((Below.refl _ _).alloc (Nat.le_refl _) _).drew) | exact HC.out _ ((((Below.refl _ _).alloc (Nat.le_refl _) _).alloc (by simp) _).drew) | exact HC.out _ hb3 | exact HD.out _ _ _ _ hb3 rfl | exact HC.out _ b2 | exact HC.out _ (b2.alloc b2.size _) | exact HC.out _ (b2.alloc b2.size _).drew)
    (first
    | (have _t := tok1; clear tok1; go_at_call 92; refine Calls.mono (HK.out _ _ ?_) ?_; (first | exact RowN.a (l := [id, ln]) _ _ | exact RowN.b (l := [id, ln]) _ _ _ | exact RowN.c (l := [id, ln]) _ _ _ | exact RowN.d (l := [id, ln]) _ _ _); rintro e w2 ⟨kA, kc, rfl, ko⟩; have ko1 := (by first | exact ko.of_le (w0 := w1) ((Below.refl _ _).alloc (Nat.le_refl _) _).drew | exact ko.of_le (w0 := w1) (((Below.refl _ _).alloc (Nat.le_refl _) _).alloc (by simp) _).drew : OwnB w1 w2 (.slice kA 9 kc) _); have KO := Lib.hid ko1; have b2 := ko1.2; have KB := Lib.hid ko.2; clear ko ko1; have tok2 : True := trivial)
    | (have _t := tok2; clear tok2; go_at_call 109; refine Calls.mono (HP.out _ _ _ _ _ ?_) ?_; (first | exact RowN.a' (l := [a0, a1, a2, a3]) _ _ | exact RowN.a (l := [a0, a1, a2, a3]) _ _ | exact (RowN.a (l := [a0, a1, a2, a3]) _ _).later KB.out | exact (RowN.c (l := [a0, a1, a2, a3]) _ _ _).later KB.out | exact (RowN.d (l := [a0, a1, a2, a3]) _ _ _).later KB.out | exact (RowN.b (l := [a0, a1, a2, a3]) _ _ _).later KB.out); rintro e w3 ⟨vA, vc, rfl, vo⟩; have B23 : Below w2.heap.size w2 w3 := (by first | exact vo.2 | exact ((Below.refl _ _).alloc (Nat.le_refl _) _).trans (vo.2.mono (by simp)) | exact ((Below.refl _ _).alloc (Nat.le_refl _) _).drew.trans (vo.2.mono (by simp))); have hb3 := b2.trans (B23.mono b2.size); have VO := Lib.hid (by first | exact vo.of_le (w0 := w1) b2 | exact vo.of_le (w0 := w1) (b2.alloc b2.size _) | exact vo.of_le (w0 := w1) (b2.alloc b2.size _).drew : OwnB w1 w3 (.slice vA 32 vc) _); have hf0 := box_frozen (o := 0) (HF.out _ hb3); have hf1 := box_frozen (o := 1) (HF.out _ hb3); have z0 := box_cell0 (HF.out _ hb3); have z1 := box_cell1 (HF.out _ hb3); have HG := Lib.hid (box_set (x := .slice kA 9 kc) (y := .slice vA 32 vc) (HF.out _ hb3)); have HQ := Lib.hid (pairR_boxed (g := w.heap.size + 1) (x := .slice kA 9 kc) (y := .slice vA 32 vc) HB1.out.1 (Nat.le_succ _) (by have := HB1.out.2; omega) KO.out B23 VO.out); clear vo B23 VO KO))
  all_goals
    go_wp2_with fail
    refine bodyPost_ret (results_cell_row rfl _ _ (w.heap.size + 1) _ _ _ _ rfl HG.out Tryz.underlying111 rfl pairSize) rfl ?_
    exact HQ.out

end Go.Proofs.YtlcbmobdokicaaaGreat

/-
  Contract of the plain pair: it makes a pair of a tag and two rows of ints. No condition but that numbers are ints.
-/
namespace Go.Proofs.YtlcbmobdokicaaaGreat
open Go.RowKit
set_option maxRecDepth 100000
set_option linter.unusedVariables false

theorem RowN.b' {l : List Int} (X : World) (e : TypeId) (o : Obj) : RowN ((X.alloc (.cells (l.map (Value.int .i64)).toArray e)).alloc o) X.heap.size l := (RowN.a' X e).later ((Below.refl _ _).alloc (Nat.le_refl _) o)
theorem RowN.c' {l : List Int} (X : World) (e : TypeId) (o : Obj) : RowN ((X.alloc o).alloc (.cells (l.map (Value.int .i64)).toArray e)) (X.heap.size + 1) l := by
  have := RowN.a' (l := l) (X.alloc o) e
  rwa [show (X.alloc o).heap.size = X.heap.size + 1 by simp] at this

/-- A call of the plain Pack over a row of ints. -/
theorem rpack_at (l : List Int) (n m : Nat) (hl : In64 l) (hn : l.length = n) (h15 : n ≤ 15) (hm : 8 * n = m) (W : World) (g : Nat) (hr : RowN W g l) :
    Calls Tryz.prog 108 #[.slice (some ⟨g, 0, none⟩) n n] W fun e w' => ∃ A c, e = .returned (.slice A m c) ∧ OwnB W w' (.slice A m c) (packN 8 l) := by
  subst hn hm
  refine (rPack_any _ _ _ _ l W (hr.ri hl) (Nat.le_refl _) (Nat.le_refl _) (by unfold maxLen; omega)).mono ?_
  rw [List.take_of_length_le h15]
  rintro e w' ⟨v, rfl, ho⟩
  obtain ⟨A, c, e1, _, _⟩ := ho.read (packN_bytes _ _)
  subst e1
  rw [packN_length] at ho ⊢
  exact ⟨A, c, rfl, ho⟩

set_option maxHeartbeats 1600000 in
theorem rpair_at (t : Int) (K V : List Int) (nk mk nv mv : Nat) (ht : 0 ≤ t ∧ t < 256) (hK : In64 K) (hV : In64 V) (hnk : K.length = nk) (h7 : nk ≤ 7) (hmk : 1 + 4 * nk = mk) (hnv : V.length = nv) (h15 : nv ≤ 15) (hmv : 8 * nv = mv) (w : World) (gk gv : Nat) (hrk : RowN w gk K) (hrv : RowN w gv V) :
    Calls Tryz.prog 112 #[.int .u8 t, .slice (some ⟨gk, 0, none⟩) nk nk, .slice (some ⟨gv, 0, none⟩) nv nv] w fun e w' => ∃ kA kc vA vc, e = .returned (.agg #[.slice kA mk kc, .slice vA mv vc]) ∧ OwnB w w' (.slice kA mk kc) (keyL t K) ∧ OwnB w w' (.slice vA mv vc) (packN 8 V) := by
  have hb1 : Below w.heap.size w (w.alloc (.cells #[.slice none 0 0, .slice none 0 0] 111)) := (Below.refl _ _).alloc (Nat.le_refl _) _
  have HK := Lib.hid (rkey_at t K nk mk ht hK hnk h7 hmk _ gk (hrk.later hb1))
  go_enter Tryz.func112, Tryz.ntmps112
  go_wp2_with fail
  refine HK.out.mono ?_
  rintro e w2 ⟨kA, kc, rfl, hk2⟩
  have HP := Lib.hid (rpack_at V nv mv hV hnv h15 hmv w2 gv (hrv.later (hb1.trans (hk2.2.mono hb1.size))))
  go_wp2_with fail
  refine HP.out.mono ?_
  rintro e w3 ⟨vA, vc, rfl, hv3⟩
  have hv3' := hv3.of_le hk2.2
  have hblk := ((hk2.2.trans (hv3.2.mono hk2.2.size)).block w.heap.size (by simp)).trans (heap_alloc_new w (.cells #[.slice none 0 0, .slice none 0 0] 111))
  have c0 := box_cell0 hblk
  have c1 := box_cell1 hblk
  have hf0 := box_frozen (o := 0) hblk
  have hf1 := box_frozen (o := 1) hblk
  have HG := Lib.hid (box_set (x := .slice kA mk kc) (y := .slice vA mv vc) hblk)
  have HO := Lib.hid (And.intro ((hk2.later hv3.2).boxed (g := w.heap.size) (x := .slice kA mk kc) (y := .slice vA mv vc) hb1 (Nat.le_refl _) (by simp)) (hv3'.boxed (g := w.heap.size) (x := .slice kA mk kc) (y := .slice vA mv vc) hb1 (Nat.le_refl _) (by simp)))
  clear hk2 hv3 hv3' hblk
  go_wp2_with fail
  refine bodyPost_ret (results_cell_row rfl _ _ w.heap.size _ _ _ _ rfl HG.out Tryz.underlying111 rfl pairSize) rfl ?_
  exact ⟨_, _, _, _, rfl, HO.out.1, HO.out.2⟩

end Go.Proofs.YtlcbmobdokicaaaGreat

/-
  Contracts of the plain Doc, DocLine, Entry, Line, Node: what pair each makes. No condition but that numbers are ints.
-/
namespace Go.Proofs.YtlcbmobdokicaaaGreat
open Go.RowKit
set_option maxRecDepth 100000
set_option linter.unusedVariables false

set_option maxHeartbeats 3200000 in
theorem refDoc_any  (a0 : Int) (a1 : Int) (a2 : Int) (a3 : Int) (a4 : Int) (w : World) (h : In64 [a0, a1, a2, a3, a4]) :
    Calls Tryz.prog 82 #[.agg #[.int .i64 a0, .int .i64 a1, .int .i64 a2, .int .i64 a3, .int .i64 a4]] w fun e w' => RecPair w w' e (keyL 68 [a0]) (packN 8 [a1, a2, a3, a4]) := by
  have HP := Lib.hid (rpair_at 68 [a0] [a1, a2, a3, a4] 1 5 4 32 (by omega) (h.sub (by simp)) (h.sub (by simp)) rfl (by omega) rfl rfl (by omega) rfl)
  clear h
  obtain ⟨w1, hw1⟩ : ∃ w1, w1 = ((w.alloc (.cells #[.int .i64 a0, .int .i64 a1, .int .i64 a2, .int .i64 a3, .int .i64 a4] 66)).alloc (.cells #[.slice none 0 0, .slice none 0 0] 111)) := ⟨_, rfl⟩
  have hb1 : Below w.heap.size w w1 := by rw [hw1]; exact ((Below.refl _ _).alloc (Nat.le_refl _) _).alloc (by simp) _
  have g0 : w1.heap[w.heap.size]? = some (.cells #[.int .i64 a0, .int .i64 a1, .int .i64 a2, .int .i64 a3, .int .i64 a4] 66 (0, 0)) := by rw [hw1]; exact (((Below.refl (w.alloc _).heap.size _).alloc (Nat.le_refl _) _).block _ (by simp)).trans (heap_alloc_new _ _)
  have g1 : w1.heap[w.heap.size + 1]? = some (.cells #[.slice none 0 0, .slice none 0 0] 111 (0, 0)) := by rw [hw1]; exact heap_alloc2_new _ _ _
  have hs1 : w1.heap.size = w.heap.size + 2 := by rw [hw1]; simp
  obtain ⟨s0, s1, s2, s3, s4⟩ : w1.cell? ⟨w.heap.size, 0, none⟩ = some (.int .i64 a0) ∧ w1.cell? ⟨w.heap.size, 1, none⟩ = some (.int .i64 a1) ∧ w1.cell? ⟨w.heap.size, 2, none⟩ = some (.int .i64 a2) ∧ w1.cell? ⟨w.heap.size, 3, none⟩ = some (.int .i64 a3) ∧ w1.cell? ⟨w.heap.size, 4, none⟩ = some (.int .i64 a4) := ⟨cell_of_row w1 _ 0 _ _ (0, 0) g0, cell_of_row w1 _ 1 _ _ (0, 0) g0, cell_of_row w1 _ 2 _ _ (0, 0) g0, cell_of_row w1 _ 3 _ _ (0, 0) g0, cell_of_row w1 _ 4 _ _ (0, 0) g0⟩
  go_enter Tryz.func82, Tryz.ntmps82
  go_wp2_with fail
  refine Calls.mono (HP.out _ _ _ ?_ ?_) ?_
  · rw [← hw1, show w.heap.size + 1 + 1 = w1.heap.size by omega]; exact RowN.b' (l := [a0]) _ _ _
  · rw [← hw1, show w.heap.size + 1 + 1 = w1.heap.size by omega]; exact RowN.c' (l := [a1, a2, a3, a4]) _ _ _
  rw [← hw1]
  have hb2 : Below w1.heap.size w1 ((w1.alloc (.cells ([a0].map (Value.int .i64)).toArray 3)).alloc (.cells ([a1, a2, a3, a4].map (Value.int .i64)).toArray 3)) := ((Below.refl _ _).alloc (Nat.le_refl _) _).alloc (by simp) _
  rintro e w2 ⟨kA, kc, vA, vc, rfl, hk, hv⟩
  have hk' := hk.of_le hb2
  have hv' := hv.of_le hb2
  have hblk := (hk'.2.block (w.heap.size + 1) (by omega)).trans g1
  have c0 := box_cell0 hblk
  have c1 := box_cell1 hblk
  have hf0 := box_frozen (o := 0) hblk
  have hf1 := box_frozen (o := 1) hblk
  have HG := Lib.hid (box_set (x := .slice kA 5 kc) (y := .slice vA 32 vc) hblk)
  have HQ := Lib.hid (pairR_boxed (g := w.heap.size + 1) (x := .slice kA 5 kc) (y := .slice vA 32 vc) hb1 (Nat.le_succ _) (by omega) hk' (Below.refl _ _) hv')
  clear hk hv hk' hv' hblk hb2 hw1 s0 s1 s2 s3 s4 g0 g1 hb1 hs1
  go_wp2_with fail
  refine bodyPost_ret (results_cell_row rfl _ _ (w.heap.size + 1) _ _ _ _ rfl HG.out Tryz.underlying111 rfl pairSize) rfl ?_
  exact HQ.out

set_option maxHeartbeats 3200000 in
theorem refDocLine_any (id : Int) (ln : Int) (a0 : Int) (a1 : Int) (a2 : Int) (a3 : Int) (w : World) (h : In64 [a0, a1, a2, a3, id, ln]) :
    Calls Tryz.prog 81 #[.int .i64 id, .int .i64 ln, .agg #[.int .i64 a0, .int .i64 a1, .int .i64 a2, .int .i64 a3]] w fun e w' => RecPair w w' e (keyL 76 [id, ln]) (packN 8 [a0, a1, a2, a3]) := by
  have HP := Lib.hid (rpair_at 76 [id, ln] [a0, a1, a2, a3] 2 9 4 32 (by omega) (h.sub (by simp)) (h.sub (by simp)) rfl (by omega) rfl rfl (by omega) rfl)
  clear h
  obtain ⟨w1, hw1⟩ : ∃ w1, w1 = ((w.alloc (.cells #[.int .i64 a0, .int .i64 a1, .int .i64 a2, .int .i64 a3] 58)).alloc (.cells #[.slice none 0 0, .slice none 0 0] 111)) := ⟨_, rfl⟩
  have hb1 : Below w.heap.size w w1 := by rw [hw1]; exact ((Below.refl _ _).alloc (Nat.le_refl _) _).alloc (by simp) _
  have g0 : w1.heap[w.heap.size]? = some (.cells #[.int .i64 a0, .int .i64 a1, .int .i64 a2, .int .i64 a3] 58 (0, 0)) := by rw [hw1]; exact (((Below.refl (w.alloc _).heap.size _).alloc (Nat.le_refl _) _).block _ (by simp)).trans (heap_alloc_new _ _)
  have g1 : w1.heap[w.heap.size + 1]? = some (.cells #[.slice none 0 0, .slice none 0 0] 111 (0, 0)) := by rw [hw1]; exact heap_alloc2_new _ _ _
  have hs1 : w1.heap.size = w.heap.size + 2 := by rw [hw1]; simp
  obtain ⟨s0, s1, s2, s3⟩ : w1.cell? ⟨w.heap.size, 0, none⟩ = some (.int .i64 a0) ∧ w1.cell? ⟨w.heap.size, 1, none⟩ = some (.int .i64 a1) ∧ w1.cell? ⟨w.heap.size, 2, none⟩ = some (.int .i64 a2) ∧ w1.cell? ⟨w.heap.size, 3, none⟩ = some (.int .i64 a3) := ⟨cell_of_row w1 _ 0 _ _ (0, 0) g0, cell_of_row w1 _ 1 _ _ (0, 0) g0, cell_of_row w1 _ 2 _ _ (0, 0) g0, cell_of_row w1 _ 3 _ _ (0, 0) g0⟩
  go_enter Tryz.func81, Tryz.ntmps81
  go_wp2_with fail
  refine Calls.mono (HP.out _ _ _ ?_ ?_) ?_
  · rw [← hw1, show w.heap.size + 1 + 1 = w1.heap.size by omega]; exact RowN.b' (l := [id, ln]) _ _ _
  · rw [← hw1, show w.heap.size + 1 + 1 = w1.heap.size by omega]; exact RowN.c' (l := [a0, a1, a2, a3]) _ _ _
  rw [← hw1]
  have hb2 : Below w1.heap.size w1 ((w1.alloc (.cells ([id, ln].map (Value.int .i64)).toArray 3)).alloc (.cells ([a0, a1, a2, a3].map (Value.int .i64)).toArray 3)) := ((Below.refl _ _).alloc (Nat.le_refl _) _).alloc (by simp) _
  rintro e w2 ⟨kA, kc, vA, vc, rfl, hk, hv⟩
  have hk' := hk.of_le hb2
  have hv' := hv.of_le hb2
  have hblk := (hk'.2.block (w.heap.size + 1) (by omega)).trans g1
  have c0 := box_cell0 hblk
  have c1 := box_cell1 hblk
  have hf0 := box_frozen (o := 0) hblk
  have hf1 := box_frozen (o := 1) hblk
  have HG := Lib.hid (box_set (x := .slice kA 9 kc) (y := .slice vA 32 vc) hblk)
  have HQ := Lib.hid (pairR_boxed (g := w.heap.size + 1) (x := .slice kA 9 kc) (y := .slice vA 32 vc) hb1 (Nat.le_succ _) (by omega) hk' (Below.refl _ _) hv')
  clear hk hv hk' hv' hblk hb2 hw1 s0 s1 s2 s3 g0 g1 hb1 hs1
  go_wp2_with fail
  refine bodyPost_ret (results_cell_row rfl _ _ (w.heap.size + 1) _ _ _ _ rfl HG.out Tryz.underlying111 rfl pairSize) rfl ?_
  exact HQ.out

set_option maxHeartbeats 3200000 in
theorem refNodeT_any  (a0 : Int) (a1 : Int) (a2 : Int) (a3 : Int) (a4 : Int) (a6 : Int) (a7 : Int) (a8 : Int) (a9 : Int) (a10 : Int) (a11 : Int) (w : World) (h : In64 [a0, a1, a2, a3, a4, a6, a7, a8, a9, a10, a11]) :
    Calls Tryz.prog 72 #[.agg #[.int .i64 a0, .int .i64 a1, .int .i64 a2, .int .i64 a3, .int .i64 a4, .bool true, .int .i64 a6, .int .i64 a7, .int .i64 a8, .int .i64 a9, .int .i64 a10, .int .i64 a11]] w fun e w' => RecPair w w' e (keyL 78 [a0, a1]) (packN 8 [a2, a3, a4, 1, a6, a7, a8, a9, a10, a11]) := by
  have HP := Lib.hid (rpair_at 78 [a0, a1] [a2, a3, a4, 1, a6, a7, a8, a9, a10, a11] 2 9 10 80 (by omega) (h.sub (by simp)) (by intro v hv; simp only [List.mem_cons, List.not_mem_nil, or_false] at hv; rcases hv with rfl | rfl | rfl | rfl | rfl | rfl | rfl | rfl | rfl | rfl <;> first | omega | exact h _ (by simp)) rfl (by omega) rfl rfl (by omega) rfl)
  clear h
  obtain ⟨w1, hw1⟩ : ∃ w1, w1 = ((w.alloc (.cells #[.int .i64 a0, .int .i64 a1, .int .i64 a2, .int .i64 a3, .int .i64 a4, .bool true, .int .i64 a6, .int .i64 a7, .int .i64 a8, .int .i64 a9, .int .i64 a10, .int .i64 a11] 41)).alloc (.cells #[.slice none 0 0, .slice none 0 0] 111)) := ⟨_, rfl⟩
  have hb1 : Below w.heap.size w w1 := by rw [hw1]; exact ((Below.refl _ _).alloc (Nat.le_refl _) _).alloc (by simp) _
  have g0 : w1.heap[w.heap.size]? = some (.cells #[.int .i64 a0, .int .i64 a1, .int .i64 a2, .int .i64 a3, .int .i64 a4, .bool true, .int .i64 a6, .int .i64 a7, .int .i64 a8, .int .i64 a9, .int .i64 a10, .int .i64 a11] 41 (0, 0)) := by rw [hw1]; exact (((Below.refl (w.alloc _).heap.size _).alloc (Nat.le_refl _) _).block _ (by simp)).trans (heap_alloc_new _ _)
  have g1 : w1.heap[w.heap.size + 1]? = some (.cells #[.slice none 0 0, .slice none 0 0] 111 (0, 0)) := by rw [hw1]; exact heap_alloc2_new _ _ _
  have hs1 : w1.heap.size = w.heap.size + 2 := by rw [hw1]; simp
  obtain ⟨s0, s1, s2, s3, s4, s5, s6, s7, s8, s9, s10, s11⟩ : w1.cell? ⟨w.heap.size, 0, none⟩ = some (.int .i64 a0) ∧ w1.cell? ⟨w.heap.size, 1, none⟩ = some (.int .i64 a1) ∧ w1.cell? ⟨w.heap.size, 2, none⟩ = some (.int .i64 a2) ∧ w1.cell? ⟨w.heap.size, 3, none⟩ = some (.int .i64 a3) ∧ w1.cell? ⟨w.heap.size, 4, none⟩ = some (.int .i64 a4) ∧ w1.cell? ⟨w.heap.size, 5, none⟩ = some (.bool true) ∧ w1.cell? ⟨w.heap.size, 6, none⟩ = some (.int .i64 a6) ∧ w1.cell? ⟨w.heap.size, 7, none⟩ = some (.int .i64 a7) ∧ w1.cell? ⟨w.heap.size, 8, none⟩ = some (.int .i64 a8) ∧ w1.cell? ⟨w.heap.size, 9, none⟩ = some (.int .i64 a9) ∧ w1.cell? ⟨w.heap.size, 10, none⟩ = some (.int .i64 a10) ∧ w1.cell? ⟨w.heap.size, 11, none⟩ = some (.int .i64 a11) := ⟨cell_of_row w1 _ 0 _ _ (0, 0) g0, cell_of_row w1 _ 1 _ _ (0, 0) g0, cell_of_row w1 _ 2 _ _ (0, 0) g0, cell_of_row w1 _ 3 _ _ (0, 0) g0, cell_of_row w1 _ 4 _ _ (0, 0) g0, cell_of_row w1 _ 5 _ _ (0, 0) g0, cell_of_row w1 _ 6 _ _ (0, 0) g0, cell_of_row w1 _ 7 _ _ (0, 0) g0, cell_of_row w1 _ 8 _ _ (0, 0) g0, cell_of_row w1 _ 9 _ _ (0, 0) g0, cell_of_row w1 _ 10 _ _ (0, 0) g0, cell_of_row w1 _ 11 _ _ (0, 0) g0⟩
  go_enter Tryz.func72, Tryz.ntmps72
  go_wp2_with fail
  refine Calls.mono (HP.out _ _ _ ?_ ?_) ?_
  · rw [← hw1, show w.heap.size + 1 + 1 = w1.heap.size by omega]; exact RowN.b' (l := [a0, a1]) _ _ _
  · rw [← hw1, show w.heap.size + 1 + 1 = w1.heap.size by omega]; exact RowN.c' (l := [a2, a3, a4, 1, a6, a7, a8, a9, a10, a11]) _ _ _
  rw [← hw1]
  have hb2 : Below w1.heap.size w1 ((w1.alloc (.cells ([a0, a1].map (Value.int .i64)).toArray 3)).alloc (.cells ([a2, a3, a4, 1, a6, a7, a8, a9, a10, a11].map (Value.int .i64)).toArray 3)) := ((Below.refl _ _).alloc (Nat.le_refl _) _).alloc (by simp) _
  rintro e w2 ⟨kA, kc, vA, vc, rfl, hk, hv⟩
  have hk' := hk.of_le hb2
  have hv' := hv.of_le hb2
  have hblk := (hk'.2.block (w.heap.size + 1) (by omega)).trans g1
  have c0 := box_cell0 hblk
  have c1 := box_cell1 hblk
  have hf0 := box_frozen (o := 0) hblk
  have hf1 := box_frozen (o := 1) hblk
  have HG := Lib.hid (box_set (x := .slice kA 9 kc) (y := .slice vA 80 vc) hblk)
  have HQ := Lib.hid (pairR_boxed (g := w.heap.size + 1) (x := .slice kA 9 kc) (y := .slice vA 80 vc) hb1 (Nat.le_succ _) (by omega) hk' (Below.refl _ _) hv')
  clear hk hv hk' hv' hblk hb2 hw1 s0 s1 s2 s3 s4 s5 s6 s7 s8 s9 s10 s11 g0 g1 hb1 hs1
  go_wp2_with fail
  refine bodyPost_ret (results_cell_row rfl _ _ (w.heap.size + 1) _ _ _ _ rfl HG.out Tryz.underlying111 rfl pairSize) rfl ?_
  exact HQ.out

set_option maxHeartbeats 3200000 in
theorem refNodeF_any  (a0 : Int) (a1 : Int) (a2 : Int) (a3 : Int) (a4 : Int) (a6 : Int) (a7 : Int) (a8 : Int) (a9 : Int) (a10 : Int) (a11 : Int) (w : World) (h : In64 [a0, a1, a2, a3, a4, a6, a7, a8, a9, a10, a11]) :
    Calls Tryz.prog 72 #[.agg #[.int .i64 a0, .int .i64 a1, .int .i64 a2, .int .i64 a3, .int .i64 a4, .bool false, .int .i64 a6, .int .i64 a7, .int .i64 a8, .int .i64 a9, .int .i64 a10, .int .i64 a11]] w fun e w' => RecPair w w' e (keyL 78 [a0, a1]) (packN 8 [a2, a3, a4, 0, a6, a7, a8, a9, a10, a11]) := by
  have HP := Lib.hid (rpair_at 78 [a0, a1] [a2, a3, a4, 0, a6, a7, a8, a9, a10, a11] 2 9 10 80 (by omega) (h.sub (by simp)) (by intro v hv; simp only [List.mem_cons, List.not_mem_nil, or_false] at hv; rcases hv with rfl | rfl | rfl | rfl | rfl | rfl | rfl | rfl | rfl | rfl <;> first | omega | exact h _ (by simp)) rfl (by omega) rfl rfl (by omega) rfl)
  clear h
  obtain ⟨w1, hw1⟩ : ∃ w1, w1 = ((w.alloc (.cells #[.int .i64 a0, .int .i64 a1, .int .i64 a2, .int .i64 a3, .int .i64 a4, .bool false, .int .i64 a6, .int .i64 a7, .int .i64 a8, .int .i64 a9, .int .i64 a10, .int .i64 a11] 41)).alloc (.cells #[.slice none 0 0, .slice none 0 0] 111)) := ⟨_, rfl⟩
  have hb1 : Below w.heap.size w w1 := by rw [hw1]; exact ((Below.refl _ _).alloc (Nat.le_refl _) _).alloc (by simp) _
  have g0 : w1.heap[w.heap.size]? = some (.cells #[.int .i64 a0, .int .i64 a1, .int .i64 a2, .int .i64 a3, .int .i64 a4, .bool false, .int .i64 a6, .int .i64 a7, .int .i64 a8, .int .i64 a9, .int .i64 a10, .int .i64 a11] 41 (0, 0)) := by rw [hw1]; exact (((Below.refl (w.alloc _).heap.size _).alloc (Nat.le_refl _) _).block _ (by simp)).trans (heap_alloc_new _ _)
  have g1 : w1.heap[w.heap.size + 1]? = some (.cells #[.slice none 0 0, .slice none 0 0] 111 (0, 0)) := by rw [hw1]; exact heap_alloc2_new _ _ _
  have hs1 : w1.heap.size = w.heap.size + 2 := by rw [hw1]; simp
  obtain ⟨s0, s1, s2, s3, s4, s5, s6, s7, s8, s9, s10, s11⟩ : w1.cell? ⟨w.heap.size, 0, none⟩ = some (.int .i64 a0) ∧ w1.cell? ⟨w.heap.size, 1, none⟩ = some (.int .i64 a1) ∧ w1.cell? ⟨w.heap.size, 2, none⟩ = some (.int .i64 a2) ∧ w1.cell? ⟨w.heap.size, 3, none⟩ = some (.int .i64 a3) ∧ w1.cell? ⟨w.heap.size, 4, none⟩ = some (.int .i64 a4) ∧ w1.cell? ⟨w.heap.size, 5, none⟩ = some (.bool false) ∧ w1.cell? ⟨w.heap.size, 6, none⟩ = some (.int .i64 a6) ∧ w1.cell? ⟨w.heap.size, 7, none⟩ = some (.int .i64 a7) ∧ w1.cell? ⟨w.heap.size, 8, none⟩ = some (.int .i64 a8) ∧ w1.cell? ⟨w.heap.size, 9, none⟩ = some (.int .i64 a9) ∧ w1.cell? ⟨w.heap.size, 10, none⟩ = some (.int .i64 a10) ∧ w1.cell? ⟨w.heap.size, 11, none⟩ = some (.int .i64 a11) := ⟨cell_of_row w1 _ 0 _ _ (0, 0) g0, cell_of_row w1 _ 1 _ _ (0, 0) g0, cell_of_row w1 _ 2 _ _ (0, 0) g0, cell_of_row w1 _ 3 _ _ (0, 0) g0, cell_of_row w1 _ 4 _ _ (0, 0) g0, cell_of_row w1 _ 5 _ _ (0, 0) g0, cell_of_row w1 _ 6 _ _ (0, 0) g0, cell_of_row w1 _ 7 _ _ (0, 0) g0, cell_of_row w1 _ 8 _ _ (0, 0) g0, cell_of_row w1 _ 9 _ _ (0, 0) g0, cell_of_row w1 _ 10 _ _ (0, 0) g0, cell_of_row w1 _ 11 _ _ (0, 0) g0⟩
  go_enter Tryz.func72, Tryz.ntmps72
  go_wp2_with fail
  refine Calls.mono (HP.out _ _ _ ?_ ?_) ?_
  · rw [← hw1, show w.heap.size + 1 + 1 = w1.heap.size by omega]; exact RowN.b' (l := [a0, a1]) _ _ _
  · rw [← hw1, show w.heap.size + 1 + 1 = w1.heap.size by omega]; exact RowN.c' (l := [a2, a3, a4, 0, a6, a7, a8, a9, a10, a11]) _ _ _
  rw [← hw1]
  have hb2 : Below w1.heap.size w1 ((w1.alloc (.cells ([a0, a1].map (Value.int .i64)).toArray 3)).alloc (.cells ([a2, a3, a4, 0, a6, a7, a8, a9, a10, a11].map (Value.int .i64)).toArray 3)) := ((Below.refl _ _).alloc (Nat.le_refl _) _).alloc (by simp) _
  rintro e w2 ⟨kA, kc, vA, vc, rfl, hk, hv⟩
  have hk' := hk.of_le hb2
  have hv' := hv.of_le hb2
  have hblk := (hk'.2.block (w.heap.size + 1) (by omega)).trans g1
  have c0 := box_cell0 hblk
  have c1 := box_cell1 hblk
  have hf0 := box_frozen (o := 0) hblk
  have hf1 := box_frozen (o := 1) hblk
  have HG := Lib.hid (box_set (x := .slice kA 9 kc) (y := .slice vA 80 vc) hblk)
  have HQ := Lib.hid (pairR_boxed (g := w.heap.size + 1) (x := .slice kA 9 kc) (y := .slice vA 80 vc) hb1 (Nat.le_succ _) (by omega) hk' (Below.refl _ _) hv')
  clear hk hv hk' hv' hblk hb2 hw1 s0 s1 s2 s3 s4 s5 s6 s7 s8 s9 s10 s11 g0 g1 hb1 hs1
  go_wp2_with fail
  refine bodyPost_ret (results_cell_row rfl _ _ (w.heap.size + 1) _ _ _ _ rfl HG.out Tryz.underlying111 rfl pairSize) rfl ?_
  exact HQ.out

end Go.Proofs.YtlcbmobdokicaaaGreat
