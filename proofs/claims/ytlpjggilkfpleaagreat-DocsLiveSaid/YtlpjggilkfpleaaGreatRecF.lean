/-
  The texts RecE, RecF joined. Conditions: those that each part says at its head.
-/
import Derived.Test.YtlpjggilkfpleaaGreatRecA

/-
  Contract of the plain pair: it makes a pair of a tag and two rows of ints. No condition but that numbers are ints.
-/
namespace Go.Proofs.YtlpjggilkfpleaaGreat
open Go.RowKit
set_option maxRecDepth 100000
set_option linter.unusedVariables false

theorem RowN.b' {l : List Int} (X : World) (e : TypeId) (o : Obj) : RowN ((X.alloc (.cells (l.map (Value.int .i64)).toArray e)).alloc o) X.heap.size l := (RowN.a' X e).later ((Below.refl _ _).alloc (Nat.le_refl _) o)
theorem RowN.c' {l : List Int} (X : World) (e : TypeId) (o : Obj) : RowN ((X.alloc o).alloc (.cells (l.map (Value.int .i64)).toArray e)) (X.heap.size + 1) l := by
  have := RowN.a' (l := l) (X.alloc o) e
  rwa [show (X.alloc o).heap.size = X.heap.size + 1 by simp] at this

/-- A call of the plain Pack over a row of ints. -/
theorem rpack_at (l : List Int) (n m : Nat) (hl : In64 l) (hn : l.length = n) (h15 : n ≤ 15) (hm : 8 * n = m) (W : World) (g : Nat) (hr : RowN W g l) :
    Calls Tryz.prog 92 #[.slice (some ⟨g, 0, none⟩) n n] W fun e w' => ∃ A c, e = .returned (.slice A m c) ∧ OwnB W w' (.slice A m c) (packN 8 l) := by
  subst hn hm
  refine (rPack_any _ _ _ _ l W (hr.ri hl) (Nat.le_refl _) (Nat.le_refl _) (by unfold maxLen; omega)).mono ?_
  rw [List.take_of_length_le h15]
  rintro e w' ⟨v, rfl, ho⟩
  obtain ⟨A, c, e1, _, _⟩ := ho.read (packN_bytes _ _)
  subst e1
  rw [packN_length] at ho ⊢
  exact ⟨A, c, rfl, ho⟩

set_option maxHeartbeats 1600000 in
theorem rpair_at (t : Int) (K V : List Int) (nk mk nv mv : Nat) (ht : 0 ≤ t ∧ t < 256) (hK : In64 K) (hV : In64 V) (hnk : K.length = nk) (h7 : nk ≤ 7) (hmk : 1 + 4 * nk = mk) (hnv : V.length = nv) (h15 : nv ≤ 15) (hmv : 8 * nv = mv) (w : World) (gk gv : Nat) (hrk : RowN w gk K) (hrv : RowN w gv V) :
    Calls Tryz.prog 93 #[.int .u8 t, .slice (some ⟨gk, 0, none⟩) nk nk, .slice (some ⟨gv, 0, none⟩) nv nv] w fun e w' => ∃ kA kc vA vc, e = .returned (.agg #[.slice kA mk kc, .slice vA mv vc]) ∧ OwnB w w' (.slice kA mk kc) (keyL t K) ∧ OwnB w w' (.slice vA mv vc) (packN 8 V) := by
  have hb1 : Below w.heap.size w (w.alloc (.cells #[.slice none 0 0, .slice none 0 0] 88)) := (Below.refl _ _).alloc (Nat.le_refl _) _
  have HK := Lib.hid (rkey_at t K nk mk ht hK hnk h7 hmk _ gk (hrk.later hb1))
  go_enter Tryz.func93, Tryz.ntmps93
  go_wp2_with fail
  refine HK.out.mono ?_
  rintro e w2 ⟨kA, kc, rfl, hk2⟩
  have HP := Lib.hid (rpack_at V nv mv hV hnv h15 hmv w2 gv (hrv.later (hb1.trans (hk2.2.mono hb1.size))))
  go_wp2_with fail
  refine HP.out.mono ?_
  rintro e w3 ⟨vA, vc, rfl, hv3⟩
  have hv3' := hv3.of_le hk2.2
  have hblk := ((hk2.2.trans (hv3.2.mono hk2.2.size)).block w.heap.size (by simp)).trans (heap_alloc_new w (.cells #[.slice none 0 0, .slice none 0 0] 88))
  have c0 := box_cell0 hblk
  have c1 := box_cell1 hblk
  have hf0 := box_frozen (o := 0) hblk
  have hf1 := box_frozen (o := 1) hblk
  have HG := Lib.hid (box_set (x := .slice kA mk kc) (y := .slice vA mv vc) hblk)
  have HO := Lib.hid (And.intro ((hk2.later hv3.2).boxed (g := w.heap.size) (x := .slice kA mk kc) (y := .slice vA mv vc) hb1 (Nat.le_refl _) (by simp)) (hv3'.boxed (g := w.heap.size) (x := .slice kA mk kc) (y := .slice vA mv vc) hb1 (Nat.le_refl _) (by simp)))
  clear hk2 hv3 hv3' hblk
  go_wp2_with fail
  refine bodyPost_ret (results_cell_row rfl _ _ w.heap.size _ _ _ _ rfl HG.out Tryz.underlying88 rfl pairSize) rfl ?_
  exact ⟨_, _, _, _, rfl, HO.out.1, HO.out.2⟩

end Go.Proofs.YtlpjggilkfpleaaGreat

/-
  Contracts of the plain Doc, DocLine, Entry, Line, Node: what pair each makes. No condition but that numbers are ints.
-/
namespace Go.Proofs.YtlpjggilkfpleaaGreat
open Go.RowKit
set_option maxRecDepth 100000
set_option linter.unusedVariables false

set_option maxHeartbeats 3200000 in
theorem refDoc_any  (a0 : Int) (a1 : Int) (a2 : Int) (a3 : Int) (a4 : Int) (w : World) (h : In64 [a0, a1, a2, a3, a4]) :
    Calls Tryz.prog 58 #[.agg #[.int .i64 a0, .int .i64 a1, .int .i64 a2, .int .i64 a3, .int .i64 a4]] w fun e w' => RecPair w w' e (keyL 68 [a0]) (packN 8 [a1, a2, a3, a4]) := by
  have HP := Lib.hid (rpair_at 68 [a0] [a1, a2, a3, a4] 1 5 4 32 (by omega) (h.sub (by simp)) (h.sub (by simp)) rfl (by omega) rfl rfl (by omega) rfl)
  clear h
  obtain ⟨w1, hw1⟩ : ∃ w1, w1 = ((w.alloc (.cells #[.int .i64 a0, .int .i64 a1, .int .i64 a2, .int .i64 a3, .int .i64 a4] 50)).alloc (.cells #[.slice none 0 0, .slice none 0 0] 88)) := ⟨_, rfl⟩
  have hb1 : Below w.heap.size w w1 := by rw [hw1]; exact ((Below.refl _ _).alloc (Nat.le_refl _) _).alloc (by simp) _
  have g0 : w1.heap[w.heap.size]? = some (.cells #[.int .i64 a0, .int .i64 a1, .int .i64 a2, .int .i64 a3, .int .i64 a4] 50 (0, 0)) := by rw [hw1]; exact (((Below.refl (w.alloc _).heap.size _).alloc (Nat.le_refl _) _).block _ (by simp)).trans (heap_alloc_new _ _)
  have g1 : w1.heap[w.heap.size + 1]? = some (.cells #[.slice none 0 0, .slice none 0 0] 88 (0, 0)) := by rw [hw1]; exact heap_alloc2_new _ _ _
  have hs1 : w1.heap.size = w.heap.size + 2 := by rw [hw1]; simp
  obtain ⟨s0, s1, s2, s3, s4⟩ : w1.cell? ⟨w.heap.size, 0, none⟩ = some (.int .i64 a0) ∧ w1.cell? ⟨w.heap.size, 1, none⟩ = some (.int .i64 a1) ∧ w1.cell? ⟨w.heap.size, 2, none⟩ = some (.int .i64 a2) ∧ w1.cell? ⟨w.heap.size, 3, none⟩ = some (.int .i64 a3) ∧ w1.cell? ⟨w.heap.size, 4, none⟩ = some (.int .i64 a4) := ⟨cell_of_row w1 _ 0 _ _ (0, 0) g0, cell_of_row w1 _ 1 _ _ (0, 0) g0, cell_of_row w1 _ 2 _ _ (0, 0) g0, cell_of_row w1 _ 3 _ _ (0, 0) g0, cell_of_row w1 _ 4 _ _ (0, 0) g0⟩
  go_enter Tryz.func58, Tryz.ntmps58
  go_wp2_with fail
  refine Calls.mono (HP.out _ _ _ ?_ ?_) ?_
  · rw [← hw1, show w.heap.size + 1 + 1 = w1.heap.size by omega]; exact RowN.b' (l := [a0]) _ _ _
  · rw [← hw1, show w.heap.size + 1 + 1 = w1.heap.size by omega]; exact RowN.c' (l := [a1, a2, a3, a4]) _ _ _
  rw [← hw1]
  have hb2 : Below w1.heap.size w1 ((w1.alloc (.cells ([a0].map (Value.int .i64)).toArray 3)).alloc (.cells ([a1, a2, a3, a4].map (Value.int .i64)).toArray 3)) := ((Below.refl _ _).alloc (Nat.le_refl _) _).alloc (by simp) _
  rintro e w2 ⟨kA, kc, vA, vc, rfl, hk, hv⟩
  have hk' := hk.of_le hb2
  have hv' := hv.of_le hb2
  have hblk := (hk'.2.block (w.heap.size + 1) (by omega)).trans g1
  have c0 := box_cell0 hblk
  have c1 := box_cell1 hblk
  have hf0 := box_frozen (o := 0) hblk
  have hf1 := box_frozen (o := 1) hblk
  have HG := Lib.hid (box_set (x := .slice kA 5 kc) (y := .slice vA 32 vc) hblk)
  have HQ := Lib.hid (pairR_boxed (g := w.heap.size + 1) (x := .slice kA 5 kc) (y := .slice vA 32 vc) hb1 (Nat.le_succ _) (by omega) hk' (Below.refl _ _) hv')
  clear hk hv hk' hv' hblk hb2 hw1 s0 s1 s2 s3 s4 g0 g1 hb1 hs1
  go_wp2_with fail
  refine bodyPost_ret (results_cell_row rfl _ _ (w.heap.size + 1) _ _ _ _ rfl HG.out Tryz.underlying88 rfl pairSize) rfl ?_
  exact HQ.out

set_option maxHeartbeats 3200000 in
theorem refDocLine_any (id : Int) (ln : Int) (a0 : Int) (a1 : Int) (a2 : Int) (a3 : Int) (w : World) (h : In64 [a0, a1, a2, a3, id, ln]) :
    Calls Tryz.prog 57 #[.int .i64 id, .int .i64 ln, .agg #[.int .i64 a0, .int .i64 a1, .int .i64 a2, .int .i64 a3]] w fun e w' => RecPair w w' e (keyL 76 [id, ln]) (packN 8 [a0, a1, a2, a3]) := by
  have HP := Lib.hid (rpair_at 76 [id, ln] [a0, a1, a2, a3] 2 9 4 32 (by omega) (h.sub (by simp)) (h.sub (by simp)) rfl (by omega) rfl rfl (by omega) rfl)
  clear h
  obtain ⟨w1, hw1⟩ : ∃ w1, w1 = ((w.alloc (.cells #[.int .i64 a0, .int .i64 a1, .int .i64 a2, .int .i64 a3] 53)).alloc (.cells #[.slice none 0 0, .slice none 0 0] 88)) := ⟨_, rfl⟩
  have hb1 : Below w.heap.size w w1 := by rw [hw1]; exact ((Below.refl _ _).alloc (Nat.le_refl _) _).alloc (by simp) _
  have g0 : w1.heap[w.heap.size]? = some (.cells #[.int .i64 a0, .int .i64 a1, .int .i64 a2, .int .i64 a3] 53 (0, 0)) := by rw [hw1]; exact (((Below.refl (w.alloc _).heap.size _).alloc (Nat.le_refl _) _).block _ (by simp)).trans (heap_alloc_new _ _)
  have g1 : w1.heap[w.heap.size + 1]? = some (.cells #[.slice none 0 0, .slice none 0 0] 88 (0, 0)) := by rw [hw1]; exact heap_alloc2_new _ _ _
  have hs1 : w1.heap.size = w.heap.size + 2 := by rw [hw1]; simp
  obtain ⟨s0, s1, s2, s3⟩ : w1.cell? ⟨w.heap.size, 0, none⟩ = some (.int .i64 a0) ∧ w1.cell? ⟨w.heap.size, 1, none⟩ = some (.int .i64 a1) ∧ w1.cell? ⟨w.heap.size, 2, none⟩ = some (.int .i64 a2) ∧ w1.cell? ⟨w.heap.size, 3, none⟩ = some (.int .i64 a3) := ⟨cell_of_row w1 _ 0 _ _ (0, 0) g0, cell_of_row w1 _ 1 _ _ (0, 0) g0, cell_of_row w1 _ 2 _ _ (0, 0) g0, cell_of_row w1 _ 3 _ _ (0, 0) g0⟩
  go_enter Tryz.func57, Tryz.ntmps57
  go_wp2_with fail
  refine Calls.mono (HP.out _ _ _ ?_ ?_) ?_
  · rw [← hw1, show w.heap.size + 1 + 1 = w1.heap.size by omega]; exact RowN.b' (l := [id, ln]) _ _ _
  · rw [← hw1, show w.heap.size + 1 + 1 = w1.heap.size by omega]; exact RowN.c' (l := [a0, a1, a2, a3]) _ _ _
  rw [← hw1]
  have hb2 : Below w1.heap.size w1 ((w1.alloc (.cells ([id, ln].map (Value.int .i64)).toArray 3)).alloc (.cells ([a0, a1, a2, a3].map (Value.int .i64)).toArray 3)) := ((Below.refl _ _).alloc (Nat.le_refl _) _).alloc (by simp) _
  rintro e w2 ⟨kA, kc, vA, vc, rfl, hk, hv⟩
  have hk' := hk.of_le hb2
  have hv' := hv.of_le hb2
  have hblk := (hk'.2.block (w.heap.size + 1) (by omega)).trans g1
  have c0 := box_cell0 hblk
  have c1 := box_cell1 hblk
  have hf0 := box_frozen (o := 0) hblk
  have hf1 := box_frozen (o := 1) hblk
  have HG := Lib.hid (box_set (x := .slice kA 9 kc) (y := .slice vA 32 vc) hblk)
  have HQ := Lib.hid (pairR_boxed (g := w.heap.size + 1) (x := .slice kA 9 kc) (y := .slice vA 32 vc) hb1 (Nat.le_succ _) (by omega) hk' (Below.refl _ _) hv')
  clear hk hv hk' hv' hblk hb2 hw1 s0 s1 s2 s3 g0 g1 hb1 hs1
  go_wp2_with fail
  refine bodyPost_ret (results_cell_row rfl _ _ (w.heap.size + 1) _ _ _ _ rfl HG.out Tryz.underlying88 rfl pairSize) rfl ?_
  exact HQ.out

end Go.Proofs.YtlpjggilkfpleaaGreat
