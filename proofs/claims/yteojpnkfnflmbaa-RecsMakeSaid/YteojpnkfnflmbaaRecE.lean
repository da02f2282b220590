/-
  Contract of the plain pair: it makes a pair of a tag and two rows of ints. No condition but that numbers are ints.
-/
import Derived.Test.YteojpnkfnflmbaaRecA
namespace Go.Proofs.Yteojpnkfnflmbaa
open Go.RowKit
set_option maxRecDepth 100000
set_option linter.unusedVariables false

theorem RowN.b' {l : List Int} (X : World) (e : TypeId) (o : Obj) : RowN ((X.alloc (.cells (l.map (Value.int .i64)).toArray e)).alloc o) X.heap.size l := (RowN.a' X e).later ((Below.refl _ _).alloc (Nat.le_refl _) o)
theorem RowN.c' {l : List Int} (X : World) (e : TypeId) (o : Obj) : RowN ((X.alloc o).alloc (.cells (l.map (Value.int .i64)).toArray e)) (X.heap.size + 1) l := by
  have := RowN.a' (l := l) (X.alloc o) e
  rwa [show (X.alloc o).heap.size = X.heap.size + 1 by simp] at this

/-- A call of the plain Pack over a row of ints. -/
theorem rpack_at (l : List Int) (n m : Nat) (hl : In64 l) (hn : l.length = n) (h15 : n ≤ 15) (hm : 8 * n = m) (W : World) (g : Nat) (hr : RowN W g l) :
    Calls Try.prog 46 #[.slice (some ⟨g, 0, none⟩) n n] W fun e w' => ∃ A c, e = .returned (.slice A m c) ∧ OwnB W w' (.slice A m c) (packN 8 l) := by
  subst hn hm
  refine (rPack_any _ _ _ _ l W (hr.ri hl) (Nat.le_refl _) (Nat.le_refl _) (by unfold maxLen; omega)).mono ?_
  rw [List.take_of_length_le h15]
  rintro e w' ⟨v, rfl, ho⟩
  obtain ⟨A, c, e1, _, _⟩ := ho.read (packN_bytes _ _)
  subst e1
  rw [packN_length] at ho ⊢
  exact ⟨A, c, rfl, ho⟩

set_option maxHeartbeats 1600000 in
theorem rpair_at (t : Int) (K V : List Int) (nk mk nv mv : Nat) (ht : 0 ≤ t ∧ t < 256) (hK : In64 K) (hV : In64 V) (hnk : K.length = nk) (h7 : nk ≤ 7) (hmk : 1 + 4 * nk = mk) (hnv : V.length = nv) (h15 : nv ≤ 15) (hmv : 8 * nv = mv) (w : World) (gk gv : Nat) (hrk : RowN w gk K) (hrv : RowN w gv V) :
    Calls Try.prog 36 #[.int .u8 t, .slice (some ⟨gk, 0, none⟩) nk nk, .slice (some ⟨gv, 0, none⟩) nv nv] w fun e w' => ∃ kA kc vA vc, e = .returned (.agg #[.slice kA mk kc, .slice vA mv vc]) ∧ OwnB w w' (.slice kA mk kc) (keyL t K) ∧ OwnB w w' (.slice vA mv vc) (packN 8 V) := by
  have hb1 : Below w.heap.size w (w.alloc (.cells #[.slice none 0 0, .slice none 0 0] 36)) := (Below.refl _ _).alloc (Nat.le_refl _) _
  have HK := Lib.hid (rkey_at t K nk mk ht hK hnk h7 hmk _ gk (hrk.later hb1))
  go_enter Try.func36, Try.ntmps36
  go_wp2_with fail
  refine HK.out.mono ?_
  rintro e w2 ⟨kA, kc, rfl, hk2⟩
  have HP := Lib.hid (rpack_at V nv mv hV hnv h15 hmv w2 gv (hrv.later (hb1.trans (hk2.2.mono hb1.size))))
  go_wp2_with fail
  refine HP.out.mono ?_
  rintro e w3 ⟨vA, vc, rfl, hv3⟩
  have hv3' := hv3.of_le hk2.2
  have hblk := ((hk2.2.trans (hv3.2.mono hk2.2.size)).block w.heap.size (by simp)).trans (heap_alloc_new w (.cells #[.slice none 0 0, .slice none 0 0] 36))
  have c0 := box_cell0 hblk
  have c1 := box_cell1 hblk
  have hf0 := box_frozen (o := 0) hblk
  have hf1 := box_frozen (o := 1) hblk
  have HG := Lib.hid (box_set (x := .slice kA mk kc) (y := .slice vA mv vc) hblk)
  have HO := Lib.hid (And.intro ((hk2.later hv3.2).boxed (g := w.heap.size) (x := .slice kA mk kc) (y := .slice vA mv vc) hb1 (Nat.le_refl _) (by simp)) (hv3'.boxed (g := w.heap.size) (x := .slice kA mk kc) (y := .slice vA mv vc) hb1 (Nat.le_refl _) (by simp)))
  clear hk2 hv3 hv3' hblk
  go_wp2_with fail
  refine bodyPost_ret (results_cell_row rfl _ _ w.heap.size _ _ _ _ rfl HG.out Try.underlying36 rfl pairSize) rfl ?_
  exact ⟨_, _, _, _, rfl, HO.out.1, HO.out.2⟩

end Go.Proofs.Yteojpnkfnflmbaa
