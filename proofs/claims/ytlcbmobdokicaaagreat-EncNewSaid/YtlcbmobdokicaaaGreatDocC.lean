/-
  The texts DocA, DocB, DocC joined. Conditions: those that each part says at its head.
-/
import Derived.Test.YtlcbmobdokicaaaGreatDocP
import Derived.Test.YtlcbmobdokicaaaGreatViewC
import Derived.Test.YtlcbmobdokicaaaGreatRecF
import Derived.Test.YtlcbmobdokicaaaGreatSeqS
import Derived.Deep.RegionHeld3
import Derived.Laws.ResultCell

/-
  Contracts of docs over a view in memory: set, pair, Open, Right, Last. Condition: which numbers are ints.
-/
namespace Go.Proofs.YtlcbmobdokicaaaGreat
open Go.RowKit Go.Maps
set_option maxRecDepth 100000
set_option linter.unusedVariables false

section
variable {w w' : World} {X : Nat → Prop} {v m c : Nat} {S : VS}
set_option maxHeartbeats 1600000 in
theorem fileSet_any (h : ViewAt w X v m c S) {kA vA : Option Addr} {nk kc nv vc : Nat} {K V : List Int} (hk : RB w w.heap.size kA nk K) (hv : RB w w.heap.size vA nv V) (hnk : nk ≤ maxLen) (hnv : nv ≤ maxLen) (h0 : putE K V = 0) (hC : S.C.length < maxLen) :
    Calls Tryz.prog 97 #[.agg #[.pointer (some ⟨v, 0, none⟩)], .agg #[.slice kA nk kc, .slice vA nv vc]] w fun e w' => e = .returned (.int .i64 0) ∧ ViewAt w' X v m c (S.put (tx K) V) ∧ Touch (fun k => k = c) w w' := by
  obtain ⟨w1, hw1⟩ : ∃ w1, w1 = (w.alloc (.cells #[.pointer (some ⟨v, 0, none⟩)] 106)).alloc (.cells #[.slice kA nk kc, .slice vA nv vc] 111) := ⟨_, rfl⟩
  have hb1 : Below w.heap.size w w1 := by rw [hw1]; exact ((Below.refl _ _).alloc (Nat.le_refl _) _).alloc (by simp) _
  have HP := Lib.hid (vPut_any (k := kc) (k' := vc) (h.below hb1) (hk.below hb1) hb1.size hnk (hv.below hb1) hb1.size hnv hC)
  rw [h0, show S.putR K V = S.put (tx K) V by unfold VS.putR; rw [if_pos h0]] at HP
  have HT := Lib.hid (Touch.of_below (F := fun k => k = c) hb1)
  clear h hk hv hb1 h0 hC
  go_enter Tryz.func97, Tryz.ntmps97
  go_wp2_with fail
  rw [← hw1]
  clear hw1
  refine HP.out.mono ?_
  rintro e w2 ⟨rfl, h2, t2⟩
  have HE := Lib.hid (And.intro h2 (HT.out.trans t2))
  clear h2 t2 HP HT
  go_wp2_with fail
  go_ret
  exact ⟨rfl, HE.out⟩
/-- What a call told, behind a store into a box of two cells. -/
theorem svBoxed {w4 : World} {B g n k : Nat} {A : Option Addr} {l : List Int} (h : SV w4 (fun k => k < B) (.slice A n k) l) (hg : g < B) (x y : Value) : n ≤ k ∧ n ≤ 140737488355328 ∧ RB ((w4.setCell ⟨g, 0, none⟩ x).setCell ⟨g, 1, none⟩ y) w4.heap.size A n l := by
  obtain ⟨A', n', k', e, h1, h2, h3, h4⟩ := h
  cases e
  refine ⟨h1, h2, h3.1, h3.2.1, fun hn => ?_⟩
  obtain ⟨b, off, rfl, hb, hc⟩ := h3.2.2 hn
  have hbB : ¬ b < B := h4 ⟨b, off, none⟩ rfl hn
  refine ⟨b, off, rfl, hb, fun j hj => ?_⟩
  have e : ((w4.setCell ⟨g, 0, none⟩ x).setCell ⟨g, 1, none⟩ y).heap[b]? = w4.heap[b]? := by
    rw [heap_setCell_other _ _ _ _ (show b ≠ g by omega), heap_setCell_other _ _ _ _ (show b ≠ g by omega)]
  exact (World.cell?_of_block (a := ⟨b, off + j, none⟩) e).trans (hc j hj)
/-- A pair that a call told: its key, and what stands there. -/
def PairOf (w w' : World) (e : Ending) (m : Nat) (K V : List Int) : Prop :=
  ∃ A k Au nu ku, e = .returned (.agg #[.slice A m k, .slice Au nu ku]) ∧ m ≤ k ∧ RB w' w'.heap.size A m K ∧ nu ≤ ku ∧ nu ≤ 140737488355328 ∧ RB w' w'.heap.size Au nu V ∧ Below w.heap.size w w'
set_option maxHeartbeats 3200000 in
theorem filePair_any (h : ViewAt w X v m c S) (t : Int) (l : List Int) (n mm : Nat) (ht : 0 ≤ t ∧ t < 256) (hl : In64 l) (hn : l.length = n) (h7 : n ≤ 7) (hm : 1 + 4 * n = mm) (g : Nat) (hr : RowN w g l) :
    Calls Tryz.prog 61 #[.agg #[.pointer (some ⟨v, 0, none⟩)], .int .u8 t, .slice (some ⟨g, 0, none⟩) n n] w fun e w' => PairOf w w' e mm (keyL t l) ((S.now (tx (keyL t l))).getD []) := by
  obtain ⟨w1, hw1⟩ : ∃ w1, w1 = (w.alloc (.cells #[.pointer (some ⟨v, 0, none⟩)] 106)).alloc (.cells #[.slice none 0 0, .slice none 0 0] 111) := ⟨_, rfl⟩
  have hb1 : Below w.heap.size w w1 := by rw [hw1]; exact ((Below.refl _ _).alloc (Nat.le_refl _) _).alloc (by simp) _
  have hs1 : w1.heap.size = w.heap.size + 2 := by rw [hw1]; simp
  have b0 : w1.heap[w.heap.size]? = some (.cells #[.pointer (some ⟨v, 0, none⟩)] 106 (0, 0)) := by rw [hw1]; exact ((((Below.refl (w.alloc _).heap.size _).alloc (Nat.le_refl _) _).block _ (by simp)).trans (heap_alloc_new w _))
  have b1 : w1.heap[w.heap.size + 1]? = some (.cells #[.slice none 0 0, .slice none 0 0] 111 (0, 0)) := by rw [hw1]; exact heap_alloc2_new _ _ _
  have HK := Lib.hid (key_at t l n mm ht hl hn h7 hm w1 g (hr.later hb1))
  have HBK := Lib.hid (show ∀ W, Below w1.heap.size w1 W → W.heap[w.heap.size]? = some (.cells #[.pointer (some ⟨v, 0, none⟩)] 106 (0, 0)) ∧ W.heap[w.heap.size + 1]? = some (.cells #[.slice none 0 0, .slice none 0 0] 111 (0, 0)) from fun W hW => ⟨(hW.block _ (by omega)).trans b0, (hW.block _ (by omega)).trans b1⟩)
  have HV := Lib.hid (show ∀ W, Below w1.heap.size w1 W → ViewAt W X v m c S from fun W hW => h.below (hb1.trans (hW.mono hb1.size)))
  have hkl : (keyL t l).length = mm := by rw [keyL_len t l (by omega), hn]; exact hm
  have hmm : mm ≤ maxLen := by unfold maxLen; omega
  have HT := Lib.hid (And.intro ht (And.intro hb1 (And.intro hs1 (And.intro hkl hmm))))
  clear h hl hr hb1 hs1 b0 b1 hn h7 hm hkl hmm
  go_enter Tryz.func61, Tryz.ntmps61
  go_wp2_with fail
  rw [← hw1]
  clear hw1
  refine HK.out.mono ?_
  rintro e w3 ⟨A, k, rfl, ho⟩
  obtain ⟨A', k', e', hk', hrd⟩ := ho.read (tagL_bytes HT.out.1 _)
  injection e' with q1 q2 q3
  subst q1 q3
  rw [HT.out.2.2.2.1] at hrd hk'
  have c0 : w3.cell? ⟨w.heap.size, 0, none⟩ = some (.pointer (some ⟨v, 0, none⟩)) := by rw [cell_of_row w3 _ 0 _ _ (0, 0) (HBK.out w3 ho.2).1]; rfl
  have HG := Lib.hid (vGet_any (k := k) (HV.out w3 ho.2) hrd (Nat.le_refl _) HT.out.2.2.2.2)
  have HO := Lib.hid ho
  have HK' := Lib.hid hk'
  clear ho hrd HK q2 hk'
  go_wp2_with fail
  refine HG.out.mono ?_
  rintro e w4 ⟨u, rfl, hs, hb4⟩
  have hsu := hs
  obtain ⟨Au, nu, ku, rfl, _⟩ := hsu
  have hg3 : w.heap.size + 1 < w3.heap.size := by have := HT.out.2.2.1; have := HO.out.2.size; omega
  have hb14 := HO.out.2.trans (hb4.mono HO.out.2.size)
  have hblk := (HBK.out w4 hb14).2
  have f0 : w4.frozen? ⟨w.heap.size + 1, 0, none⟩ = false := by simp [World.frozen?, hblk]
  have f1 : w4.frozen? ⟨w.heap.size + 1, 1, none⟩ = false := by simp [World.frozen?, hblk]
  have d0 := box_cell0 hblk
  have d1 := box_cell1 hblk
  have HR := Lib.hid (box_set (x := .slice A mm k) (y := .slice Au nu ku) hblk)
  have HE := Lib.hid (show PairOf w ((w4.setCell ⟨w.heap.size + 1, 0, none⟩ (.slice A mm k)).setCell ⟨w.heap.size + 1, 1, none⟩ (.slice Au nu ku)) (.returned (.agg #[.slice A mm k, .slice Au nu ku])) mm (keyL t l) ((S.now (tx (keyL t l))).getD []) from by
    have ho := (HO.out.later hb4).boxed (g := w.heap.size + 1) (x := .slice A mm k) (y := .slice Au nu ku) HT.out.2.1 (by omega) (by have := HT.out.2.2.1; omega)
    obtain ⟨A', k', e', hk', hrd⟩ := ho.read (tagL_bytes HT.out.1 _)
    injection e' with q1 q2 q3
    subst q1 q3
    rw [HT.out.2.2.2.1] at hrd hk'
    obtain ⟨s1, s2, s3⟩ := svBoxed hs hg3 (.slice A mm k) (.slice Au nu ku)
    exact ⟨A, k, Au, nu, ku, rfl, hk', hrd, s1, s2, s3.more (by simp), ho.2⟩)
  clear hs hb4 hg3 hb14 hblk HG c0 HBK HV HO HK' HT
  go_wp2_with fail
  refine bodyPost_ret (results_cell_row rfl _ _ (w.heap.size + 1) _ _ _ _ rfl HR.out Tryz.underlying111 rfl pairSize) rfl ?_
  exact HE.out
theorem open_any (x : Dl) (w : World) : Calls Tryz.prog 63 #[.agg #[.int .i64 x.nd, .int .i64 x.o, .int .i64 x.l, .int .i64 x.c]] w fun e w' => e = .returned (.int .i64 (openL x)) ∧ Below w.heap.size w w' := by
  have HB := Lib.hid (show Below w.heap.size w (w.alloc (.cells #[.int .i64 x.nd, .int .i64 x.o, .int .i64 x.l, .int .i64 x.c] 58)) from (Below.refl _ _).alloc (Nat.le_refl _) _)
  unfold openL
  obtain ⟨nd, o, l, c⟩ := x
  simp only at HB ⊢
  go_enter Tryz.func63, Tryz.ntmps63
  go_wp2_with fail
  go_ret
  exact ⟨rfl, HB.out⟩
end
end Go.Proofs.YtlcbmobdokicaaaGreat

/-
  Contracts of docs over a view in memory: Right, Put. Conditions: which numbers are ints; that a view's changes are fewer than a million.
-/
namespace Go.Proofs.YtlcbmobdokicaaaGreat
open Go.RowKit Go.Maps
set_option maxRecDepth 100000
set_option linter.unusedVariables false

theorem info_docline : (Tryz.prog.info? 58).map (fun i => (i.zero, i.size, i.bytes)) = some (some (.agg #[.int .i64 0, .int .i64 0, .int .i64 0, .int .i64 0]), 4, 32) := by kernel_rfl
theorem DlT : DlE.Ty 52 58 := by
  obtain ⟨i0, hi, hz0, hz1, hz2⟩ := info_parts info_docline
  exact ⟨Tryz.underlying52, i0, _, hi, hz0, hz1, by omega, rfl⟩
theorem open_dls {H : Type} {enc : TypeId × Value → H} {w : World} {fuel : Nat} {cs : List Value} {x : DataW H × List MemPlace} (h : DataW.trod enc Tryz.prog w 0 (fun _ => true) true fuel 52 cs = some x) :
    cs = [.slice none 0 0] ∨ ∃ (a : Addr) (len cap : Nat) (ls : List Dl), cs = [.slice (some a) len cap] ∧ len ≤ cap ∧ cap ≤ maxLen ∧ DlE.R w w.heap.size (some a) len ls :=
  Enc.open_rows (E := DlE) dlNil Tryz.underlying52 cells_docline (fun n ys y hy hl => by
    obtain ⟨a0, a1, a2, a3, rfl, hok⟩ := open_docline hy hl
    exact ⟨⟨a0, a1, a2, a3⟩, hok, rfl⟩) h
/-- A line at one place of a row. -/
theorem dl_at {w : World} {B : Nat} {A : Option Addr} {n : Nat} {l : List Dl} (h : DlE.R w B A n l) {j : Nat} {x : Dl} (hx : l[j]? = some x) : ∃ b off, A = some ⟨b, off, none⟩ ∧ b < B ∧ w.cell? ⟨b, off + j * 4, none⟩ = some (.int .i64 x.nd) ∧ w.cell? ⟨b, off + j * 4 + 1, none⟩ = some (.int .i64 x.o) ∧ w.cell? ⟨b, off + j * 4 + 2, none⟩ = some (.int .i64 x.l) ∧ w.cell? ⟨b, off + j * 4 + 3, none⟩ = some (.int .i64 x.c) := by
  have hj := (List.getElem?_eq_some_iff.1 hx).1
  obtain ⟨b, off, rfl, hb, hc⟩ := h.2.2 (by rw [← h.len]; omega)
  have h2 := hc j x hx
  exact ⟨b, off, rfl, hb, h2 0 (by decide), h2 1 (by decide), h2 2 (by decide), h2 3 (by decide)⟩
/-- A row of lines stands while other blocks are written. -/
theorem dlR_touch {w w' : World} {B c : Nat} {A : Option Addr} {n : Nat} {l : List Dl} (h : DlE.R w B A n l) (hB : B ≤ w.heap.size) (hm : ∃ es k, w.heap[c]? = some (.map es k)) (ht : Touch (fun k => k = c) w w') : DlE.R w' B A n l := by
  refine ⟨h.1, h.2.1, fun hn => ?_⟩
  obtain ⟨b, off, rfl, hb, hc⟩ := h.2.2 hn
  refine ⟨b, off, rfl, hb, fun j x hx k hk => ?_⟩
  have hcell := hc j x hx k hk
  rw [← hcell]
  refine World.cell?_of_block (a := ⟨b, off + j * DlE.K + k, none⟩) (ht.block b (Nat.lt_of_lt_of_le hb hB) fun e => ?_)
  subst e
  obtain ⟨es, z, e2⟩ := hm
  have h4 : k < (DlE.V x).length := by rw [DlE.len]; exact hk
  rw [show (DlE.V x)[k]? = some ((DlE.V x)[k]'h4) from List.getElem?_eq_getElem h4] at hcell
  simp [World.cell?, e2] at hcell
def okNum (n : Int) : Bool := !(decide (n < 0) || decide (n > 1152921504606846976))
theorem rightL_is (x : Dl) : rightL x = ([x.o, x.l, x.c, openL x].all okNum) := rfl
theorem idx4_0 (a b c d : Int) (W : World) : (Instr.index 115 (.agg #[.int .i64 a, .int .i64 b, .int .i64 c, .int .i64 d]) (.int .i64 0)).run Tryz.prog W = .ok (.int .i64 a) W := by kernel_rfl
theorem idx4_1 (a b c d : Int) (W : World) : (Instr.index 115 (.agg #[.int .i64 a, .int .i64 b, .int .i64 c, .int .i64 d]) (.int .i64 1)).run Tryz.prog W = .ok (.int .i64 b) W := by kernel_rfl
theorem idx4_2 (a b c d : Int) (W : World) : (Instr.index 115 (.agg #[.int .i64 a, .int .i64 b, .int .i64 c, .int .i64 d]) (.int .i64 2)).run Tryz.prog W = .ok (.int .i64 c) W := by kernel_rfl
theorem idx4_3 (a b c d : Int) (W : World) : (Instr.index 115 (.agg #[.int .i64 a, .int .i64 b, .int .i64 c, .int .i64 d]) (.int .i64 3)).run Tryz.prog W = .ok (.int .i64 d) W := by kernel_rfl
set_option maxHeartbeats 3200000 in
theorem docsRight_any (x : Dl) (w : World) : Calls Tryz.prog 30 #[.agg #[.int .i64 x.nd, .int .i64 x.o, .int .i64 x.l, .int .i64 x.c]] w fun e w' => e = .returned (.bool (rightL x)) ∧ Below w.heap.size w w' := by
  have HO := Lib.hid (fun W => open_any x W)
  rw [rightL_is]
  obtain ⟨nd, a0, a1, a2⟩ := x
  simp only at HO ⊢
  generalize openL ⟨nd, a0, a1, a2⟩ = z at HO ⊢
  obtain ⟨R, hR⟩ : ∃ R, R = [a0, a1, a2, z].all okNum := ⟨_, rfl⟩
  rw [← hR]
  have HRR := Lib.hid hR
  clear hR
  obtain ⟨w1, hw1⟩ : ∃ w1, w1 = w.alloc (.cells #[.int .i64 nd, .int .i64 a0, .int .i64 a1, .int .i64 a2] 58) := ⟨_, rfl⟩
  have hb1 : Below w.heap.size w w1 := by rw [hw1]; exact (Below.refl _ _).alloc (Nat.le_refl _) _
  have hs1 : w1.heap.size = w.heap.size + 1 := by rw [hw1]; simp
  have hblk : w1.heap[w.heap.size]? = some (.cells #[.int .i64 nd, .int .i64 a0, .int .i64 a1, .int .i64 a2] 58 (0, 0)) := by rw [hw1]; exact heap_alloc_new w _
  have H1 := Lib.hid (show ∀ W, Below w1.heap.size w1 W → W.cell? ⟨w.heap.size, 0, none⟩ = some (.int .i64 nd) ∧ W.cell? ⟨w.heap.size, 1, none⟩ = some (.int .i64 a0) ∧ W.cell? ⟨w.heap.size, 2, none⟩ = some (.int .i64 a1) ∧ W.cell? ⟨w.heap.size, 3, none⟩ = some (.int .i64 a2) from fun W hW => docLine_cells ((hW.block _ (by omega)).trans hblk))
  have HB := Lib.hid hb1
  clear hs1 hblk hb1
  go_enter Tryz.func30, Tryz.ntmps30
  go_wp2_with fail
  rw [← hw1]
  clear hw1
  have c5 := H1.out _ ((Below.refl w1.heap.size w1).drew)
  go_region_held3 (fun W => W.cell? ⟨w.heap.size, 0, none⟩ = some (.int .i64 nd) ∧ W.cell? ⟨w.heap.size, 1, none⟩ = some (.int .i64 a0) ∧ W.cell? ⟨w.heap.size, 2, none⟩ = some (.int .i64 a1) ∧ W.cell? ⟨w.heap.size, 3, none⟩ = some (.int .i64 a2))
    (first | with_reducible exact c5 | exact c5)
    (first | (go_at_call 63; refine Calls.mono (HO.out _) ?_; rintro e wk ⟨rfl, hbk⟩; have hbk := ((Below.refl w1.heap.size w1).drew).trans hbk; have c5 := H1.out _ hbk))
  have HE := Lib.hid (HB.out.trans (hbk.mono HB.out.size))
  clear c5 hbk H1 HB HO
  go_wp2_with fail
  go_loop [14] (fun iv => ∃ k : Nat, k ≤ 4 ∧ iv = .int .i64 k ∧ Hid (∀ y ∈ [a0, a1, a2, z].take k, okNum y = true)) (fun iv => 4 - (intOf iv).toNat)
  case atStart => exact ⟨0, Nat.zero_le _, rfl, Lib.hid (fun y h => by cases h)⟩
  case round =>
    obtain ⟨k, hk, rfl, hbef⟩ := hrel
    by_cases hlt : k < 4
    · have hst : ∀ y, [a0, a1, a2, z][k]? = some y → okNum y = true → ∀ u ∈ [a0, a1, a2, z].take (k + 1), okNum u = true := fun y hy ho u hu => by
        obtain ⟨hl, rfl⟩ := List.getElem?_eq_some_iff.1 hy
        rw [List.take_succ_eq_append_getElem hl] at hu
        rcases List.mem_append.1 hu with hu | hu
        · exact hbef.out u hu
        · obtain rfl := List.mem_singleton.1 hu
          exact ho
      have hno : ∀ y, [a0, a1, a2, z][k]? = some y → okNum y = false → [a0, a1, a2, z].all okNum = false := fun y hy ho => by
        rw [List.all_eq_false]
        exact ⟨y, List.mem_of_getElem? hy, by rw [ho]; decide⟩
      have HST := Lib.hid hst
      have HNO := Lib.hid hno
      clear hst hno hbef
      obtain rfl | rfl | rfl | rfl : k = 0 ∨ k = 1 ∨ k = 2 ∨ k = 3 := by omega
      · rw [show ((0 : Nat) : Int) = 0 from rfl]
        have hix := idx4_0 a0 a1 a2 z wk
        by_cases g1 : a0 < 0
        · have k1 : decide (a0 < 0) = true := decide_eq_true g1
          have HF := Lib.hid (HNO.out a0 rfl (by unfold okNum; rw [k1]; rfl))
          clear g1 HNO HST
          go_wp2
          go_ret
          exact ⟨congrArg (fun b => Ending.returned (Value.bool b)) (HF.out.symm.trans HRR.out.symm), HE.out⟩
        · have k1 : decide (a0 < 0) = false := decide_eq_false g1
          by_cases g2 : a0 > 1152921504606846976
          · have k2 : decide (a0 > 1152921504606846976) = true := decide_eq_true g2
            have HF := Lib.hid (HNO.out a0 rfl (by unfold okNum; rw [k1, k2]; rfl))
            clear g1 g2 HNO HST
            go_wp2
            go_ret
            exact ⟨congrArg (fun b => Ending.returned (Value.bool b)) (HF.out.symm.trans HRR.out.symm), HE.out⟩
          · have k2 : decide (a0 > 1152921504606846976) = false := decide_eq_false g2
            have HF := Lib.hid (HST.out a0 rfl (by unfold okNum; rw [k1, k2]; rfl))
            clear g1 g2 HNO HST
            go_wp2
            go_round
            case rel => exact ⟨1, by omega, by go_num, HF⟩
            case measure => simp [intOf]
      · rw [show ((1 : Nat) : Int) = 1 from rfl]
        have hix := idx4_1 a0 a1 a2 z wk
        by_cases g1 : a1 < 0
        · have k1 : decide (a1 < 0) = true := decide_eq_true g1
          have HF := Lib.hid (HNO.out a1 rfl (by unfold okNum; rw [k1]; rfl))
          clear g1 HNO HST
          go_wp2
          go_ret
          exact ⟨congrArg (fun b => Ending.returned (Value.bool b)) (HF.out.symm.trans HRR.out.symm), HE.out⟩
        · have k1 : decide (a1 < 0) = false := decide_eq_false g1
          by_cases g2 : a1 > 1152921504606846976
          · have k2 : decide (a1 > 1152921504606846976) = true := decide_eq_true g2
            have HF := Lib.hid (HNO.out a1 rfl (by unfold okNum; rw [k1, k2]; rfl))
            clear g1 g2 HNO HST
            go_wp2
            go_ret
            exact ⟨congrArg (fun b => Ending.returned (Value.bool b)) (HF.out.symm.trans HRR.out.symm), HE.out⟩
          · have k2 : decide (a1 > 1152921504606846976) = false := decide_eq_false g2
            have HF := Lib.hid (HST.out a1 rfl (by unfold okNum; rw [k1, k2]; rfl))
            clear g1 g2 HNO HST
            go_wp2
            go_round
            case rel => exact ⟨2, by omega, by go_num, HF⟩
            case measure => simp [intOf]
      · rw [show ((2 : Nat) : Int) = 2 from rfl]
        have hix := idx4_2 a0 a1 a2 z wk
        by_cases g1 : a2 < 0
        · have k1 : decide (a2 < 0) = true := decide_eq_true g1
          have HF := Lib.hid (HNO.out a2 rfl (by unfold okNum; rw [k1]; rfl))
          clear g1 HNO HST
          go_wp2
          go_ret
          exact ⟨congrArg (fun b => Ending.returned (Value.bool b)) (HF.out.symm.trans HRR.out.symm), HE.out⟩
        · have k1 : decide (a2 < 0) = false := decide_eq_false g1
          by_cases g2 : a2 > 1152921504606846976
          · have k2 : decide (a2 > 1152921504606846976) = true := decide_eq_true g2
            have HF := Lib.hid (HNO.out a2 rfl (by unfold okNum; rw [k1, k2]; rfl))
            clear g1 g2 HNO HST
            go_wp2
            go_ret
            exact ⟨congrArg (fun b => Ending.returned (Value.bool b)) (HF.out.symm.trans HRR.out.symm), HE.out⟩
          · have k2 : decide (a2 > 1152921504606846976) = false := decide_eq_false g2
            have HF := Lib.hid (HST.out a2 rfl (by unfold okNum; rw [k1, k2]; rfl))
            clear g1 g2 HNO HST
            go_wp2
            go_round
            case rel => exact ⟨3, by omega, by go_num, HF⟩
            case measure => simp [intOf]
      · rw [show ((3 : Nat) : Int) = 3 from rfl]
        have hix := idx4_3 a0 a1 a2 z wk
        by_cases g1 : z < 0
        · have k1 : decide (z < 0) = true := decide_eq_true g1
          have HF := Lib.hid (HNO.out z rfl (by unfold okNum; rw [k1]; rfl))
          clear g1 HNO HST
          go_wp2
          go_ret
          exact ⟨congrArg (fun b => Ending.returned (Value.bool b)) (HF.out.symm.trans HRR.out.symm), HE.out⟩
        · have k1 : decide (z < 0) = false := decide_eq_false g1
          by_cases g2 : z > 1152921504606846976
          · have k2 : decide (z > 1152921504606846976) = true := decide_eq_true g2
            have HF := Lib.hid (HNO.out z rfl (by unfold okNum; rw [k1, k2]; rfl))
            clear g1 g2 HNO HST
            go_wp2
            go_ret
            exact ⟨congrArg (fun b => Ending.returned (Value.bool b)) (HF.out.symm.trans HRR.out.symm), HE.out⟩
          · have k2 : decide (z > 1152921504606846976) = false := decide_eq_false g2
            have HF := Lib.hid (HST.out z rfl (by unfold okNum; rw [k1, k2]; rfl))
            clear g1 g2 HNO HST
            go_wp2
            go_round
            case rel => exact ⟨4, by omega, by go_num, HF⟩
            case measure => simp [intOf]
    · obtain rfl : k = 4 := by omega
      have HALL := Lib.hid (show [a0, a1, a2, z].all okNum = true from List.all_eq_true.2 fun y hy => hbef.out y hy)
      clear hbef
      go_wp2
      go_ret
      exact ⟨congrArg (fun b => Ending.returned (Value.bool b)) (HALL.out.symm.trans HRR.out.symm), HE.out⟩
end Go.Proofs.YtlcbmobdokicaaaGreat

/-
  docs.Put by contract over a view in memory. Conditions: which numbers are ints; that a view's changes are fewer than a million.
-/
namespace Go.Proofs.YtlcbmobdokicaaaGreat
open Go.RowKit Go.Maps
set_option maxRecDepth 100000
set_option linter.unusedVariables false

theorem chg_map {w : World} {X : Nat → Prop} {v m c : Nat} {S : VS} (h : ViewAt w X v m c S) : ∃ es k, w.heap[c]? = some (.map es k) := by
  obtain ⟨f, h1, _⟩ := h.chg
  exact h1.block
theorem putLs_len (i : Int) : ∀ (l : List Dl) (S : VS) (j : Nat), (putLs S i j l).C.length ≤ S.C.length + l.length
  | [], S, j => Nat.le_refl _
  | x :: r, S, j => by
    show (putLs (S.putL i j x) i (j + 1) r).C.length ≤ _
    have h1 := putLs_len i r (S.putL i j x) (j + 1)
    have h2 : (S.putL i j x).C.length ≤ S.C.length + 1 := setT_len _ _ _
    rw [List.length_cons]
    omega
section
variable {w w' : World} {X : Nat → Prop} {v m c : Nat} {S : VS}
/-- A document's line put, by a call of set. -/
theorem setLine_at (h : ViewAt w X v m c S) {kA vA : Option Addr} {kc vc : Nat} (i j : Int) (x : Dl) (hp : Two_ w kA 9 kc vA 32 vc (keyL 76 [i, j]) (packN 8 [x.nd, x.o, x.l, x.c])) (hC : S.C.length < maxLen) :
    Calls Tryz.prog 97 #[.agg #[.pointer (some ⟨v, 0, none⟩)], .agg #[.slice kA 9 kc, .slice vA 32 vc]] w fun e w' => e = .returned (.int .i64 0) ∧ ViewAt w' X v m c (S.putL i j x) ∧ Touch (fun k => k = c) w w' :=
  fileSet_any h hp.k hp.v (by decide) (by decide) (putE_line i j x) hC
theorem setDoc_at (h : ViewAt w X v m c S) {kA vA : Option Addr} {kc vc : Nat} (x : Dc) (hp : Two_ w kA 5 kc vA 32 vc (keyL 68 [x.i]) (packN 8 [x.k, x.y, x.f, x.n])) (hC : S.C.length < maxLen) :
    Calls Tryz.prog 97 #[.agg #[.pointer (some ⟨v, 0, none⟩)], .agg #[.slice kA 5 kc, .slice vA 32 vc]] w fun e w' => e = .returned (.int .i64 0) ∧ ViewAt w' X v m c (S.putD x) ∧ Touch (fun k => k = c) w w' :=
  fileSet_any h hp.k hp.v (by decide) (by decide) (putE_doc x) hC
set_option maxHeartbeats 12800000 in
theorem docsPut_any (h : ViewAt w X v m c S) (d : Dc) (hd : DcOk d) {A : Option Addr} {n cap : Nat} {l : List Dl} (hr : DlE.R w w.heap.size A n l) (hcap : n ≤ cap) (hn : n ≤ maxLen) (hC : S.C.length ≤ 1000000) :
    Calls Tryz.prog 76 #[.pointer (some ⟨v, 0, none⟩), .agg #[.int .i64 d.i, .int .i64 d.k, .int .i64 d.y, .int .i64 d.f, .int .i64 d.n], .slice A n cap] w fun e w' => e = .returned (.tuple #[.int .i64 (putDoc S d l).1.1, .int .i64 (putDoc S d l).1.2]) ∧ ViewAt w' X v m c (putDoc S d l).2 ∧ Touch (fun k => k = c) w w' := by
  unfold maxLen at hn
  obtain ⟨w1, hw1⟩ : ∃ w1, w1 = w.alloc (.cells #[.int .i64 d.i, .int .i64 d.k, .int .i64 d.y, .int .i64 d.f, .int .i64 d.n] 66) := ⟨_, rfl⟩
  have hb1 : Below w.heap.size w w1 := by rw [hw1]; exact (Below.refl _ _).alloc (Nat.le_refl _) _
  have hs1 : w1.heap.size = w.heap.size + 1 := by rw [hw1]; simp
  have hblk : w1.heap[w.heap.size]? = some (.cells #[.int .i64 d.i, .int .i64 d.k, .int .i64 d.y, .int .i64 d.f, .int .i64 d.n] 66 (0, 0)) := by rw [hw1]; exact heap_alloc_new w _
  have hcw : c < w.heap.size := h.lt c h.xc
  have hlen : l.length = n := hr.len
  have h1 := h.below hb1
  have HV1 := Lib.hid h1
  have HR1 := Lib.hid ((hr.below hb1).more hb1.size)
  have HBK := Lib.hid (And.intro hblk hs1)
  have HT1 := Lib.hid (Touch.of_below (F := fun k => k = c) hb1)
  have e1 : n < 1 ∨ n > 6 → putDoc S d l = ((0, 1), S) := fun h => by unfold putDoc; rw [hlen, if_pos h]
  have e2 : ¬ (n < 1 ∨ n > 6) → (nextE (seqV (S.now (tx (keyL 83 [2]))))).2 ≠ 0 → putDoc S d l = ((0, 9), S) := fun h g => by unfold putDoc; rw [hlen, if_neg h, if_neg g]
  have e3 : ¬ (n < 1 ∨ n > 6) → (nextE (seqV (S.now (tx (keyL 83 [2]))))).2 = 0 → putDoc S d l = ((seqV (S.now (tx (keyL 83 [2]))) + 1, 0), (putLs (S.next 2) (seqV (S.now (tx (keyL 83 [2]))) + 1) 0 l).putD ⟨seqV (S.now (tx (keyL 83 [2]))) + 1, d.k, d.y, d.f, n⟩) := fun h g => by unfold putDoc; rw [hlen, if_neg h, if_pos g]
  have HNX := sNext_any h1 2 (by omega) (Nat.lt_of_le_of_lt hC (by decide))
  have b1 := fun (g : (nextE (seqV (S.now (tx (keyL 83 [2]))))).2 ≠ 0) => next_bad (S := S) (n := 2) g
  have b2 := fun (g : (nextE (seqV (S.now (tx (keyL 83 [2]))))).2 = 0) => next_ok (S := S) (n := 2) g
  have hnl : (S.next 2).C.length ≤ S.C.length + 1 := next_len S 2
  generalize seqV (S.now (tx (keyL 83 [2]))) = q at HNX e2 e3 b1 b2
  generalize putDoc S d l = res at e1 e2 e3 ⊢
  have E := Lib.hid (And.intro e1 (And.intro e2 e3))
  have HB12 := Lib.hid (And.intro b1 b2)
  have HNX := Lib.hid HNX
  have HLEN := Lib.hid (And.intro hlen (And.intro hd (And.intro hC hnl)))
  clear e1 e2 e3 b1 b2 h h1 hr hlen hd hC hb1 hs1 hblk hnl
  by_cases g1 : n < 1
  · have k1 : decide ((n : Int) < 1) = true := decide_eq_true (by omega)
    obtain rfl := E.out.1 (.inl g1)
    have HE := Lib.hid (And.intro HV1.out HT1.out)
    clear E HB12 HNX g1
    go_enter Tryz.func76, Tryz.ntmps76
    go_wp2_with fail
    rw [← hw1]
    go_ret2
    exact ⟨rfl, HE.out⟩
  have k1 : decide ((n : Int) < 1) = false := decide_eq_false (by omega)
  by_cases g2 : n > 6
  · have k2 : decide ((n : Int) > 6) = true := decide_eq_true (by omega)
    obtain rfl := E.out.1 (.inr g2)
    have HE := Lib.hid (And.intro HV1.out HT1.out)
    clear E HB12 HNX g1 g2
    go_enter Tryz.func76, Tryz.ntmps76
    go_wp2_with fail
    rw [← hw1]
    go_ret2
    exact ⟨rfl, HE.out⟩
  have k2 : decide ((n : Int) > 6) = false := decide_eq_false (by omega)
  have hn6 : ¬ (n < 1 ∨ n > 6) := by omega
  have E2 := Lib.hid (E.out.2.1 hn6)
  have E3 := Lib.hid (E.out.2.2 hn6)
  clear E hn6 g1
  go_enter Tryz.func76, Tryz.ntmps76
  go_wp2_with fail
  rw [← hw1]
  clear hw1
  refine HNX.out.mono ?_
  rintro e w2 ⟨rfl, h2, t2⟩
  by_cases hq : (nextE q).2 = 0
  · obtain ⟨hq1, hq2, hq3⟩ := HB12.out.2 hq
    rw [hq1]
    obtain rfl := E3.out hq
    have hs2 : w1.heap.size ≤ w2.heap.size := t2.size
    have hblk2 : w2.heap[w.heap.size]? = some (.cells #[.int .i64 d.i, .int .i64 d.k, .int .i64 d.y, .int .i64 d.f, .int .i64 d.n] 66 (0, 0)) := (t2.block _ (by have := HBK.out.2; omega) (by omega)).trans HBK.out.1
    have hr2 := (dlR_touch HR1.out (Nat.le_refl _) (chg_map HV1.out) t2).more hs2
    -- the file's box
    obtain ⟨w3, hw3⟩ : ∃ w3, w3 = w2.alloc (.cells #[.pointer (some ⟨v, 0, none⟩)] 106 (0, 0)) := ⟨_, rfl⟩
    have hb3 : Below w2.heap.size w2 w3 := by rw [hw3]; exact (Below.refl _ _).alloc (Nat.le_refl _) _
    have hs3 : w3.heap.size = w2.heap.size + 1 := by rw [hw3]; simp
    have hf3 : w3.heap[w2.heap.size]? = some (.cells #[.pointer (some ⟨v, 0, none⟩)] 106 (0, 0)) := by rw [hw3]; exact heap_alloc_new w2 _
    have h3 := h2.below hb3
    have hr3 := (hr2.below hb3).more hb3.size
    have HT3 := Lib.hid ((HT1.out.trans t2).trans (Touch.of_below (F := fun k => k = c) hb3))
    have hcl : c < w2.heap.size := h2.lt c h2.xc
    have HST := Lib.hid (show ∀ W, Touch (fun k => k = c) w3 W → W.heap[w2.heap.size]? = some (.cells #[.pointer (some ⟨v, 0, none⟩)] 106 (0, 0)) ∧ W.heap[w.heap.size]? = some (.cells #[.int .i64 d.i, .int .i64 d.k, .int .i64 d.y, .int .i64 d.f, .int .i64 d.n] 66 (0, 0)) ∧ DlE.R W w3.heap.size A n l ∧ Touch (fun k => k = c) w W from fun W hW =>
      ⟨(hW.block _ (by omega) (by omega)).trans hf3, (hW.block w.heap.size (by have := HBK.out.2; omega) (by omega)).trans ((hb3.block _ (by have := HBK.out.2; omega)).trans hblk2), dlR_touch hr3 (Nat.le_refl _) (chg_map h3) hW, HT3.out.trans hW⟩)
    have HV3 := Lib.hid h3
    have HQ := Lib.hid (And.intro hq2 (And.intro hq3 (show -9223372036854775808 ≤ q + 1 ∧ q + 1 ≤ 9223372036854775807 by omega)))
    have HC3 := Lib.hid (And.intro hcl hs3)
    have k0 : ((0 : Int) != 0) = false := rfl
    clear h2 t2 hr2 hb3 hs3 hf3 h3 hr3 hs2 hblk2 HNX HB12 E2 E3 HT1 HV1 HR1 HBK hq hq1 hcl HT3
    obtain ⟨i, hi⟩ : ∃ i, i = q + 1 := ⟨_, rfl⟩
    rw [← hi] at HQ ⊢
    have HI := Lib.hid hi
    clear hi
    go_wp2_with fail
    rw [← hw3]
    clear hw3
    go_loopw [36] (fun iv wr => ∃ j : Nat, j ≤ n ∧ iv = .int .i64 j ∧ Hid (ViewAt wr X v m c (putLs (S.next 2) i 0 (l.take j)) ∧ Touch (fun k => k = c) w3 wr)) (fun iv _ => n - (intOf iv).toNat)
    case atStart => exact ⟨0, Nat.zero_le _, rfl, Lib.hid ⟨by rw [List.take_zero]; exact HV3.out, Touch.refl _ _⟩⟩
    case round =>
      clear HV3
      obtain ⟨j, hj, rfl, HJ⟩ := hrel
      by_cases hlt : j < n
      · have hlt' : (j : Int) < (n : Int) := by omega
        obtain ⟨hvw, htw⟩ := HJ.out
        obtain ⟨hf, _, hrw, _⟩ := HST.out wr htw
        obtain ⟨x, hx⟩ : ∃ x, l[j]? = some x := ⟨_, List.getElem?_eq_getElem (by rw [HLEN.out.1]; exact hlt)⟩
        have hxok := hrw.ok x (List.mem_of_getElem? hx)
        obtain ⟨b, off, rfl, hb, c0, c1, c2, c3⟩ := dl_at hrw hx
        have hps := putLs_take (S.next 2) i hx
        have hlp := putLs_len i (l.take j) (S.next 2) 0
        obtain ⟨wb, hwb⟩ : ∃ wb, wb = wr.alloc (.cells #[.int .i64 x.nd, .int .i64 x.o, .int .i64 x.l, .int .i64 x.c] 58 (0, 0)) := ⟨_, rfl⟩
        have hbb : Below wr.heap.size wr wb := by rw [hwb]; exact (Below.refl _ _).alloc (Nat.le_refl _) _
        have hblk : wb.heap[wr.heap.size]? = some (.cells #[.int .i64 x.nd, .int .i64 x.o, .int .i64 x.l, .int .i64 x.c] 58 (0, 0)) := by rw [hwb]; exact heap_alloc_new wr _
        have hsz : wb.heap.size = wr.heap.size + 1 := by rw [hwb]; simp
        have hfl : w2.heap.size < wr.heap.size := (Array.getElem?_eq_some_iff.1 hf).1
        have hcr : c < wr.heap.size := hvw.lt c hvw.xc
        have H1 := Lib.hid (show ∀ W, Touch (fun k => k = c) wb W → W.cell? ⟨w2.heap.size, 0, none⟩ = some (.pointer (some ⟨v, 0, none⟩)) ∧ W.cell? ⟨wr.heap.size, 0, none⟩ = some (.int .i64 x.nd) ∧ W.cell? ⟨wr.heap.size, 1, none⟩ = some (.int .i64 x.o) ∧ W.cell? ⟨wr.heap.size, 2, none⟩ = some (.int .i64 x.l) ∧ W.cell? ⟨wr.heap.size, 3, none⟩ = some (.int .i64 x.c) from fun W hW => by
          have hcw2 := HC3.out.1
          have f1 := (hW.block w2.heap.size (by omega) (by omega)).trans ((hbb.block _ hfl).trans hf)
          have f2 := (hW.block wr.heap.size (by omega) (by omega)).trans hblk
          exact ⟨cell_of_row W _ 0 _ _ (0, 0) f1, docLine_cells f2⟩)
        have HVB := Lib.hid (show ∀ W, Below wb.heap.size wb W → ViewAt W X v m c (putLs (S.next 2) i 0 (l.take j)) from fun W hW => hvw.below (hbb.trans (hW.mono hbb.size)))
        have hin : In64 [x.nd, x.o, x.l, x.c, i, (j : Int)] := by
          intro z hz
          simp only [List.mem_cons, List.not_mem_nil, or_false] at hz
          rcases hz with rfl | rfl | rfl | rfl | rfl | rfl
          · exact hxok _ (by simp)
          · exact hxok _ (by simp)
          · exact hxok _ (by simp)
          · exact hxok _ (by simp)
          · exact HQ.out.2.2
          · omega
        have HDL := Lib.hid (fun W => recDocLine_any i (j : Int) x.nd x.o x.l x.c W hin)
        have hC2 : (putLs (S.next 2) i 0 (l.take j)).C.length < maxLen := by
          rw [List.length_take] at hlp
          have h1 : min j l.length ≤ j := Nat.min_le_left _ _
          have h2 := HLEN.out.2.2.1
          have h3 := HLEN.out.2.2.2
          unfold maxLen
          omega
        have HNEXT := Lib.hid (show ∀ W, ViewAt W X v m c ((putLs (S.next 2) i 0 (l.take j)).putL i j x) → Touch (fun k => k = c) wb W → ViewAt W X v m c (putLs (S.next 2) i 0 (l.take (j + 1))) ∧ Touch (fun k => k = c) w3 W from fun W hV hT => ⟨by rw [hps]; exact hV, (htw.trans (Touch.of_below hbb)).trans hT⟩)
        clear hvw htw hf hrw hx hxok hps hlp hbb hblk hsz hfl hcr hin HJ hb
        go_wp2_with fail
        rw [← hwb]
        clear hwb c0 c1 c2 c3
        have c5 := H1.out _ (Touch.of_below ((Below.refl wb.heap.size wb).drew))
        go_region_held3 (fun W => W.cell? ⟨w2.heap.size, 0, none⟩ = some (.pointer (some ⟨v, 0, none⟩)) ∧ W.cell? ⟨wr.heap.size, 0, none⟩ = some (.int .i64 x.nd) ∧ W.cell? ⟨wr.heap.size, 1, none⟩ = some (.int .i64 x.o) ∧ W.cell? ⟨wr.heap.size, 2, none⟩ = some (.int .i64 x.l) ∧ W.cell? ⟨wr.heap.size, 3, none⟩ = some (.int .i64 x.c))
          (first | with_reducible exact c5 | exact c5)
          (first
            | (go_at_call 98; refine Calls.mono (HDL.out _) ?_; rintro e wk hp; obtain ⟨kA, kc, vA, vc, rfl, h2, hbk⟩ := hp.gets (nk := 9) (nv := 32) (by omega) (by simp) rfl rfl; have hbk := ((Below.refl wb.heap.size wb).drew).trans hbk; have c5 := H1.out _ (Touch.of_below hbk); have hst := setLine_at (HVB.out _ hbk) i (j : Int) x h2 hC2)
            | (go_at_call 97; refine Calls.mono hst ?_; rintro e wq ⟨rfl, hvq, htq⟩; have htq := (Touch.of_below hbk).trans htq; have c5 := H1.out _ htq))
        have HJ := Lib.hid (HNEXT.out wq hvq htq)
        clear c5 hvq htq hst hbk h2 hp H1 HVB HDL HNEXT
        go_wp2_with fail
        go_roundw
        case rel => exact ⟨j + 1, by omega, by go_num, HJ⟩
        case measure => simp [intOf]; omega
      · obtain rfl : j = n := by omega
        obtain ⟨hvw, htw⟩ := HJ.out
        rw [show l.take j = l by rw [← HLEN.out.1, List.take_length]] at hvw
        obtain ⟨hf, hdb, _, htt⟩ := HST.out wr htw
        have d1 : wr.cell? ⟨w.heap.size, 1, none⟩ = some (.int .i64 d.k) := by rw [cell_of_row wr _ 1 _ _ (0, 0) hdb]; rfl
        have d2 : wr.cell? ⟨w.heap.size, 2, none⟩ = some (.int .i64 d.y) := by rw [cell_of_row wr _ 2 _ _ (0, 0) hdb]; rfl
        have d3 : wr.cell? ⟨w.heap.size, 3, none⟩ = some (.int .i64 d.f) := by rw [cell_of_row wr _ 3 _ _ (0, 0) hdb]; rfl
        have hlp := putLs_len i l (S.next 2) 0
        obtain ⟨wb, hwb⟩ : ∃ wb, wb = wr.alloc (.cells #[.int .i64 i, .int .i64 d.k, .int .i64 d.y, .int .i64 d.f, .int .i64 (j : Int)] 66 (0, 0)) := ⟨_, rfl⟩
        have hbb : Below wr.heap.size wr wb := by rw [hwb]; exact (Below.refl _ _).alloc (Nat.le_refl _) _
        have hblk : wb.heap[wr.heap.size]? = some (.cells #[.int .i64 i, .int .i64 d.k, .int .i64 d.y, .int .i64 d.f, .int .i64 (j : Int)] 66 (0, 0)) := by rw [hwb]; exact heap_alloc_new wr _
        have hsz : wb.heap.size = wr.heap.size + 1 := by rw [hwb]; simp
        have hfl : w2.heap.size < wr.heap.size := (Array.getElem?_eq_some_iff.1 hf).1
        have hcr : c < wr.heap.size := hvw.lt c hvw.xc
        have H1 := Lib.hid (show ∀ W, Touch (fun k => k = c) wb W → W.cell? ⟨w2.heap.size, 0, none⟩ = some (.pointer (some ⟨v, 0, none⟩)) ∧ W.cell? ⟨wr.heap.size, 0, none⟩ = some (.int .i64 i) ∧ W.cell? ⟨wr.heap.size, 1, none⟩ = some (.int .i64 d.k) ∧ W.cell? ⟨wr.heap.size, 2, none⟩ = some (.int .i64 d.y) ∧ W.cell? ⟨wr.heap.size, 3, none⟩ = some (.int .i64 d.f) ∧ W.cell? ⟨wr.heap.size, 4, none⟩ = some (.int .i64 (j : Int)) from fun W hW => by
          have hcw2 := HC3.out.1
          have f1 := (hW.block w2.heap.size (by omega) (by omega)).trans ((hbb.block _ hfl).trans hf)
          have f2 := (hW.block wr.heap.size (by omega) (by omega)).trans hblk
          exact ⟨cell_of_row W _ 0 _ _ (0, 0) f1, doc_cells f2⟩)
        have HVB := Lib.hid (show ∀ W, Below wb.heap.size wb W → ViewAt W X v m c (putLs (S.next 2) i 0 l) from fun W hW => hvw.below (hbb.trans (hW.mono hbb.size)))
        have hin : In64 [i, d.k, d.y, d.f, (j : Int)] := by
          intro z hz
          have hdok := HLEN.out.2.1
          simp only [List.mem_cons, List.not_mem_nil, or_false] at hz
          rcases hz with rfl | rfl | rfl | rfl | rfl
          · exact HQ.out.2.2
          · exact hdok _ (by simp)
          · exact hdok _ (by simp)
          · exact hdok _ (by simp)
          · omega
        have HDL := Lib.hid (fun W => recDoc_any i d.k d.y d.f (j : Int) W hin)
        have hC2 : (putLs (S.next 2) i 0 l).C.length < maxLen := by
          have h1 := HLEN.out.1
          have h2 := HLEN.out.2.2.1
          have h3 := HLEN.out.2.2.2
          unfold maxLen
          omega
        have HTT := Lib.hid (htt.trans (Touch.of_below (F := fun k => k = c) hbb))
        clear hvw htw hf hdb htt hlp hbb hblk hsz hfl hcr hin HJ HST
        go_wp2_with fail
        rw [← hwb]
        clear hwb d1 d2 d3
        have c5 := H1.out _ (Touch.of_below ((Below.refl wb.heap.size wb).drew))
        go_region_held3 (fun W => W.cell? ⟨w2.heap.size, 0, none⟩ = some (.pointer (some ⟨v, 0, none⟩)) ∧ W.cell? ⟨wr.heap.size, 0, none⟩ = some (.int .i64 i) ∧ W.cell? ⟨wr.heap.size, 1, none⟩ = some (.int .i64 d.k) ∧ W.cell? ⟨wr.heap.size, 2, none⟩ = some (.int .i64 d.y) ∧ W.cell? ⟨wr.heap.size, 3, none⟩ = some (.int .i64 d.f) ∧ W.cell? ⟨wr.heap.size, 4, none⟩ = some (.int .i64 (j : Int)))
          (first | with_reducible exact c5 | exact c5)
          (first
            | (go_at_call 118; refine Calls.mono (HDL.out _) ?_; rintro e wk hp; obtain ⟨kA, kc, vA, vc, rfl, h2, hbk⟩ := hp.gets (nk := 5) (nv := 32) (by omega) (by simp) rfl rfl; have hbk := ((Below.refl wb.heap.size wb).drew).trans hbk; have c5 := H1.out _ (Touch.of_below hbk); have hst := setDoc_at (HVB.out _ hbk) ⟨i, d.k, d.y, d.f, (j : Int)⟩ h2 hC2)
            | (go_at_call 97; refine Calls.mono hst ?_; rintro e wq ⟨rfl, hvq, htq⟩; have htq := (Touch.of_below hbk).trans htq; have c5 := H1.out _ htq))
        have HE := Lib.hid (And.intro hvq (HTT.out.trans htq))
        clear c5 hvq htq hst hbk h2 hp H1 HVB HDL HTT
        go_wp2_with fail
        go_ret2
        exact ⟨congrArg (fun z => Ending.returned (Value.tuple #[.int .i64 z, .int .i64 0])) HI.out, by rw [← HI.out]; exact HE.out⟩
  · have hb := HB12.out.1 hq
    rw [hb.2]
    have hE2 := E2.out hq
    subst hE2
    rw [hb.1] at h2
    have k9 : ((9 : Int) != 0) = true := rfl
    have HE := Lib.hid (And.intro h2 (HT1.out.trans t2))
    clear hb h2 t2 HNX HB12 E2 E3 hq
    go_wp2_with fail
    go_ret2
    exact ⟨rfl, HE.out⟩
end
end Go.Proofs.YtlcbmobdokicaaaGreat
