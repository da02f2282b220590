/-
  Contracts of entry over a view in memory: one record set, an entry of just these lines, Put. Condition: which numbers are ints; few lines.
-/
import Derived.Test.YtilhcchnlbdlhaaGreatViewC
import Derived.Test.YtilhcchnlbdlhaaGreatEntP
import Derived.Test.YtilhcchnlbdlhaaGreatBalB
import Derived.Test.YtilhcchnlbdlhaaGreatRecG
import Derived.Test.YtilhcchnlbdlhaaGreatItfB
import Derived.Deep.RegionHeld3
namespace Go.Proofs.YtilhcchnlbdlhaaGreat
open Go.RowKit Go.Maps
set_option maxRecDepth 100000
set_option linter.unusedVariables false

section
variable {w w' : World} {X : Nat → Prop} {v m c : Nat} {S : VS}
set_option maxHeartbeats 1600000 in
theorem entSet_any (h : ViewAt w X v m c S) {kA vA : Option Addr} {kn kc vn vc : Nat} {K Vl : List Int} (h2 : Two_ w kA kn kc vA vn vc K Vl) (hkn : kn ≤ maxLen) (hvn : vn ≤ maxLen) (hC : S.C.length < maxLen) (he : putE K Vl = 0) :
    Calls Tryz.prog 72 #[.agg #[.pointer (some ⟨v, 0, none⟩)], .agg #[.slice kA kn kc, .slice vA vn vc]] w fun e w' => e = .returned (.int .i64 0) ∧ ViewAt w' X v m c (S.put (tx K) Vl) ∧ Touch (fun k => k = c) w w' := by
  obtain ⟨w1, hw1⟩ : ∃ w1, w1 = (w.alloc (.cells #[.pointer (some ⟨v, 0, none⟩)] 92)).alloc (.cells #[.slice kA kn kc, .slice vA vn vc] 46) := ⟨_, rfl⟩
  have hb1 : Below w.heap.size w w1 := by rw [hw1]; exact ((Below.refl _ _).alloc (Nat.le_refl _) _).alloc (by simp) _
  have g0 : w1.heap[w.heap.size]? = some (.cells #[.pointer (some ⟨v, 0, none⟩)] 92 (0, 0)) := by rw [hw1]; exact (((Below.refl (w.alloc _).heap.size _).alloc (Nat.le_refl _) _).block _ (by simp)).trans (heap_alloc_new _ _)
  have g1 : w1.heap[w.heap.size + 1]? = some (.cells #[.slice kA kn kc, .slice vA vn vc] 46 (0, 0)) := by rw [hw1]; exact heap_alloc2_new _ _ _
  have c0 : w1.cell? ⟨w.heap.size, 0, none⟩ = some (.pointer (some ⟨v, 0, none⟩)) := cell_of_row w1 _ 0 _ _ (0, 0) g0
  have p0 := box_cell0 g1
  have p1 := box_cell1 g1
  have HP := vPut_any (k := kc) (k' := vc) (h.below hb1) (h2.k.below hb1) hb1.size hkn (h2.v.below hb1) hb1.size hvn hC
  rw [he, show S.putR K Vl = S.put (tx K) Vl by unfold VS.putR; rw [if_pos he]] at HP
  have HP := Lib.hid HP
  have HT := Lib.hid (Touch.of_below (F := fun k => k = c) hb1)
  clear h h2 hb1 g0 g1
  go_enter Tryz.func72, Tryz.ntmps72
  go_wp2_with fail
  rw [← hw1]
  clear hw1
  go_wp2_with fail
  refine HP.out.mono ?_
  rintro e w4 ⟨rfl, h4, t4⟩
  have HE := Lib.hid (And.intro h4 (HT.out.trans t4))
  clear h4 t4 HP c0 p0 p1
  go_wp2_with fail
  go_ret
  exact ⟨rfl, HE.out⟩
/-- A line's pair, then its record set. -/
theorem lineSet_any (h : ViewAt w X v m c S) (id ln : Int) (l : Ln) (hid : I64 id) (hln : I64 ln) (hl : LnOk l) (hC : S.C.length < maxLen) :
    Calls Tryz.prog 73 #[.int .i64 id, .int .i64 ln, .agg #[.int .i64 l.f, .int .i64 l.o, .int .i64 l.n, .int .i64 l.a]] w fun e w1 => ∃ kA kc vA vc, e = .returned (.agg #[.slice kA 9 kc, .slice vA 24 vc]) ∧ Below w.heap.size w w1 ∧
      Calls Tryz.prog 72 #[.agg #[.pointer (some ⟨v, 0, none⟩)], .agg #[.slice kA 9 kc, .slice vA 24 vc]] w1 fun e w2 => e = .returned (.int .i64 0) ∧ ViewAt w2 X v m c (S.put (tx (keyL 74 [id, ln])) (packN 8 [l.f, l.o, l.a])) ∧ Touch (fun k => k = c) w w2 := by
  refine (recLine_any id ln l.f l.o l.n l.a w (fun z hz => by
    simp only [List.mem_cons, List.not_mem_nil, or_false] at hz
    rcases hz with rfl | rfl | rfl | rfl | rfl | rfl
    · exact hl.1
    · exact hl.2.1
    · exact hl.2.2.1
    · exact hl.2.2.2
    · exact hid
    · exact hln)).mono ?_
  rintro e w1 hp
  obtain ⟨kA, kc, vA, vc, rfl, h2, hb⟩ := hp.gets (nk := 9) (nv := 24) (by omega) (by simp) rfl rfl
  refine ⟨kA, kc, vA, vc, rfl, hb, (entSet_any (h.below hb) h2 (by decide) (by decide) hC (by unfold putE; rw [if_neg]; rw [packN_length, show (keyL 74 [id, ln]).length = 9 by unfold keyL; rw [tagL_length]; rfl]; simp)).mono ?_⟩
  rintro e w2 ⟨rfl, hv, ht⟩
  exact ⟨rfl, hv, (Touch.of_below hb).trans ht⟩
/-- An entry's pair, then its record set. -/
theorem entrySet_any (h : ViewAt w X v m c S) (a0 a1 a2 a3 a4 a5 : Int) (hi : In64 [a0, a1, a2, a3, a4, a5]) (hC : S.C.length < maxLen) :
    Calls Tryz.prog 75 #[.agg #[.int .i64 a0, .int .i64 a1, .int .i64 a2, .int .i64 a3, .int .i64 a4, .int .i64 a5]] w fun e w1 => ∃ kA kc vA vc, e = .returned (.agg #[.slice kA 5 kc, .slice vA 40 vc]) ∧ Below w.heap.size w w1 ∧
      Calls Tryz.prog 72 #[.agg #[.pointer (some ⟨v, 0, none⟩)], .agg #[.slice kA 5 kc, .slice vA 40 vc]] w1 fun e w2 => e = .returned (.int .i64 0) ∧ ViewAt w2 X v m c (S.put (tx (keyL 69 [a0])) (packN 8 [a1, a2, a3, a4, a5])) ∧ Touch (fun k => k = c) w w2 := by
  refine (recEntry_any a0 a1 a2 a3 a4 a5 w hi).mono ?_
  rintro e w1 hp
  obtain ⟨kA, kc, vA, vc, rfl, h2, hb⟩ := hp.gets (nk := 5) (nv := 40) (by omega) (by simp) rfl rfl
  refine ⟨kA, kc, vA, vc, rfl, hb, (entSet_any (h.below hb) h2 (by decide) (by decide) hC (by unfold putE; rw [if_neg]; rw [packN_length, show (keyL 69 [a0]).length = 5 by unfold keyL; rw [tagL_length]; rfl]; simp)).mono ?_⟩
  rintro e w2 ⟨rfl, hv, ht⟩
  exact ⟨rfl, hv, (Touch.of_below hb).trans ht⟩
/-- The boxes of an entry that is being made. -/
def EntBox (W : World) (g v : Nat) (a0 y kind n3 of_ by_ : Int) : Prop := W.heap[g]? = some (.cells #[.pointer (some ⟨v, 0, none⟩)] 92 (0, 0)) ∧ W.heap[g + 1]? = some (.cells #[.int .i64 a0, .int .i64 y, .int .i64 kind, .int .i64 n3, .int .i64 of_, .int .i64 by_] 36 (0, 0))
theorem EntBox.cells {W : World} {g v : Nat} {a0 y kind n3 of_ by_ : Int} (h : EntBox W g v a0 y kind n3 of_ by_) : W.cell? ⟨g, 0, none⟩ = some (.pointer (some ⟨v, 0, none⟩)) ∧ W.cell? ⟨g + 1, 1, none⟩ = some (.int .i64 y) ∧ W.cell? ⟨g + 1, 2, none⟩ = some (.int .i64 kind) ∧ W.cell? ⟨g + 1, 4, none⟩ = some (.int .i64 of_) :=
  ⟨cell_of_row W g 0 _ _ (0, 0) h.1, cell_of_row W (g + 1) 1 _ _ (0, 0) h.2, cell_of_row W (g + 1) 2 _ _ (0, 0) h.2, cell_of_row W (g + 1) 4 _ _ (0, 0) h.2⟩
theorem EntBox.touch {W W' : World} {g v c : Nat} {a0 y kind n3 of_ by_ : Int} (h : EntBox W g v a0 y kind n3 of_ by_) (ht : Touch (fun k => k = c) W W') (h1 : g ≠ c) (h2 : g + 1 ≠ c) : EntBox W' g v a0 y kind n3 of_ by_ :=
  ⟨(ht.block g (Array.getElem?_eq_some_iff.1 h.1).1 h1).trans h.1, (ht.block (g + 1) (Array.getElem?_eq_some_iff.1 h.2).1 h2).trans h.2⟩
set_option maxHeartbeats 12800000 in
theorem entAdd_any (h : ViewAt w X v m c S) (hok : S.Ok) (a0 y kind n3 of_ by_ : Int) (hy : I64 y) (hkind : I64 kind) (hof : I64 of_) {n k : Nat} {A : Option Addr} {l : List Ln} (hr : ∀ W, Touch (fun k => k = c) w W → RL W W.heap.size A n l) (hn : n ≤ 2147483647) (hC : S.C.length ≤ 2147483647) :
    Calls Tryz.prog 43 #[.agg #[.pointer (some ⟨v, 0, none⟩)], .agg #[.int .i64 a0, .int .i64 y, .int .i64 kind, .int .i64 n3, .int .i64 of_, .int .i64 by_], .slice A n k] w fun e w' => e = .returned (.tuple #[.int .i64 (entAdd S y kind of_ l).2.1, .int .i64 (entAdd S y kind of_ l).2.2]) ∧ ViewAt w' X v m c (entAdd S y kind of_ l).1 ∧ Touch (fun k => k = c) w w' := by
  have hcl : c < w.heap.size := h.lt c h.xc
  obtain ⟨w1, hw1⟩ : ∃ w1, w1 = (w.alloc (.cells #[.pointer (some ⟨v, 0, none⟩)] 92)).alloc (.cells #[.int .i64 a0, .int .i64 y, .int .i64 kind, .int .i64 n3, .int .i64 of_, .int .i64 by_] 36) := ⟨_, rfl⟩
  have hb1 : Below w.heap.size w w1 := by rw [hw1]; exact ((Below.refl _ _).alloc (Nat.le_refl _) _).alloc (by simp) _
  have hbox : EntBox w1 w.heap.size v a0 y kind n3 of_ by_ := by
    rw [hw1]
    exact ⟨(((Below.refl (w.alloc _).heap.size _).alloc (Nat.le_refl _) _).block _ (by simp)).trans (heap_alloc_new _ _), heap_alloc2_new _ _ _⟩
  have hv1 := h.below hb1
  have HT1 := Lib.hid (Touch.of_below (F := fun k => k = c) hb1)
  have HC1 := Lib.hid (yCheck_any hv1 y hy)
  have HBX := Lib.hid (show ∀ W, Touch (fun k => k = c) w1 W → EntBox W w.heap.size v a0 y kind n3 of_ by_ from fun W hW => hbox.touch hW (by omega) (by omega))
  have HRW := Lib.hid (show ∀ W, Touch (fun k => k = c) w1 W → RL W W.heap.size A n l from fun W hW => hr W ((Touch.of_below hb1).trans hW))
  obtain ⟨d0, d1, d2, d3⟩ := hbox.cells
  have HOK := Lib.hid hok
  have HV1 := Lib.hid hv1
  have HCC := Lib.hid hC
  obtain ⟨ce, hce⟩ : ∃ ce, ce = chkE (stV (S.now (yKey y))) := ⟨_, rfl⟩
  rw [← hce] at HC1
  by_cases h1 : ce ≠ 0
  · have hb : (ce != 0) = true := by simp [h1]
    have HEQ := Lib.hid (show entAdd S y kind of_ l = (S, 0, ce) by unfold entAdd; rw [← hce, if_pos h1])
    clear hce h1 h hok hr hv1 hbox
    go_enter Tryz.func43, Tryz.ntmps43
    go_wp2_with fail
    rw [← hw1]
    clear hw1
    go_wp2_with fail
    refine HC1.out.mono ?_
    rintro e w2 ⟨rfl, hb2⟩
    have HE := Lib.hid (And.intro (HV1.out.below hb2) (HT1.out.trans (Touch.of_below hb2)))
    clear hb2
    go_wp2_with fail
    go_ret2
    rw [HEQ.out]
    exact ⟨rfl, HE.out⟩
  have hb : (ce != 0) = false := by simpa using h1
  obtain ⟨ne, hne⟩ : ∃ ne, ne = nextE (seqV (S.now (tx (keyL 83 [1])))) := ⟨_, rfl⟩
  have hne64 : I64 ne.1 := by
    rw [hne]
    unfold nextE
    split
    · unfold I64; simp only []; omega
    · rename_i hq
      unfold I64
      simp only []
      omega
  have hcnext := Came_.next hok 1
  have HNX := Lib.hid (show ∀ W, Below w1.heap.size w1 W → Calls Tryz.prog 71 #[.pointer (some ⟨v, 0, none⟩), .int .i64 1] W fun e w' => e = .returned (.tuple #[.int .i64 ne.1, .int .i64 ne.2]) ∧ ViewAt w' X v m c (S.next 1) ∧ Touch (fun k => k = c) W w' from fun W hW => by
    have := sNext_any (hv1.below hW) 1 (by omega) (Nat.lt_of_le_of_lt hC (by unfold maxLen; omega))
    rw [← hne] at this
    exact this)
  have hunf : entAdd S y kind of_ l = if ne.2 ≠ 0 then (S.next 1, 0, ne.2) else if (entLines y ne.1 (S.next 1) 0 l).2 ≠ 0 then ((entLines y ne.1 (S.next 1) 0 l).1, 0, (entLines y ne.1 (S.next 1) 0 l).2) else ((entLines y ne.1 (S.next 1) 0 l).1.put (tx (keyL 69 [ne.1])) (packN 8 [y, kind, (l.length : Int), of_, 0]), ne.1, 0) := by
    unfold entAdd
    rw [← hce, if_neg h1, ← hne]
  by_cases h2 : ne.2 ≠ 0
  · have hb2 : (ne.2 != 0) = true := by simp [h2]
    have HEQ := Lib.hid (show entAdd S y kind of_ l = (S.next 1, 0, ne.2) by rw [hunf, if_pos h2])
    clear hce h1 h hok hr hv1 hbox hunf h2 hne hcnext hne64
    obtain ⟨id, er⟩ := ne
    simp only at HNX hb2 HEQ
    go_enter Tryz.func43, Tryz.ntmps43
    go_wp2_with fail
    rw [← hw1]
    clear hw1
    go_wp2_with fail
    refine HC1.out.mono ?_
    rintro e w2 ⟨rfl, hb2'⟩
    have HN2 := Lib.hid (HNX.out w2 hb2')
    have hT2 := Touch.of_below (F := fun k => k = c) hb2'
    obtain ⟨d0, d1, d2, d3⟩ := (HBX.out w2 hT2).cells
    have HT2 := Lib.hid (HT1.out.trans hT2)
    clear hb2' hT2
    go_wp2_with fail
    refine HN2.out.mono ?_
    rintro e w3 ⟨rfl, h3, t3⟩
    have HE := Lib.hid (And.intro h3 (HT2.out.trans t3))
    clear h3 t3
    go_wp2_with fail
    go_ret2
    rw [HEQ.out]
    exact ⟨rfl, HE.out⟩
  have hb2 : (ne.2 != 0) = false := by simpa using h2
  rw [if_neg h2] at hunf
  have HUNF := Lib.hid hunf
  have HCN := Lib.hid hcnext
  have HI := Lib.hid hne64
  clear hce h1 h hok hr hv1 hbox hunf h2 hne hcnext hne64
  obtain ⟨id, er⟩ := ne
  simp only at HNX hb2 HUNF HI
  go_enter Tryz.func43, Tryz.ntmps43
  go_wp2_with fail
  rw [← hw1]
  clear hw1
  go_wp2_with fail
  refine HC1.out.mono ?_
  rintro e w2 ⟨rfl, hb2'⟩
  have HN2 := Lib.hid (HNX.out w2 hb2')
  have hT2 := Touch.of_below (F := fun k => k = c) hb2'
  obtain ⟨d0, d1, d2, d3⟩ := (HBX.out w2 hT2).cells
  have HT2 := Lib.hid hT2
  clear hb2' hT2 HNX HC1
  go_wp2_with fail
  refine HN2.out.mono ?_
  rintro e w3 ⟨rfl, h3, t3⟩
  have HT3 := Lib.hid (HT2.out.trans t3)
  have H3 := Lib.hid (show ∃ S', ViewAt w3 X v m c S' ∧ entLines y id (S.next 1) 0 l = entLines y id S' 0 (l.drop 0) ∧ Came_ (S.next 1) S' (2 * 0) from ⟨_, h3, rfl, Came_.refl HCN.out.ok⟩)
  clear h3 t3 HN2 d0 d1 d2 d3
  go_wp2_with fail
  go_loopw [36] (fun iv wr => ∃ q : Nat, q ≤ n ∧ iv = .int .i64 q ∧ Hid (∃ S', ViewAt wr X v m c S' ∧ entLines y id (S.next 1) 0 l = entLines y id S' q (l.drop q) ∧ Came_ (S.next 1) S' (2 * q)) ∧ Hid (Touch (fun k => k = c) w1 wr)) (fun iv _ => n - (intOf iv).toNat)
  case atStart => exact ⟨0, Nat.zero_le _, rfl, H3, HT3⟩
  case round =>
    clear H3
    obtain ⟨q, hq, rfl, HM, HTQ⟩ := hrel
    obtain ⟨S', hvw, hline, hcame⟩ := HM.out
    have hrl := HRW.out wr HTQ.out
    obtain ⟨d0, d1, d2, d3⟩ := (HBX.out wr HTQ.out).cells
    by_cases hlt : q < n
    · have hlt' : (q : Int) < (n : Int) := by omega
      obtain ⟨x, hx⟩ : ∃ x, l[q]? = some x := ⟨_, List.getElem?_eq_getElem (by rw [hrl.len]; exact hlt)⟩
      have hxok := hrl.ok x (List.mem_of_getElem? hx)
      obtain ⟨bb, off, rfl, hbb, hat⟩ := hrl.2.2 (by omega)
      obtain ⟨l0, l1, l2, l3⟩ := hat q x hx
      have hdrop : l.drop q = x :: l.drop (q + 1) := by
        obtain ⟨hk', e⟩ := List.getElem?_eq_some_iff.1 hx
        rw [← e]
        exact List.drop_eq_getElem_cons hk'
      obtain ⟨w4, hw4⟩ : ∃ w4, w4 = wr.alloc (.cells #[.int .i64 x.f, .int .i64 x.o, .int .i64 x.n, .int .i64 x.a] 30 (0, 0)) := ⟨_, rfl⟩
      have hb4 : Below wr.heap.size wr w4 := by rw [hw4]; exact (Below.refl _ _).alloc (Nat.le_refl _) _
      have g4 : w4.heap[wr.heap.size]? = some (.cells #[.int .i64 x.f, .int .i64 x.o, .int .i64 x.n, .int .i64 x.a] 30 (0, 0)) := by rw [hw4]; exact heap_alloc_new wr _
      have hgl : wr.heap.size ≠ c := by have := hvw.lt c hvw.xc; omega
      have hSl : S'.C.length ≤ 8589934592 := by have := hcame.c; have := HCN.out.c; have := HCC.out; omega
      have HLS := Lib.hid (lineSet_any (hvw.below hb4.drew) id q x HI.out (by unfold I64; omega) hxok (by unfold maxLen; omega))
      have hcp := hcame.trans (Came_.put hcame.ok (key_short 74 [id, (q : Int)]) (packN 8 [x.f, x.o, x.a]))
      have HT4 := Lib.hid (HTQ.out.trans (Touch.of_below (F := fun k => k = c) hb4))
      have HL4 := Lib.hid (show ∀ W, Touch (fun k => k = c) w4 W → W.cell? ⟨wr.heap.size, 0, none⟩ = some (.int .i64 x.f) ∧ W.cell? ⟨wr.heap.size, 1, none⟩ = some (.int .i64 x.o) ∧ W.cell? ⟨wr.heap.size, 2, none⟩ = some (.int .i64 x.n) ∧ W.cell? ⟨wr.heap.size, 3, none⟩ = some (.int .i64 x.a) from fun W hW => balLine_cells ((hW.block _ (by have := (Array.getElem?_eq_some_iff.1 g4).1; exact this) hgl).trans g4))
      have hdr : Touch (fun k => k = c) w4 w4.drew := Touch.of_below (Below.refl _ _).drew
      obtain ⟨e0, e1, e2, e3⟩ := HL4.out _ hdr
      obtain ⟨b0, b1, b2, b3⟩ := (HBX.out _ (HT4.out.trans hdr)).cells
      have c5 : w4.drew.cell? ⟨w.heap.size, 0, none⟩ = some (.pointer (some ⟨v, 0, none⟩)) ∧ w4.drew.cell? ⟨wr.heap.size, 0, none⟩ = some (.int .i64 x.f) ∧ w4.drew.cell? ⟨wr.heap.size, 1, none⟩ = some (.int .i64 x.o) ∧ w4.drew.cell? ⟨wr.heap.size, 2, none⟩ = some (.int .i64 x.n) ∧ w4.drew.cell? ⟨wr.heap.size, 3, none⟩ = some (.int .i64 x.a) := ⟨b0, e0, e1, e2, e3⟩
      have C5 := Lib.hid (show ∀ W, Touch (fun k => k = c) w4 W → W.cell? ⟨w.heap.size, 0, none⟩ = some (.pointer (some ⟨v, 0, none⟩)) ∧ W.cell? ⟨wr.heap.size, 0, none⟩ = some (.int .i64 x.f) ∧ W.cell? ⟨wr.heap.size, 1, none⟩ = some (.int .i64 x.o) ∧ W.cell? ⟨wr.heap.size, 2, none⟩ = some (.int .i64 x.n) ∧ W.cell? ⟨wr.heap.size, 3, none⟩ = some (.int .i64 x.a) from fun W hW => ⟨(HBX.out W (HT4.out.trans hW)).cells.1, HL4.out W hW⟩)
      have HX := Lib.hid (And.intro hline (And.intro hdrop (And.intro hcp hxok)))
      have HDR := Lib.hid hdr
      clear hrl hat hline hcame hdrop hx hxok hb4 g4 hcp hdr e0 e1 e2 e3 b0 b1 b2 b3 hvw
      go_wp2_with fail
      rw [← hw4]
      clear hw4 l0 l1 l2 l3 d0 d1 d2 d3
      go_region_held3 (fun W => W.cell? ⟨w.heap.size, 0, none⟩ = some (.pointer (some ⟨v, 0, none⟩)) ∧ W.cell? ⟨wr.heap.size, 0, none⟩ = some (.int .i64 x.f) ∧ W.cell? ⟨wr.heap.size, 1, none⟩ = some (.int .i64 x.o) ∧ W.cell? ⟨wr.heap.size, 2, none⟩ = some (.int .i64 x.n) ∧ W.cell? ⟨wr.heap.size, 3, none⟩ = some (.int .i64 x.a))
        (first | with_reducible exact c7 | with_reducible exact c6 | exact c5)
        (first
          | (go_at_call 73; refine HLS.out.mono ?_; rintro e w5 ⟨kA, kc, vA, vc, rfl, hb5, hset⟩; have c6 := C5.out w5 (HDR.out.trans (Touch.of_below hb5)))
          | (go_at_call 72; refine hset.mono ?_; rintro e w6 ⟨rfl, hv6, ht6⟩; have c7 := C5.out w6 (HDR.out.trans ht6)))
      obtain ⟨hline, hdrop, hcp, hxok⟩ := HX.out
      obtain ⟨S6, hS6⟩ : ∃ S6, S6 = S'.put (tx (keyL 74 [id, (q : Int)])) (packN 8 [x.f, x.o, x.a]) := ⟨_, rfl⟩
      rw [← hS6] at hv6 hcp
      have HBA := balAdd_any hv6 y x.f x.o x.n x.a hy hxok.1 hxok.2.1 (by have := hcp.c; have := HCN.out.c; have := HCC.out; unfold maxLen; omega)
      have hunl : entLines y id S' q (x :: l.drop (q + 1)) = if (amtAddR (seqV (S6.now (bKy y x.f x.o))) x.a).2 = 0 then entLines y id (S6.addB (bKy y x.f x.o) x.a) (q + 1) (l.drop (q + 1)) else (S6.addB (bKy y x.f x.o) x.a, (amtAddR (seqV (S6.now (bKy y x.f x.o))) x.a).2) := by
        rw [hS6]
        conv => lhs; unfold entLines
      rw [hdrop, hunl] at hline
      obtain ⟨re, hre⟩ : ∃ re, re = (amtAddR (seqV (S6.now (bKy y x.f x.o))) x.a).2 := ⟨_, rfl⟩
      rw [← hre] at HBA hline
      have hcq := hcp.trans (Came_.addB hcp.ok (show (bKy y x.f x.o).length ≤ 60 by rw [bKy_len]; omega) x.a)
      have HBA := Lib.hid HBA
      have HT6 := Lib.hid (HT4.out.trans (HDR.out.trans ht6))
      obtain ⟨b0, b1, _, _⟩ := (HBX.out w6 HT6.out).cells
      obtain ⟨_, e0, e1, e2, e3⟩ := c7
      by_cases hr0 : re = 0
      · have hrb : (re != 0) = false := by simp [hr0]
        rw [if_pos hr0] at hline
        have HNX := Lib.hid (And.intro hline hcq)
        subst hr0
        clear hline hdrop hcp hxok hS6 hv6 hunl hre hcq ht6 hset hb5 c5 c6 HX HLS C5 HDR HL4 HT4
        go_wp2_with fail
        refine HBA.out.mono ?_
        rintro e w7 ⟨rfl, h7, t7⟩
        have HN := Lib.hid (show ∃ S', ViewAt w7 X v m c S' ∧ entLines y id (S.next 1) 0 l = entLines y id S' (q + 1) (l.drop (q + 1)) ∧ Came_ (S.next 1) S' (2 * (q + 1)) from ⟨_, h7, HNX.out.1, HNX.out.2.more (by omega)⟩)
        have HT7 := Lib.hid (HT6.out.trans t7)
        clear h7 t7 HBA
        go_wp2_with fail
        go_roundw
        case rel => exact ⟨q + 1, by omega, by go_num, HN, HT7⟩
        case measure => simp [intOf]; omega
      · have hrb : (re != 0) = true := by simp [hr0]
        rw [if_neg hr0] at hline
        have HEQ := Lib.hid (show entAdd S y kind of_ l = (S6.addB (bKy y x.f x.o) x.a, 0, re) by rw [HUNF.out, hline, if_pos hr0])
        clear hline hdrop hcp hxok hS6 hv6 hunl hre hcq ht6 hset hb5 c5 c6 HX HLS C5 HDR HL4 HT4 hr0
        go_wp2_with fail
        refine HBA.out.mono ?_
        rintro e w7 ⟨rfl, h7, t7⟩
        have HE := Lib.hid (And.intro h7 (HT1.out.trans (HT6.out.trans t7)))
        clear h7 t7 HBA
        go_wp2_with fail
        go_ret2
        rw [HEQ.out]
        exact ⟨rfl, HE.out⟩
    · obtain rfl : q = n := by omega
      have hnl := hrl.len
      have hd0 : l.drop q = [] := List.drop_of_length_le (by omega)
      rw [hd0] at hline
      have hline : entLines y id (S.next 1) 0 l = (S', 0) := hline
      have HEQ := Lib.hid (show entAdd S y kind of_ l = (S'.put (tx (keyL 69 [id])) (packN 8 [y, kind, (q : Int), of_, 0]), id, 0) by rw [HUNF.out, hline, if_neg (by simp), hnl])
      obtain ⟨w4, hw4⟩ : ∃ w4, w4 = wr.alloc (.cells #[.int .i64 id, .int .i64 y, .int .i64 kind, .int .i64 q, .int .i64 of_, .int .i64 0] 36 (0, 0)) := ⟨_, rfl⟩
      have hb4 : Below wr.heap.size wr w4 := by rw [hw4]; exact (Below.refl _ _).alloc (Nat.le_refl _) _
      have g4 : w4.heap[wr.heap.size]? = some (.cells #[.int .i64 id, .int .i64 y, .int .i64 kind, .int .i64 q, .int .i64 of_, .int .i64 0] 36 (0, 0)) := by rw [hw4]; exact heap_alloc_new wr _
      have hgl : wr.heap.size ≠ c := by have := hvw.lt c hvw.xc; omega
      have HLS := Lib.hid (entrySet_any (hvw.below hb4.drew) id y kind q of_ 0 (fun z hz => by
        simp only [List.mem_cons, List.not_mem_nil, or_false] at hz
        rcases hz with rfl | rfl | rfl | rfl | rfl | rfl
        · exact HI.out
        · exact hy
        · exact hkind
        · omega
        · exact hof
        · omega) (by have := hcame.c; have := HCN.out.c; have := HCC.out; unfold maxLen; omega))
      have HT4 := Lib.hid (HTQ.out.trans (Touch.of_below (F := fun k => k = c) hb4))
      have HL4 := Lib.hid (show ∀ W, Touch (fun k => k = c) w4 W → W.cell? ⟨wr.heap.size, 0, none⟩ = some (.int .i64 id) ∧ W.cell? ⟨wr.heap.size, 1, none⟩ = some (.int .i64 y) ∧ W.cell? ⟨wr.heap.size, 2, none⟩ = some (.int .i64 kind) ∧ W.cell? ⟨wr.heap.size, 3, none⟩ = some (.int .i64 q) ∧ W.cell? ⟨wr.heap.size, 4, none⟩ = some (.int .i64 of_) ∧ W.cell? ⟨wr.heap.size, 5, none⟩ = some (.int .i64 0) from fun W hW => entry_cells ((hW.block _ (by have := (Array.getElem?_eq_some_iff.1 g4).1; exact this) hgl).trans g4))
      have hdr : Touch (fun k => k = c) w4 w4.drew := Touch.of_below (Below.refl _ _).drew
      have C5 := Lib.hid (show ∀ W, Touch (fun k => k = c) w4 W → W.cell? ⟨w.heap.size, 0, none⟩ = some (.pointer (some ⟨v, 0, none⟩)) ∧ W.cell? ⟨wr.heap.size, 0, none⟩ = some (.int .i64 id) ∧ W.cell? ⟨wr.heap.size, 1, none⟩ = some (.int .i64 y) ∧ W.cell? ⟨wr.heap.size, 2, none⟩ = some (.int .i64 kind) ∧ W.cell? ⟨wr.heap.size, 3, none⟩ = some (.int .i64 q) ∧ W.cell? ⟨wr.heap.size, 4, none⟩ = some (.int .i64 of_) ∧ W.cell? ⟨wr.heap.size, 5, none⟩ = some (.int .i64 0) from fun W hW => ⟨(HBX.out W (HT4.out.trans hW)).cells.1, HL4.out W hW⟩)
      have c5 := C5.out _ hdr
      have HDR := Lib.hid hdr
      clear hrl hline hcame hb4 g4 hdr hvw hnl hd0
      go_wp2_with fail
      rw [← hw4]
      clear hw4 d0 d1 d2 d3
      go_region_held3 (fun W => W.cell? ⟨w.heap.size, 0, none⟩ = some (.pointer (some ⟨v, 0, none⟩)) ∧ W.cell? ⟨wr.heap.size, 0, none⟩ = some (.int .i64 id) ∧ W.cell? ⟨wr.heap.size, 1, none⟩ = some (.int .i64 y) ∧ W.cell? ⟨wr.heap.size, 2, none⟩ = some (.int .i64 kind) ∧ W.cell? ⟨wr.heap.size, 3, none⟩ = some (.int .i64 q) ∧ W.cell? ⟨wr.heap.size, 4, none⟩ = some (.int .i64 of_) ∧ W.cell? ⟨wr.heap.size, 5, none⟩ = some (.int .i64 0))
        (first | with_reducible exact c7 | with_reducible exact c6 | exact c5)
        (first
          | (go_at_call 75; refine HLS.out.mono ?_; rintro e w5 ⟨kA, kc, vA, vc, rfl, hb5, hset⟩; have c6 := C5.out w5 (HDR.out.trans (Touch.of_below hb5)))
          | (go_at_call 72; refine hset.mono ?_; rintro e w6 ⟨rfl, hv6, ht6⟩; have c7 := C5.out w6 (HDR.out.trans ht6)))
      have HE := Lib.hid (And.intro hv6 (HT1.out.trans (HT4.out.trans (HDR.out.trans ht6))))
      clear hv6 ht6 c5 c6 c7 hset hb5
      go_wp2_with fail
      go_ret2
      rw [HEQ.out]
      exact ⟨rfl, HE.out⟩
set_option maxHeartbeats 6400000 in
theorem entPut_any (h : ViewAt w X v m c S) (hok : S.Ok) (a0 y kind n3 of_ by_ : Int) (hy : I64 y) (hkind : I64 kind) (hof : I64 of_) {B n k : Nat} {A : Option Addr} {l : List Ln} (hr : RL w B A n l) (hB : B ≤ w.heap.size) (hn : n ≤ 1073741823) (hC : S.C.length ≤ 2147483647) :
    Calls Tryz.prog 11 #[.pointer (some ⟨v, 0, none⟩), .agg #[.int .i64 a0, .int .i64 y, .int .i64 kind, .int .i64 n3, .int .i64 of_, .int .i64 by_], .slice A n k] w fun e w' => e = .returned (.tuple #[.int .i64 (entPut S y kind of_ l).2.1, .int .i64 (entPut S y kind of_ l).2.2]) ∧ ViewAt w' X v m c (entPut S y kind of_ l).1 ∧ Touch (fun k => k = c) w w' := by
  obtain ⟨w1, hw1⟩ : ∃ w1, w1 = w.alloc (.cells #[.int .i64 a0, .int .i64 y, .int .i64 kind, .int .i64 n3, .int .i64 of_, .int .i64 by_] 36) := ⟨_, rfl⟩
  have hb1 : Below w.heap.size w w1 := by rw [hw1]; exact (Below.refl _ _).alloc (Nat.le_refl _) _
  have g1 : w1.heap[w.heap.size]? = some (.cells #[.int .i64 a0, .int .i64 y, .int .i64 kind, .int .i64 n3, .int .i64 of_, .int .i64 by_] 36 (0, 0)) := by rw [hw1]; exact heap_alloc_new w _
  have hlen := hr.len
  have HV1 := Lib.hid (h.below hb1)
  have HT1 := Lib.hid (Touch.of_below (F := fun k => k = c) hb1)
  by_cases hbad : n < 1 ∨ 200 < n
  · have HEQ := Lib.hid (show entPut S y kind of_ l = (S, 0, 1) by unfold entPut; rw [hlen, if_pos hbad])
    rcases hbad with hx | hx
    · have k1 : decide ((n : Int) < 1) = true := decide_eq_true (by omega)
      clear h hr hb1 g1 hlen
      go_enter Tryz.func11, Tryz.ntmps11
      go_wp2_with fail
      rw [← hw1]
      go_ret2
      rw [HEQ.out]
      exact ⟨rfl, HV1.out, HT1.out⟩
    · have k1 : decide ((n : Int) < 1) = false := decide_eq_false (by omega)
      have k2 : decide ((n : Int) > 200) = true := decide_eq_true (by omega)
      clear h hr hb1 g1 hlen
      go_enter Tryz.func11, Tryz.ntmps11
      go_wp2_with fail
      rw [← hw1]
      go_ret2
      rw [HEQ.out]
      exact ⟨rfl, HV1.out, HT1.out⟩
  have HEQ := Lib.hid (show entPut S y kind of_ l = entAdd S y kind of_ (l ++ balL (fundsOf l)) by unfold entPut; rw [hlen, if_neg hbad])
  have k1 : decide ((n : Int) < 1) = false := decide_eq_false (by omega)
  have k2 : decide ((n : Int) > 200) = false := decide_eq_false (by omega)
  have hlt : w.heap.size < w1.heap.size := (Array.getElem?_eq_some_iff.1 g1).1
  have HIT := Lib.hid (itfAll_any (w := w1.drew) (k := k) (hr.below (hb1.drew.mono hB)) (Nat.le_trans hB hb1.size) hn)
  have hcl0 : w.heap.size ≠ c := by have := h.lt c h.xc; omega
  have C5 := Lib.hid (show ∀ W, Touch (fun k => k = c) w1 W → W.cell? ⟨w.heap.size, 0, none⟩ = some (.int .i64 a0) ∧ W.cell? ⟨w.heap.size, 1, none⟩ = some (.int .i64 y) ∧ W.cell? ⟨w.heap.size, 2, none⟩ = some (.int .i64 kind) ∧ W.cell? ⟨w.heap.size, 3, none⟩ = some (.int .i64 n3) ∧ W.cell? ⟨w.heap.size, 4, none⟩ = some (.int .i64 of_) ∧ W.cell? ⟨w.heap.size, 5, none⟩ = some (.int .i64 by_) from fun W hW => entry_cells ((hW.block _ hlt hcl0).trans g1))
  have c5 := C5.out w1.drew (Touch.of_below (Below.refl _ _).drew)
  have HADD := Lib.hid (show ∀ W u, Below w1.heap.size w1 W → LOwn W w1.drew.heap.size u (l ++ balL (fundsOf l)) → Calls Tryz.prog 43 #[.agg #[.pointer (some ⟨v, 0, none⟩)], .agg #[.int .i64 a0, .int .i64 y, .int .i64 kind, .int .i64 n3, .int .i64 of_, .int .i64 by_], u] W fun e w' => e = .returned (.tuple #[.int .i64 (entPut S y kind of_ l).2.1, .int .i64 (entPut S y kind of_ l).2.2]) ∧ ViewAt w' X v m c (entPut S y kind of_ l).1 ∧ Touch (fun k => k = c) W w' from fun W u hW hown => by
    have hlok : ∀ x ∈ l ++ balL (fundsOf l), LnOk x := fun x hx => by
      rcases List.mem_append.1 hx with hx | hx
      · exact hr.ok x hx
      · exact balL_ok (fundsOf_in l hr.ok) x hx
    obtain ⟨A', k', rfl, hk'⟩ := hown.shape
    have hcl : c < w.heap.size := h.lt c h.xc
    rw [HEQ.out]
    refine entAdd_any (h.below (hb1.trans (hW.mono hb1.size))) hok a0 y kind n3 of_ by_ hy hkind hof (fun W' hW' => ((hown.stays fun g hg => hW'.block g (hown.at_ g hg).2 (fun e => by
      have h1 := (hown.at_ g hg).1
      have h2 : w1.drew.heap.size = w1.heap.size := rfl
      have h3 := hb1.size
      omega)).read hlok).2.2) (by
      have h1 := balL_len (fundsOf l)
      have h2 := fundsOf_len l
      rw [List.length_append]
      omega) hC)
  have HALL := Lib.hid (HIT.out.mono (R' := fun e w5 => ∃ u, e = .returned u ∧ (w5.cell? ⟨w.heap.size, 0, none⟩ = some (.int .i64 a0) ∧ w5.cell? ⟨w.heap.size, 1, none⟩ = some (.int .i64 y) ∧ w5.cell? ⟨w.heap.size, 2, none⟩ = some (.int .i64 kind) ∧ w5.cell? ⟨w.heap.size, 3, none⟩ = some (.int .i64 n3) ∧ w5.cell? ⟨w.heap.size, 4, none⟩ = some (.int .i64 of_) ∧ w5.cell? ⟨w.heap.size, 5, none⟩ = some (.int .i64 by_)) ∧ Calls Tryz.prog 43 #[.agg #[.pointer (some ⟨v, 0, none⟩)], .agg #[.int .i64 a0, .int .i64 y, .int .i64 kind, .int .i64 n3, .int .i64 of_, .int .i64 by_], u] w5 fun e w6 => e = .returned (.tuple #[.int .i64 (entPut S y kind of_ l).2.1, .int .i64 (entPut S y kind of_ l).2.2]) ∧ (ViewAt w6 X v m c (entPut S y kind of_ l).1 ∧ Touch (fun k => k = c) w w6) ∧ (w6.cell? ⟨w.heap.size, 0, none⟩ = some (.int .i64 a0) ∧ w6.cell? ⟨w.heap.size, 1, none⟩ = some (.int .i64 y) ∧ w6.cell? ⟨w.heap.size, 2, none⟩ = some (.int .i64 kind) ∧ w6.cell? ⟨w.heap.size, 3, none⟩ = some (.int .i64 n3) ∧ w6.cell? ⟨w.heap.size, 4, none⟩ = some (.int .i64 of_) ∧ w6.cell? ⟨w.heap.size, 5, none⟩ = some (.int .i64 by_))) fun e w5 z => by
    obtain ⟨u, rfl, hown, hb5⟩ := z
    have hb15 : Below w1.heap.size w1 w5 := (Below.refl w1.heap.size w1).drew.trans hb5
    refine ⟨u, rfl, C5.out w5 (Touch.of_below hb15), (HADD.out w5 u hb15 hown).mono ?_⟩
    rintro e w6 ⟨rfl, hv6, ht6⟩
    exact ⟨rfl, ⟨hv6, HT1.out.trans ((Touch.of_below hb15).trans ht6)⟩, C5.out w6 ((Touch.of_below hb15).trans ht6)⟩)
  clear h hr hb1 g1 hlen hbad hlt HIT HADD
  go_enter Tryz.func11, Tryz.ntmps11
  go_wp2_with fail
  rw [← hw1]
  clear hw1
  go_region_held3 (fun W => W.cell? ⟨w.heap.size, 0, none⟩ = some (.int .i64 a0) ∧ W.cell? ⟨w.heap.size, 1, none⟩ = some (.int .i64 y) ∧ W.cell? ⟨w.heap.size, 2, none⟩ = some (.int .i64 kind) ∧ W.cell? ⟨w.heap.size, 3, none⟩ = some (.int .i64 n3) ∧ W.cell? ⟨w.heap.size, 4, none⟩ = some (.int .i64 of_) ∧ W.cell? ⟨w.heap.size, 5, none⟩ = some (.int .i64 by_))
    (first | with_reducible exact c7 | with_reducible exact c6 | exact c5)
    (first
      | (go_at_call 44; refine HALL.out.mono ?_; rintro e w5 ⟨u, rfl, c6, HA2⟩)
      | (go_at_call 43; refine HA2.mono ?_; rintro e w6 ⟨rfl, HE, c7⟩))
  have HE := Lib.hid HE
  clear c5 c6 c7 HALL HA2 C5
  go_wp2_with fail
  go_ret2
  exact ⟨rfl, HE.out⟩
end
end Go.Proofs.YtilhcchnlbdlhaaGreat
