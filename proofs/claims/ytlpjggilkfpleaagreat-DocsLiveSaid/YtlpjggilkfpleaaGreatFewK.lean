/-
  The texts DocW, Dos30, FewK joined. Conditions: those that each part says at its head.
-/
import Derived.Test.YtlpjggilkfpleaaGreatDocV
import Derived.Test.YtlpjggilkfpleaaGreatDocG
import Derived.Test.YtlpjggilkfpleaaGreatDocC
import Derived.Test.YtlpjggilkfpleaaGreatGRow
import Derived.Test.YtlpjggilkfpleaaGreatViewC

/-
  Both views with documents in them: Put, Set at both; what both tell is the same. Conditions: which numbers are ints; at most twenty thousand calls ahead.
-/
namespace Go.Proofs.YtlpjggilkfpleaaGreat
open Go.RowKit Go.Maps
set_option maxRecDepth 100000
set_option linter.unusedVariables false

theorem putLs_W (i : Int) : ∀ (l : List Dl) (S : VS) (j : Nat), (putLs S i j l).W = S.W
  | [], S, j => rfl
  | x :: r, S, j => by
    show (putLs (S.putL i j x) i (j + 1) r).W = S.W
    rw [putLs_W i r]
    rfl
theorem next_W (S : VS) (n : Int) : (S.next n).W = S.W := by
  unfold VS.next
  split <;> rfl
theorem putDoc_W (S : VS) (d : Dc) (l : List Dl) : (putDoc S d l).2.W = S.W := by
  unfold putDoc
  split
  · rfl
  · split
    · show (putLs (S.next 2) _ 0 l).W = S.W
      rw [putLs_W, next_W]
    · rfl
theorem setLine_W (S : VS) (i j : Int) (x : Dl) : (setLine S i j x).2.W = S.W := by
  unfold setLine
  split
  · rfl
  · split <;> rfl
theorem SmallS.many {S : VS} {a b d : TL} {j : Nat} (h : SmallS S a b d j) (hok : S.Ok) : ManyS S j :=
  ⟨hok, by rw [h.w]; show 0 + S.C.length ≤ j; have := h.c; omega, (fun p hp => by rw [h.w] at hp; cases hp), h.kc⟩
theorem ManyS.small {S : VS} {a b d : TL} {j : Nat} (h : ManyS S j) (hw : S.W = []) (hb : b.length ≤ j) (hd : d.length ≤ j) : SmallS S a b d j :=
  ⟨by have := h.len; rw [hw] at this; simpa using this, hb, hd, hw, h.ck⟩
section
variable {w w0 : World} {v m c x B j : Nat}
theorem SeqInv.sameL (h : SeqInv w0 B j v m c x w) (hj : j ≤ 20000) (hB : B ≤ w.heap.size) : Calls Tryz.prog 35 #[.pointer (some ⟨v, 0, none⟩), .pointer (some ⟨x, 0, none⟩)] w fun e w' => e = .returned (.bool true) ∧ RowKit.Below B w0 w' := by
  obtain ⟨X, p, q, r, S, a, b, d, hb, hs, hX, hw⟩ := h
  refine (same_any hb.view hb.ref hb.link (by rw [hs.w]; decide) (fun p hp => by rw [hs.w] at hp; cases hp) (Nat.le_trans hs.c (by omega)) (fun p hp => Nat.le_trans (hs.kc p hp) (by decide)) (Nat.le_trans hs.b (by omega))).mono ?_
  rintro e w' ⟨rfl, hb'⟩
  exact ⟨rfl, hw.trans (hb'.mono hB)⟩
/-- What stands in blocks that were laid since. -/
def Since (w W w' : World) : Prop := (∀ k, w.heap.size ≤ k → k < W.heap.size → w'.heap[k]? = W.heap[k]?) ∧ W.heap.size ≤ w'.heap.size
theorem SeqInv.docPut (h : SeqInv w0 B j v m c x w) (hj : j ≤ 20000) (hB : B ≤ w.heap.size) {W : World} (hW : RowKit.Below w.heap.size w W) (d0 : Dc) (hd0 : DcOk d0) {A : Option Addr} {n cap : Nat} {l : List Dl} (hr : DlE.R w B A n l) (hcap : n ≤ cap) (hn : n ≤ maxLen) :
    ∃ a b : Int, Calls Tryz.prog 19 #[.pointer (some ⟨v, 0, none⟩), .agg #[.int .i64 d0.i, .int .i64 d0.k, .int .i64 d0.y, .int .i64 d0.f, .int .i64 d0.n], .slice A n cap] W fun e w1 => e = .returned (.tuple #[.int .i64 a, .int .i64 b]) ∧ Since w W w1 ∧
      Calls Tryz.prog 20 #[.pointer (some ⟨x, 0, none⟩), .agg #[.int .i64 d0.i, .int .i64 d0.k, .int .i64 d0.y, .int .i64 d0.f, .int .i64 d0.n], .slice A n cap] w1 fun e w2 => e = .returned (.tuple #[.int .i64 a, .int .i64 b]) ∧ Since w W w2 ∧ SeqInv w0 B (j + 8) v m c x w2 := by
  obtain ⟨X, p, q, r, S, a, b, d, hb0, hs, hX, hw0⟩ := h
  have hb := hb0.below hW
  have hw := hw0.trans (hW.mono hB)
  have hBW := Nat.le_trans hB hW.size
  have hold : ∀ k, X k → k < w.heap.size := fun k hk => hb0.view.lt k hk
  have hrW : DlE.R W W.heap.size A n l := (hr.below (hW.mono hB)).more hBW
  refine ⟨(putDoc S d0 l).1.1, (putDoc S d0 l).1.2, ?_⟩
  refine (docsPut_any hb.view d0 hd0 hrW hcap hn (Nat.le_trans hs.c (by omega))).mono ?_
  rintro e1 w1 ⟨rfl, hv1, ht1⟩
  have ht1' : Touch (fun k => k = m ∨ k = c) W w1 := ⟨ht1.os, ht1.tape, ht1.output, ht1.size, fun k hk hn => ht1.block k hk fun e => hn (.inr e)⟩
  have hb1 : RowKit.Below B W w1 := ht1.below (fun k hk => by rw [hk]; exact hX _ hb.view.xc) hBW
  have hr1 : DlE.R w1 w1.heap.size A n l := ((hr.below (hW.mono hB)).below hb1).more (Nat.le_trans hBW ht1.size)
  have hrs : RefS w1 X x p q r a S j := ⟨b, d, hb.afterView ht1', hb.link, hs.b, hs.d⟩
  refine ⟨rfl, ⟨fun k hk1 hk2 => ht1.block k hk2 (fun e => by have := hold c hb0.view.xc; omega), ht1.size⟩, ?_⟩
  refine (rDocsPut_any hrs (by omega) d0 hd0 hr1 hcap hn).mono ?_
  rintro e2 w2 ⟨rfl, ⟨b', d', hr2, hl2, hb2, hd2⟩, ht2⟩
  have hown := hrs.own
  have hbel : RowKit.Below B W w2 := hb1.trans (ht2.below (fun k hk => by rcases hk with e | e; rw [e]; exact hX _ hown.1; rw [e]; exact hX _ hown.2) (Nat.le_trans hBW ht1.size))
  refine ⟨rfl, ⟨fun k hk1 hk2 => (ht2.block k (Nat.lt_of_lt_of_le hk2 ht1.size) (fun e => by rcases e with e | e; have := hold q hown.1; omega; have := hold r hown.2; omega)).trans (ht1.block k hk2 (fun e => by have := hold c hb0.view.xc; omega)), Nat.le_trans ht1.size ht2.size⟩, ?_⟩
  exact ⟨X, p, q, r, _, a, b', d', hb.turn hv1 hr2 ht1' ht2 hl2, (many_putDoc (hs.many hb.link.ok) d0 l).small (by rw [putDoc_W]; exact hs.w) hb2 hd2, hX, hw.trans hbel⟩
theorem SeqInv.docSet (h : SeqInv w0 B j v m c x w) (hj : j ≤ 20000) (hB : B ≤ w.heap.size) {W : World} (hW : RowKit.Below w.heap.size w W) (i0 j0 : Int) (y : Dl) (hy : DlOk y) (hi0 : -9223372036854775808 ≤ i0 ∧ i0 ≤ 9223372036854775807) (hj0 : -9223372036854775808 ≤ j0 ∧ j0 ≤ 9223372036854775807) :
    ∃ a : Int, Calls Tryz.prog 21 #[.pointer (some ⟨v, 0, none⟩), .int .i64 i0, .int .i64 j0, .agg #[.int .i64 y.nd, .int .i64 y.o, .int .i64 y.l, .int .i64 y.c]] W fun e w1 => e = .returned (.int .i64 a) ∧ Since w W w1 ∧
      Calls Tryz.prog 22 #[.pointer (some ⟨x, 0, none⟩), .int .i64 i0, .int .i64 j0, .agg #[.int .i64 y.nd, .int .i64 y.o, .int .i64 y.l, .int .i64 y.c]] w1 fun e w2 => e = .returned (.int .i64 a) ∧ Since w W w2 ∧ SeqInv w0 B (j + 8) v m c x w2 := by
  obtain ⟨X, p, q, r, S, a, b, d, hb0, hs, hX, hw0⟩ := h
  have hb := hb0.below hW
  have hw := hw0.trans (hW.mono hB)
  have hBW := Nat.le_trans hB hW.size
  have hold : ∀ k, X k → k < w.heap.size := fun k hk => hb0.view.lt k hk
  refine ⟨(setLine S i0 j0 y).1, ?_⟩
  refine (docsSet_any hb.view i0 j0 y hy hi0 hj0 (Nat.le_trans hs.c (by omega))).mono ?_
  rintro e1 w1 ⟨rfl, hv1, ht1⟩
  have ht1' : Touch (fun k => k = m ∨ k = c) W w1 := ⟨ht1.os, ht1.tape, ht1.output, ht1.size, fun k hk hn => ht1.block k hk fun e => hn (.inr e)⟩
  have hb1 : RowKit.Below B W w1 := ht1.below (fun k hk => by rw [hk]; exact hX _ hb.view.xc) hBW
  have hrs : RefS w1 X x p q r a S j := ⟨b, d, hb.afterView ht1', hb.link, hs.b, hs.d⟩
  refine ⟨rfl, ⟨fun k hk1 hk2 => ht1.block k hk2 (fun e => by have := hold c hb0.view.xc; omega), ht1.size⟩, ?_⟩
  refine (rDocsSet_any hrs (by omega) i0 j0 y hy hi0 hj0).mono ?_
  rintro e2 w2 ⟨rfl, ⟨b', d', hr2, hl2, hb2, hd2⟩, ht2⟩
  have hown := hrs.own
  have hbel : RowKit.Below B W w2 := hb1.trans (ht2.below (fun k hk => by rcases hk with e | e; rw [e]; exact hX _ hown.1; rw [e]; exact hX _ hown.2) (Nat.le_trans hBW ht1.size))
  refine ⟨rfl, ⟨fun k hk1 hk2 => (ht2.block k (Nat.lt_of_lt_of_le hk2 ht1.size) (fun e => by rcases e with e | e; have := hold q hown.1; omega; have := hold r hown.2; omega)).trans (ht1.block k hk2 (fun e => by have := hold c hb0.view.xc; omega)), Nat.le_trans ht1.size ht2.size⟩, ?_⟩
  exact ⟨X, p, q, r, _, a, b', d', hb.turn hv1 hr2 ht1' ht2 hl2, ((many_setLine (hs.many hb.link.ok) i0 j0 y).more (show j + 1 ≤ j + 8 by omega)).small (by rw [setLine_W]; exact hs.w) (by omega) (by omega), hX, hw.trans hbel⟩
/-- What both tell. -/
theorem SeqInv.docTell (h : SeqInv w0 B j v m c x w) (hj : j ≤ 20000) (i y k : Int) (hi : -9223372036854775808 ≤ i ∧ i ≤ 9223372036854775807) :
    ∃ (o : Option (Dc × List Dl)) (z : Int) (L : List Int), (dlsO o).length ≤ 6 ∧ L.length ≤ 20000 ∧
      (∀ W, RowKit.Below w.heap.size w W → Calls Tryz.prog 23 #[.pointer (some ⟨v, 0, none⟩), .int .i64 i] W fun e w1 => DocGot W w1 e o) ∧
      (∀ W, RowKit.Below w.heap.size w W → Calls Tryz.prog 24 #[.pointer (some ⟨x, 0, none⟩), .int .i64 i] W fun e w1 => DocGot W w1 e o) ∧
      (∀ W, RowKit.Below w.heap.size w W → Calls Tryz.prog 26 #[.pointer (some ⟨v, 0, none⟩)] W fun e w1 => e = .returned (.int .i64 z) ∧ Below W.heap.size W w1) ∧
      (∀ W, RowKit.Below w.heap.size w W → Calls Tryz.prog 27 #[.pointer (some ⟨x, 0, none⟩), .int .i64 2] W fun e w1 => e = .returned (.int .i64 z) ∧ Below W.heap.size W w1) ∧
      (∀ W, RowKit.Below w.heap.size w W → Calls Tryz.prog 33 #[.pointer (some ⟨v, 0, none⟩), .int .i64 y, .int .i64 k] W fun e w1 => ∃ u, e = .returned u ∧ IntsR W w1 u L) ∧
      (∀ W, RowKit.Below w.heap.size w W → Calls Tryz.prog 34 #[.pointer (some ⟨x, 0, none⟩), .int .i64 y, .int .i64 k] W fun e w1 => ∃ u, e = .returned u ∧ IntsR W w1 u L) := by
  obtain ⟨X, p, q, r, S, a, b, d, hb, hs, hX, hw⟩ := h
  have hm := hs.many hb.link.ok
  have hrs : RefS w X x p q r a S j := ⟨b, d, hb.ref, hb.link, hs.b, hs.d⟩
  refine ⟨docGet S i, seqV (S.now (tx (keyL 83 [2]))), allDocs S y k, ?_, Nat.le_trans (docsK_len _ _ _) (Nat.le_trans (hm.scan _) hj), fun W hW => docsGet_any (hb.view.below hW) i hi, fun W hW => rDocsGet_any (hrs.below hW) (by omega) i hi, fun W hW => docsLast_any (hb.view.below hW), fun W hW => rLastS (hrs.below hW) (by omega) 2 (by omega), fun W hW => docsAll_any (hb.view.below hW) hm (by omega) y k, fun W hW => rDocsAll_any (hrs.below hW) (by omega) y k (hb.view.scanBytes _)⟩
  unfold docGet
  split
  · split
    · exact Nat.zero_le _
    · split
      · rename_i d _ hd
        cases hq : linesAt S i d.n.toNat with
        | none => exact Nat.zero_le _
        | some l =>
          have := linesAt_len hq
          unfold docIn at hd
          simp only [Bool.and_eq_true, decide_eq_true_eq] at hd
          show l.length ≤ 6
          omega
      · exact Nat.zero_le _
  · exact Nat.zero_le _
end
end Go.Proofs.YtlpjggilkfpleaaGreat

/-
  The calls of the law of docs, as the statement opens them. No condition.
-/
namespace Go.Proofs.YtlpjggilkfpleaaGreat
open Go.RowKit Go.Maps
set_option maxRecDepth 100000
set_option linter.unusedVariables false

/-- A call. -/
structure Do30 where
  op : Int
  i : Int
  j : Int
  d : Dc
  a : Option Addr
  n : Nat
  c : Nat
  t : Dl
def do30V (k : Do30) : List Value := [.int .i64 k.op, .int .i64 k.i, .int .i64 k.j, .int .i64 k.d.i, .int .i64 k.d.k, .int .i64 k.d.y, .int .i64 k.d.f, .int .i64 k.d.n, .slice k.a k.n k.c, .int .i64 k.t.nd, .int .i64 k.t.o, .int .i64 k.t.l, .int .i64 k.t.c]
/-- Calls of a world. -/
def Do30E (w : World) : Enc Do30 := ⟨do30V, 13, fun k => In64 [k.op, k.i, k.j] ∧ DcOk k.d ∧ k.n ≤ k.c ∧ k.c ≤ maxLen ∧ (∃ ls, DlE.R w w.heap.size k.a k.n ls) ∧ DlOk k.t, fun _ => rfl, by decide, fun x u hu => by
  unfold do30V at hu
  simp only [List.mem_cons, List.not_mem_nil, or_false] at hu
  rcases hu with rfl | rfl | rfl | rfl | rfl | rfl | rfl | rfl | rfl | rfl | rfl | rfl | rfl <;> rfl⟩
abbrev Dos30E.R (w : World) (B : Nat) (A : Option Addr) (n : Nat) (hs : List Do30) : Prop := (Do30E w).R w B A n hs
theorem cells_do30 : Tryz.prog.cellsOf 55 = 13 := by kernel_rfl
theorem cells_dls : Tryz.prog.cellsOf 51 = 1 := by kernel_rfl
open Go.ChangeShapes Go.WideShapes in
theorem open_do30 {H : Type} {enc : TypeId × Value → H} {w : World} {fuel : Nat} {cs : List Value} {x : DataW H × List MemPlace} (h : DataW.trod enc Tryz.prog w 0 (fun _ => true) true fuel 55 cs = some x) (hcl : cs.length = 13) :
    ∃ k : Do30, (Do30E w).ok k ∧ cs = do30V k := by
  obtain ⟨fs, hfs⟩ : ∃ fs, Tryz.prog.underlying 55 = some (.struct fs) := ⟨_, Tryz.underlying55⟩
  obtain ⟨ys, n', hn', hy, hlen, hyl, hf⟩ := DataW.trod_struct Tryz.underlying55 h
  match cs, hcl with
  | [c0, c1, c2, c3, c4, c5, c6, c7, c8, c9, c10, c11, c12], _ =>
    match ys, hyl with
    | [y0, y1, y2, y3, y4, y5], _ =>
      have f0 : DataW.trod enc Tryz.prog w 0 (fun _ => true) true n' 3 (([c0, c1, c2, c3, c4, c5, c6, c7, c8, c9, c10, c11, c12].drop 0).take (Tryz.prog.cellsOf 3)) = [y0, y1, y2, y3, y4, y5][0]? := hf 0 _ rfl
      rw [recInt] at f0
      have f1 : DataW.trod enc Tryz.prog w 0 (fun _ => true) true n' 3 (([c0, c1, c2, c3, c4, c5, c6, c7, c8, c9, c10, c11, c12].drop 1).take (Tryz.prog.cellsOf 3)) = [y0, y1, y2, y3, y4, y5][1]? := hf 1 _ rfl
      rw [recInt] at f1
      have f2 : DataW.trod enc Tryz.prog w 0 (fun _ => true) true n' 3 (([c0, c1, c2, c3, c4, c5, c6, c7, c8, c9, c10, c11, c12].drop 2).take (Tryz.prog.cellsOf 3)) = [y0, y1, y2, y3, y4, y5][2]? := hf 2 _ rfl
      rw [recInt] at f2
      have f3 : DataW.trod enc Tryz.prog w 0 (fun _ => true) true n' 50 (([c0, c1, c2, c3, c4, c5, c6, c7, c8, c9, c10, c11, c12].drop 3).take (Tryz.prog.cellsOf 50)) = [y0, y1, y2, y3, y4, y5][3]? := hf 3 _ rfl
      rw [cells_doc] at f3
      have f4 : DataW.trod enc Tryz.prog w 0 (fun _ => true) true n' 51 (([c0, c1, c2, c3, c4, c5, c6, c7, c8, c9, c10, c11, c12].drop 8).take (Tryz.prog.cellsOf 51)) = [y0, y1, y2, y3, y4, y5][4]? := hf 4 _ rfl
      rw [cells_dls] at f4
      have f5 : DataW.trod enc Tryz.prog w 0 (fun _ => true) true n' 53 (([c0, c1, c2, c3, c4, c5, c6, c7, c8, c9, c10, c11, c12].drop 9).take (Tryz.prog.cellsOf 53)) = [y0, y1, y2, y3, y4, y5][5]? := hf 5 _ rfl
      rw [cells_docline] at f5
      simp only [List.drop_zero, List.take_succ_cons, List.take_zero, List.drop_succ_cons, List.getElem?_cons_zero, List.getElem?_cons_succ] at f0 f1 f2 f3 f4 f5
      obtain ⟨n0, e0, _, w0⟩ := DataW.trod_int Tryz.underlying3 f0
      obtain ⟨n1, e1, _, w1⟩ := DataW.trod_int Tryz.underlying3 f1
      obtain ⟨n2, e2, _, w2⟩ := DataW.trod_int Tryz.underlying3 f2
      obtain ⟨d0, d1, d2, d3, d4, e3, wd⟩ := open_doc f3 rfl
      obtain ⟨t0, t1, t2, t3, e5, wt⟩ := open_docline f5 rfl
      simp only [List.cons.injEq, and_true] at e0 e1 e2 e3 e5
      obtain ⟨rfl, rfl, rfl, rfl, rfl⟩ := e3
      obtain ⟨rfl, rfl, rfl, rfl⟩ := e5
      subst e0 e1 e2
      have hin : In64 [n0, n1, n2] := by
        intro v hv
        simp only [List.mem_cons, List.not_mem_nil, or_false] at hv
        rcases hv with rfl | rfl | rfl
        · exact rec_bounds w0
        · exact rec_bounds w1
        · exact rec_bounds w2
      rcases open_dls f4 with e4 | ⟨a, len, cap, ls, e4, h1, h2, h3⟩
      · simp only [List.cons.injEq, and_true] at e4
        subst e4
        exact ⟨⟨n0, n1, n2, ⟨d0, d1, d2, d3, d4⟩, none, 0, 0, ⟨t0, t1, t2, t3⟩⟩, ⟨hin, wd, Nat.le_refl _, Nat.zero_le _, ⟨[], Enc.R.nil_⟩, wt⟩, rfl⟩
      · simp only [List.cons.injEq, and_true] at e4
        subst e4
        exact ⟨⟨n0, n1, n2, ⟨d0, d1, d2, d3, d4⟩, some a, len, cap, ⟨t0, t1, t2, t3⟩⟩, ⟨hin, wd, h1, h2, ⟨ls, h3⟩, wt⟩, rfl⟩
theorem open_dos30 {H : Type} {enc : TypeId × Value → H} {w : World} {fuel : Nat} {cs : List Value} {x : DataW H × List MemPlace} (h : DataW.trod enc Tryz.prog w 0 (fun _ => true) true fuel 44 cs = some x) :
    cs = [.slice none 0 0] ∨ ∃ (a : Addr) (len cap : Nat) (ls : List Do30), cs = [.slice (some a) len cap] ∧ len ≤ cap ∧ cap ≤ maxLen ∧ Dos30E.R w w.heap.size (some a) len ls :=
  Enc.open_rows (E := Do30E w) (⟨0, 0, 0, dcNil, none, 0, 0, dlNil⟩ : Do30) Tryz.underlying44 cells_do30 (fun n ys y hy hl => by
    obtain ⟨k, hk, e⟩ := open_do30 hy hl
    exact ⟨k, hk, e⟩) h
/-- A call at one place, in a later world: its cells, its lines. -/
theorem do30_at {w w' : World} {A : Option Addr} {n : Nat} {l : List Do30} (h : Dos30E.R w w.heap.size A n l) (hb : Below w.heap.size w w') {j : Nat} {k : Do30} (hx : l[j]? = some k) : ∃ b off, A = some ⟨b, off, none⟩ ∧ b < w.heap.size ∧ (∀ z, z < 13 → w'.cell? ⟨b, off + j * 13 + z, none⟩ = (do30V k)[z]?) ∧ In64 [k.op, k.i, k.j] ∧ DcOk k.d ∧ k.n ≤ k.c ∧ k.c ≤ maxLen ∧ (∃ ls, DlE.R w' w.heap.size k.a k.n ls) ∧ DlOk k.t := by
  obtain ⟨h1, h2, h3, h4, ⟨ls, h5⟩, h6⟩ := h.ok k (List.mem_of_getElem? hx)
  have hj := (List.getElem?_eq_some_iff.1 hx).1
  obtain ⟨b, off, rfl, hlt, hc⟩ := h.2.2 (by rw [← h.len]; omega)
  refine ⟨b, off, rfl, hlt, fun z hz => ?_, h1, h2, h3, h4, ⟨ls, h5.below hb⟩, h6⟩
  exact (hb.cell (p := ⟨b, off + j * 13 + z, none⟩) hlt).trans (hc j k hx z hz)
end Go.Proofs.YtlpjggilkfpleaaGreat

/-
  The statements' own test of whether pairs are few (at most so many) and short, by its contract. Nothing that was there is written. No condition.
-/
namespace Go.Proofs.YtlpjggilkfpleaaGreat
open Go.RowKit
set_option maxRecDepth 100000
set_option linter.unusedVariables false

/-- A pair that is too long for the statements. -/
def longKV (x : KV) : Bool := decide (200 < x.1.length) || decide (400 < x.2.length)

set_option maxHeartbeats 400000 in
theorem bkFew1_any {w : World} {B kn kc vn vc : Nat} {ka va : Option Addr} {x : KV} (hk : RB w B ka kn x.1) (hv : RB w B va vn x.2) (hkm : kn ≤ maxLen) (hvm : vn ≤ maxLen) :
    Calls Tryz.prog 49 #[.agg #[.slice ka kn kc, .slice va vn vc]] w fun e w' => e = .returned (.bool (longKV x)) ∧ Below w.heap.size w w' := by
  unfold maxLen at hkm hvm
  have q0 : (w.alloc (.cells #[.slice ka kn kc, .slice va vn vc] 88 (0, 0))).cell? ⟨w.heap.size, 0, none⟩ = some (.slice ka kn kc) := cell_of_row _ _ 0 _ _ (0, 0) (heap_alloc_new w _)
  have q1 : (w.alloc (.cells #[.slice ka kn kc, .slice va vn vc] 88 (0, 0))).cell? ⟨w.heap.size, 1, none⟩ = some (.slice va vn vc) := cell_of_row _ _ 1 _ _ (0, 0) (heap_alloc_new w _)
  have HX := Lib.hid (show Below w.heap.size w (w.alloc (.cells #[.slice ka kn kc, .slice va vn vc] 88 (0, 0))) from (Below.refl _ _).alloc (Nat.le_refl _) _)
  have hs : longKV x = (decide (200 < kn) || decide (400 < vn)) := by unfold longKV; rw [hk.len, hv.len]
  rw [hs]
  clear hs hk hv
  by_cases h1 : 200 < kn
  · have k1 : decide ((kn : Int) > 200) = true := by simp; omega
    rw [decide_eq_true h1]
    clear h1
    go_enter Tryz.func49, Tryz.ntmps49
    go_wp2
    go_ret
    exact ⟨rfl, HX.out⟩
  · have k1 : decide ((kn : Int) > 200) = false := by simp; omega
    rw [decide_eq_false h1]
    by_cases h2 : 400 < vn
    · have k2 : decide ((vn : Int) > 400) = true := by simp; omega
      rw [decide_eq_true h2]
      clear h1 h2
      go_enter Tryz.func49, Tryz.ntmps49
      go_wp2
      go_ret
      exact ⟨rfl, HX.out⟩
    · have k2 : decide ((vn : Int) > 400) = false := by simp; omega
      rw [decide_eq_false h2]
      clear h1 h2
      go_enter Tryz.func49, Tryz.ntmps49
      go_wp2
      go_ret
      exact ⟨rfl, HX.out⟩

set_option maxHeartbeats 800000 in
theorem bkFewIdx_any {w : World} {B n : Nat} {A : Option Addr} {ps : List KV} (c : Nat) (hr : RPairs w B A n ps) (hm : n ≤ maxLen) (hB : B ≤ w.heap.size) :
    Calls Tryz.prog 87 #[.slice A n c, .func (.func 49) #[] #[]] w fun e w' => ∃ i : Int, e = .returned (.int .i64 i) ∧ decide (0 ≤ i) = ps.any longKV ∧ Below w.heap.size w w' := by
  unfold maxLen at hm
  have HR := Lib.hid hr
  clear hr
  go_enter Tryz.func87, Tryz.ntmps87
  go_wp2_with fail
  go_loopw [8] (fun i wr => ∃ j : Nat, j ≤ n ∧ i = .int .i64 j ∧ Hid (∀ (m : Nat) (y : KV), m < j → ps[m]? = some y → longKV y = false) ∧ Hid (Below w.heap.size w wr)) (fun i _ => n - (intOf i).toNat)
  case atStart => exact ⟨0, Nat.zero_le _, rfl, Lib.hid (fun m y hm => absurd hm (by omega)), Lib.hid (Below.refl _ _)⟩
  case round =>
    obtain ⟨j, hj, rfl, hbef, hbw⟩ := hrel
    by_cases hlt : j < n
    · obtain ⟨b, off, rfl, hb, hat⟩ := HR.out.2 (by omega)
      obtain ⟨y, hy⟩ : ∃ y, ps[j]? = some y := ⟨_, List.getElem?_eq_getElem (by rw [HR.out.len]; exact hlt)⟩
      obtain ⟨ka, kn, kc, va, vn, vc, h0, h1, h2, ⟨h3a, h3b⟩, h4, ⟨h5a, h5b⟩⟩ := (hat j y hy).keep hb (fun b o hbb => hbw.out.cell (p := ⟨b, o, none⟩) (Nat.lt_of_lt_of_le hbb hB))
      have HF := Lib.hid (bkFew1_any (kc := kc) (vc := vc) h2 h4 h3b h5b)
      have HY := Lib.hid hy
      clear hat hy h2 h4
      have hlt' : (j : Int) < (n : Int) := by omega
      cases hk : longKV y
      · rw [hk] at HF
        have hn := Lib.hid (fun (m : Nat) (z : KV) (hm : m < j + 1) => show ps[m]? = some z → longKV z = false by
          intro hz
          rcases Nat.lt_or_ge m j with h | h
          · exact hbef.out m z h hz
          · obtain rfl : m = j := by omega
            rw [HY.out] at hz
            cases hz
            exact hk)
        clear hk
        go_wp2_with fail
        refine HF.out.mono ?_
        rintro e w' ⟨rfl, hb'⟩
        have HE := Lib.hid (hbw.out.trans (hb'.mono hbw.out.size))
        clear hb' h0 h1
        go_wp2
        go_roundw
        case rel => exact ⟨j + 1, by omega, by go_num, hn, HE⟩
        case measure => simp [intOf]; omega
      · rw [hk] at HF
        have HEX := Lib.hid (show ps.any longKV = true from List.any_eq_true.2 ⟨y, List.mem_of_getElem? HY.out, hk⟩)
        clear hk
        go_wp2_with fail
        refine HF.out.mono ?_
        rintro e w' ⟨rfl, hb'⟩
        have HE := Lib.hid (hbw.out.trans (hb'.mono hbw.out.size))
        clear hb' h0 h1
        go_wp2
        go_ret
        exact ⟨_, rfl, by rw [HEX.out]; exact decide_eq_true (by omega), HE.out⟩
    · obtain rfl : j = n := by omega
      have HEX := Lib.hid (show ps.any longKV = false from List.any_eq_false.2 (fun y hy => by
        obtain ⟨k, hk, rfl⟩ := List.getElem_of_mem hy
        rw [hbef.out k _ (by rw [HR.out.len] at hk; exact hk) (List.getElem?_eq_getElem hk)]
        decide))
      go_wp2
      go_ret
      exact ⟨_, rfl, by rw [HEX.out]; decide, hbw.out⟩

/-- Pairs are at most so many, and short. -/
def fewN (many : Nat) (ps : List KV) : Bool := decide (ps.length ≤ many) && !(ps.any longKV)
theorem fewN_is {many : Nat} {ps : List KV} (h : fewN many ps = true) : ps.length ≤ many ∧ ∀ x ∈ ps, x.1.length ≤ 200 ∧ x.2.length ≤ 400 := by
  unfold fewN at h
  simp only [Bool.and_eq_true, decide_eq_true_eq, Bool.not_eq_true'] at h
  refine ⟨h.1, fun x hx => ?_⟩
  have := List.any_eq_false.1 h.2 x hx
  unfold longKV at this
  simp only [Bool.or_eq_true, decide_eq_true_eq, not_or] at this
  omega

set_option maxHeartbeats 800000 in
theorem few_any (many : Nat) (hmany : many ≤ 1000) {w : World} {B n : Nat} {A : Option Addr} {ps : List KV} (c : Nat) (hr : RPairs w B A n ps) (hm : n ≤ maxLen) (hB : B ≤ w.heap.size) :
    Calls Tryz.prog 16 #[.slice A n c, .int .i64 many] w fun e w' => e = .returned (.bool (fewN many ps)) ∧ Below w.heap.size w w' := by
  have hI := Lib.hid (bkFewIdx_any c hr hm hB)
  have HC : Hid (Calls Tryz.prog 48 #[.slice A n c, .func (.func 49) #[] #[]] w fun e w' => e = .returned (.bool (ps.any longKV)) ∧ Below w.heap.size w w') := Lib.hid (by
    generalize ps.any longKV = bb at hI ⊢
    clear hr
    go_enter Tryz.func48, Tryz.ntmps48
    go_wp2_with fail
    refine hI.out.mono ?_
    rintro e w' ⟨i, rfl, hi, hb⟩
    have HI := Lib.hid hi
    clear hi
    go_wp2
    go_ret
    rw [← HI.out]
    exact ⟨rfl, hb⟩)
  have hs : fewN many ps = (decide (n ≤ many) && !(ps.any longKV)) := by unfold fewN; rw [hr.len]
  rw [hs]
  clear hs hr hI
  unfold maxLen at hm
  generalize ps.any longKV = bb at HC ⊢
  by_cases h : n ≤ many
  · have k0 : (n : Int) ≤ (many : Int) := by omega
    rw [decide_eq_true h]
    go_enter Tryz.func16, Tryz.ntmps16
    go_wp2_with fail
    refine HC.out.mono ?_
    rintro e w' ⟨rfl, hb⟩
    go_wp2
    go_ret
    exact ⟨by simp, hb⟩
  · have k0 : ¬ (n : Int) ≤ (many : Int) := by omega
    rw [decide_eq_false h]
    go_enter Tryz.func16, Tryz.ntmps16
    go_wp2
    go_ret
    exact ⟨rfl, Below.refl _ _⟩
end Go.Proofs.YtlpjggilkfpleaaGreat
