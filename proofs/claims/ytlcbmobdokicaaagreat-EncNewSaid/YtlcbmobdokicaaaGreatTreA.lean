/-
  Contracts of tree over a view in memory: Used, held, Put, the node, Get. Condition: which numbers are ints.
-/
import Derived.Test.YtlcbmobdokicaaaGreatViewC
import Derived.Test.YtlcbmobdokicaaaGreatTreP
import Derived.Deep.RegionHeld3
namespace Go.Proofs.YtlcbmobdokicaaaGreat
open Go.RowKit Go.Maps
set_option maxRecDepth 100000
set_option linter.unusedVariables false

theorem u8_78 : (0 : Int) ≤ 78 ∧ (78 : Int) < 256 := by omega
theorem heldT_any (n : Int) (w : World) : Calls Tryz.prog 91 #[.int .i64 n] w fun e w' => e = .returned (.bool (heldB n)) ∧ w = w' := by
  unfold heldB
  by_cases h1 : 0 ≤ n
  · have k1 : decide (0 ≤ n) = true := decide_eq_true h1
    rw [k1, Bool.true_and]
    go_enter Tryz.func91, Tryz.ntmps91
    go_wp2_with fail
    go_ret
    exact ⟨rfl, rfl⟩
  · have k1 : decide (0 ≤ n) = false := decide_eq_false h1
    rw [k1, Bool.false_and]
    go_enter Tryz.func91, Tryz.ntmps91
    go_wp2_with fail
    go_ret
    exact ⟨rfl, rfl⟩
abbrev Nd64 (n : Int) : Prop := -9223372036854775808 ≤ n ∧ n ≤ 9223372036854775807
theorem NdOk.yi {x : Nd} (h : NdOk x) : Nd64 x.y ∧ Nd64 x.i := ⟨h _ (by simp), h _ (by simp)⟩
theorem used_any (x : Nd) (w : World) : Calls Tryz.prog 28 #[.agg #[.int .i64 x.y, .int .i64 x.i, .int .i64 x.p, .int .i64 x.f, .int .i64 x.o, .bool x.ab, .int .i64 x.li, .int .i64 x.pr, .int .i64 x.en, .int .i64 x.ex, .int .i64 x.la, .int .i64 x.ca]] w fun e w' => e = .returned (.int .i64 (usedN x)) ∧ Below w.heap.size w w' := by
  have hb : Below w.heap.size w (w.alloc (.cells #[.int .i64 x.y, .int .i64 x.i, .int .i64 x.p, .int .i64 x.f, .int .i64 x.o, .bool x.ab, .int .i64 x.li, .int .i64 x.pr, .int .i64 x.en, .int .i64 x.ex, .int .i64 x.la, .int .i64 x.ca] 41)) := (Below.refl _ _).alloc (Nat.le_refl _) _
  have HB := Lib.hid hb
  unfold usedN
  obtain ⟨y, i, p, f, o, ab, li, pr, en, ex, la, ca⟩ := x
  simp only at HB ⊢
  clear hb
  go_enter Tryz.func28, Tryz.ntmps28
  go_wp2_with fail
  go_ret
  exact ⟨rfl, HB.out⟩
section
variable {w w' : World} {X : Nat → Prop} {v m c : Nat} {S : VS}
theorem putE_node (x : Nd) : putE (ndKey x) (ndVal x) = 0 := by
  unfold putE
  rw [if_neg]
  unfold ndKey ndVal
  rw [nKyLen, packN_length]
  simp
theorem putR_node (S : VS) (x : Nd) : S.putR (ndKey x) (ndVal x) = S.putN x := by
  unfold VS.putR
  rw [if_pos (putE_node x)]
  rfl
theorem budgetView_run (v : Nat) (y : Int) (W : World) : (Instr.field 93 (.agg #[.pointer (some ⟨v, 0, none⟩), .int .i64 y]) 0).run Tryz.prog W = .ok (.pointer (some ⟨v, 0, none⟩)) W := by kernel_rfl
set_option maxHeartbeats 3200000 in
theorem treePut_any (h : ViewAt w X v m c S) (x : Nd) (hx : NdOk x) (hC : S.C.length < maxLen) :
    Calls Tryz.prog 35 #[.pointer (some ⟨v, 0, none⟩), .agg #[.int .i64 x.y, .int .i64 x.i, .int .i64 x.p, .int .i64 x.f, .int .i64 x.o, .bool x.ab, .int .i64 x.li, .int .i64 x.pr, .int .i64 x.en, .int .i64 x.ex, .int .i64 x.la, .int .i64 x.ca]] w fun e w' => e = .returned (.int .i64 0) ∧ ViewAt w' X v m c (S.putN x) ∧ Touch (fun k => k = c) w w' := by
  obtain ⟨w1, hw1⟩ : ∃ w1, w1 = w.alloc (.cells #[.int .i64 x.y, .int .i64 x.i, .int .i64 x.p, .int .i64 x.f, .int .i64 x.o, .bool x.ab, .int .i64 x.li, .int .i64 x.pr, .int .i64 x.en, .int .i64 x.ex, .int .i64 x.la, .int .i64 x.ca] 41) := ⟨_, rfl⟩
  have hb1 : Below w.heap.size w w1 := by rw [hw1]; exact (Below.refl _ _).alloc (Nat.le_refl _) _
  have HN := Lib.hid (recNode_any x.y x.i x.p x.f x.o x.ab x.li x.pr x.en x.ex x.la x.ca w1 hx)
  have HB := Lib.hid hb1
  have c0 : w1.cell? ⟨w.heap.size, 0, none⟩ = some (.int .i64 x.y) := by rw [hw1]; exact cell_of_row _ _ 0 _ _ (0, 0) (heap_alloc_new w _)
  have hlt : w.heap.size < w1.heap.size := by rw [hw1]; simp
  have HC := Lib.hid (show ∀ W, Below w1.heap.size w1 W → W.cell? ⟨w.heap.size, 0, none⟩ = some (.int .i64 x.y) from fun W hW => (hW.cell (p := ⟨w.heap.size, 0, none⟩) hlt).trans c0)
  have HV := Lib.hid (show ∀ W, Below w1.heap.size w1 W → ViewAt W X v m c S from fun W hW => h.below (hb1.trans (hW.mono hb1.size)))
  have HCC := Lib.hid hC
  clear h hb1 c0 hlt hC
  go_enter Tryz.func35, Tryz.ntmps35
  go_wp2_with fail
  rw [← hw1]
  clear hw1
  refine HN.out.mono ?_
  rintro e w2 hp
  obtain ⟨kA, kc, vA, vc, rfl, h2, hb2⟩ := hp.gets (nk := 9) (nv := 80) (by omega) (by simp) rfl rfl
  obtain ⟨w3, hw3⟩ : ∃ w3, w3 = w2.alloc (.cells #[.slice kA 9 kc, .slice vA 80 vc] 111) := ⟨_, rfl⟩
  have hb3 : Below w2.heap.size w2 w3 := by rw [hw3]; exact (Below.refl _ _).alloc (Nat.le_refl _) _
  have hp3 : w3.heap[w2.heap.size]? = some (.cells #[.slice kA 9 kc, .slice vA 80 vc] 111 (0, 0)) := by rw [hw3]; exact heap_alloc_new w2 _
  have b13 := hb2.trans (hb3.mono hb2.size)
  have c0 := HC.out w3 b13
  have p0 := box_cell0 hp3
  have p1 := box_cell1 hp3
  have HP := Lib.hid (vPut_any (k := kc) (k' := vc) (HV.out w3 b13) (h2.k.below hb3) hb3.size (by decide) (h2.v.below hb3) hb3.size (by decide) HCC.out)
  rw [show putE (keyL 78 [x.y, x.i]) (packN 8 [x.p, x.f, x.o, bitI x.ab, x.li, x.pr, x.en, x.ex, x.la, x.ca]) = 0 from putE_node x, show S.putR (keyL 78 [x.y, x.i]) (packN 8 [x.p, x.f, x.o, bitI x.ab, x.li, x.pr, x.en, x.ex, x.la, x.ca]) = S.putN x from putR_node S x] at HP
  have HT := Lib.hid (Touch.of_below (F := fun k => k = c) (HB.out.trans (b13.mono HB.out.size)))
  clear HN hp hb2 hb3 hp3 b13 h2 HC HV
  have hfl := budgetView_run v x.y w3
  rw [hw3] at c0 p0 p1 hfl
  go_wp2_with fail
  rw [← hw3]
  clear hw3
  refine HP.out.mono ?_
  rintro e w4 ⟨rfl, h4, t4⟩
  have HE := Lib.hid (And.intro h4 (HT.out.trans t4))
  clear h4 t4 HP c0 p0 p1
  go_wp2_with fail
  go_ret
  exact ⟨rfl, HE.out⟩
theorem getD_intN {l : List Int} (h : ∀ x ∈ l, -9223372036854775808 ≤ x ∧ x ≤ 9223372036854775807) (k : Nat) : Nd64 (l[k]?.getD 0) := by
  rcases Nat.lt_or_ge k l.length with hk | hk
  · rw [List.getElem?_eq_getElem hk]
    exact h _ (List.getElem_mem hk)
  · rw [List.getElem?_eq_none hk]
    exact ⟨by decide, by decide⟩
theorem ndK_ok {x : KV} (hk : AllBytes x.1) (hv : AllBytes x.2) {l : Nd} (h : ndK x = some l) : NdOk l := by
  unfold ndK numsR at h
  split at h
  · have h := Option.some.inj (show some (ndOf _) = some l from h)
    subst h
    have a1 : ∀ z ∈ (splitK x.1).1, -9223372036854775808 ≤ z ∧ z ≤ 9223372036854775807 := fun z hz => by
      unfold splitK splitR at hz
      split at hz
      · exact unpackN_ints 4 x.1 _ _ hk z hz
      · cases hz
    have a2 : ∀ z ∈ (unpackR x.2 (10 : Nat)).1, -9223372036854775808 ≤ z ∧ z ≤ 9223372036854775807 := fun z hz => by
      unfold unpackR at hz
      split at hz
      · split at hz
        · exact unpackN_ints 8 x.2 _ _ hv z hz
        · cases hz
      · cases hz
    intro z hz
    simp only [ndOf, List.mem_cons, List.not_mem_nil, or_false] at hz
    rcases hz with rfl | rfl | rfl | rfl | rfl | rfl | rfl | rfl | rfl | rfl | rfl
    · exact getD_intN a1 0
    · exact getD_intN a1 1
    · exact getD_intN a2 0
    · exact getD_intN a2 1
    · exact getD_intN a2 2
    · exact getD_intN a2 4
    · exact getD_intN a2 5
    · exact getD_intN a2 6
    · exact getD_intN a2 7
    · exact getD_intN a2 8
    · exact getD_intN a2 9
  · cases h
/-- A node that is there has ints. -/
def NodeIs (o : Option Nd) : Prop := ∀ n, o = some n → NdOk n
def ndW (o : Option Nd) : Value := .agg #[.int .i64 (ndO o).y, .int .i64 (ndO o).i, .int .i64 (ndO o).p, .int .i64 (ndO o).f, .int .i64 (ndO o).o, .bool (ndO o).ab, .int .i64 (ndO o).li, .int .i64 (ndO o).pr, .int .i64 (ndO o).en, .int .i64 (ndO o).ex, .int .i64 (ndO o).la, .int .i64 (ndO o).ca]
theorem nodeV_w (x : KV) : nodeV (numsR x 78 2 10) = ndW (ndK x) := by
  unfold ndK
  cases numsR x 78 2 10 with
  | none => rfl
  | some r => rfl
/-- A result box of a node, written. -/
theorem ndBox {w0 w : World} {g : Nat} {T : TypeId} {zs : Array Value} (hz : w.heap[g]? = some (.cells zs T (0, 0))) (hs : zs.size = 12) (hb : Below w0.heap.size w0 w) (hg : w0.heap.size ≤ g) (x : Nd) :
    ((((((((((((w.setCell ⟨g, 0, none⟩ (.int .i64 x.y)).setCell ⟨g, 1, none⟩ (.int .i64 x.i)).setCell ⟨g, 2, none⟩ (.int .i64 x.p)).setCell ⟨g, 3, none⟩ (.int .i64 x.f)).setCell ⟨g, 4, none⟩ (.int .i64 x.o)).setCell ⟨g, 5, none⟩ (.bool x.ab)).setCell ⟨g, 6, none⟩ (.int .i64 x.li)).setCell ⟨g, 7, none⟩ (.int .i64 x.pr)).setCell ⟨g, 8, none⟩ (.int .i64 x.en)).setCell ⟨g, 9, none⟩ (.int .i64 x.ex)).setCell ⟨g, 10, none⟩ (.int .i64 x.la)).setCell ⟨g, 11, none⟩ (.int .i64 x.ca)).heap[g]? = some (.cells (ndV x).toArray T (0, 0)) ∧ Below w0.heap.size w0 ((((((((((((w.setCell ⟨g, 0, none⟩ (.int .i64 x.y)).setCell ⟨g, 1, none⟩ (.int .i64 x.i)).setCell ⟨g, 2, none⟩ (.int .i64 x.p)).setCell ⟨g, 3, none⟩ (.int .i64 x.f)).setCell ⟨g, 4, none⟩ (.int .i64 x.o)).setCell ⟨g, 5, none⟩ (.bool x.ab)).setCell ⟨g, 6, none⟩ (.int .i64 x.li)).setCell ⟨g, 7, none⟩ (.int .i64 x.pr)).setCell ⟨g, 8, none⟩ (.int .i64 x.en)).setCell ⟨g, 9, none⟩ (.int .i64 x.ex)).setCell ⟨g, 10, none⟩ (.int .i64 x.la)).setCell ⟨g, 11, none⟩ (.int .i64 x.ca)) := by
  obtain ⟨l⟩ := zs
  match l, hs with
  | [z0, z1, z2, z3, z4, z5, z6, z7, z8, z9, z10, z11], _ =>
    exact ⟨node_set hz, (below_box (below_box (below_box (below_box (below_box (below_box (below_box (below_box (below_box (below_box (below_box (below_box hb hg 0 (.int .i64 x.y)) hg 1 (.int .i64 x.i)) hg 2 (.int .i64 x.p)) hg 3 (.int .i64 x.f)) hg 4 (.int .i64 x.o)) hg 5 (.bool x.ab)) hg 6 (.int .i64 x.li)) hg 7 (.int .i64 x.pr)) hg 8 (.int .i64 x.en)) hg 9 (.int .i64 x.ex)) hg 10 (.int .i64 x.la)) hg 11 (.int .i64 x.ca))⟩
theorem ndFree {w : World} {g : Nat} {T : TypeId} {cs : Array Value} (h : w.heap[g]? = some (.cells cs T (0, 0))) : ∀ o, w.frozen? ⟨g, o, none⟩ = false := fun o => by simp [World.frozen?, h]
set_option maxHeartbeats 3200000 in
theorem treeNode_any (h : ViewAt w X v m c S) (y i : Int) (hy : Nd64 y) (hi : Nd64 i) :
    Calls Tryz.prog 51 #[.agg #[.pointer (some ⟨v, 0, none⟩), .int .i64 y], .int .i64 i] w fun e w' => e = .returned (.tuple #[ndW (nodeAt S y i), .bool (nodeAt S y i).isSome]) ∧ NodeIs (nodeAt S y i) ∧ Below w.heap.size w w' := by
  obtain ⟨w1, hw1⟩ : ∃ w1, w1 = w.alloc (.cells #[.pointer (some ⟨v, 0, none⟩), .int .i64 y] 93) := ⟨_, rfl⟩
  have hb1 : Below w.heap.size w w1 := by rw [hw1]; exact (Below.refl _ _).alloc (Nat.le_refl _) _
  have hs1 : w1.heap.size = w.heap.size + 1 := by rw [hw1]; simp
  have c0 : w1.cell? ⟨w.heap.size, 0, none⟩ = some (.pointer (some ⟨v, 0, none⟩)) := by rw [hw1]; exact cell_of_row _ _ 0 _ _ (0, 0) (heap_alloc_new w _)
  have c1 : w1.cell? ⟨w.heap.size, 1, none⟩ = some (.int .i64 y) := by rw [hw1]; exact cell_of_row _ _ 1 _ _ (0, 0) (heap_alloc_new w _)
  obtain ⟨w2, hw2⟩ : ∃ w2, w2 = w1.alloc (.cells #[.int .i64 0, .int .i64 0, .int .i64 0, .int .i64 0, .int .i64 0, .bool false, .int .i64 0, .int .i64 0, .int .i64 0, .int .i64 0, .int .i64 0, .int .i64 0] 41) := ⟨_, rfl⟩
  have hb2 : Below w1.heap.size w1 w2 := by rw [hw2]; exact (Below.refl _ _).alloc (Nat.le_refl _) _
  have hz2 : w2.heap[w.heap.size + 1]? = some (.cells #[.int .i64 0, .int .i64 0, .int .i64 0, .int .i64 0, .int .i64 0, .bool false, .int .i64 0, .int .i64 0, .int .i64 0, .int .i64 0, .int .i64 0, .int .i64 0] 41 (0, 0)) := by rw [hw2, ← hs1]; exact heap_alloc_new w1 _
  have hs2 : w2.heap.size = w.heap.size + 2 := by rw [hw2]; show (w1.alloc _).heap.size = _; simp [hs1]
  have hb02 := hb1.trans (hb2.mono hb1.size)
  have HC := Lib.hid (show ∀ W, Below w2.heap.size w2 W → W.cell? ⟨w.heap.size, 0, none⟩ = some (.pointer (some ⟨v, 0, none⟩)) ∧ W.cell? ⟨w.heap.size, 1, none⟩ = some (.int .i64 y) ∧ W.heap[w.heap.size + 1]? = some (.cells #[.int .i64 0, .int .i64 0, .int .i64 0, .int .i64 0, .int .i64 0, .bool false, .int .i64 0, .int .i64 0, .int .i64 0, .int .i64 0, .int .i64 0, .int .i64 0] 41 (0, 0)) from fun W hW =>
    ⟨((hb2.trans (hW.mono hb2.size)).cell (p := ⟨w.heap.size, 0, none⟩) (by show w.heap.size < w1.heap.size; omega)).trans c0, ((hb2.trans (hW.mono hb2.size)).cell (p := ⟨w.heap.size, 1, none⟩) (by show w.heap.size < w1.heap.size; omega)).trans c1, (hW.block _ (by omega)).trans hz2⟩)
  have HB := Lib.hid hb02
  have HV := Lib.hid (show ∀ W, Below w2.heap.size w2 W → ViewAt W X v m c S from fun W hW => h.below (hb02.trans (hW.mono hb02.size)))
  have H1 := heldT_any y
  have H2 := heldT_any i
  obtain ⟨d0, d1, dz⟩ := HC.out w2 (Below.refl _ _)
  have HK := Lib.hid (key_at 78 [y, i] 2 9 u8_78 (fun z hz => by
    simp only [List.mem_cons, List.not_mem_nil, or_false] at hz
    rcases hz with rfl | rfl
    · exact hy
    · exact hi) rfl (by omega) rfl)
  unfold nodeAt
  clear h hb1 hb2 hb02 hz2 c0 c1 hs1 hs2 hy hi
  cases e1 : heldB y with
  | false =>
    rw [e1] at H1
    rw [Bool.false_and, if_neg (by decide)]
    obtain ⟨G1, G2⟩ := ndBox dz rfl HB.out (Nat.le_succ _) ndNil
    have HG := Lib.hid G1
    have HE := Lib.hid G2
    obtain ⟨z0, z1, z2, z3, z4, z5, z6, z7, z8, z9, z10, z11⟩ := node_cells dz
    have f0 := ndFree dz 0
    have f1 := ndFree dz 1
    have f2 := ndFree dz 2
    have f3 := ndFree dz 3
    have f4 := ndFree dz 4
    have f5 := ndFree dz 5
    have f6 := ndFree dz 6
    have f7 := ndFree dz 7
    have f8 := ndFree dz 8
    have f9 := ndFree dz 9
    have f10 := ndFree dz 10
    have f11 := ndFree dz 11
    clear e1 G1 G2 dz
    go_enter Tryz.func51, Tryz.ntmps51
    go_wp2_with fail
    rw [← hw1]
    go_wp2_with fail
    rw [← hw2]
    clear hw1 hw2
    refine (H1 _).mono ?_
    rintro e w' ⟨rfl, rfl⟩
    go_wp2_with fail
    refine bodyPost_ret (results_ct rfl _ (w.heap.size + 1) _ rfl (run_loadVar_row _ _ _ _ _ (0, 0) _ HG.out Tryz.underlying41 rfl node_size)) rfl ?_
    exact ⟨rfl, (fun n h => by cases h), HE.out⟩
  | true =>
    rw [e1] at H1
    rw [Bool.true_and]
    cases e2 : heldB i with
    | false =>
      rw [e2] at H2
      rw [if_neg (by decide)]
      obtain ⟨G1, G2⟩ := ndBox dz rfl HB.out (Nat.le_succ _) ndNil
      have HG := Lib.hid G1
      have HE := Lib.hid G2
      obtain ⟨z0, z1, z2, z3, z4, z5, z6, z7, z8, z9, z10, z11⟩ := node_cells dz
      have f0 := ndFree dz 0
      have f1 := ndFree dz 1
      have f2 := ndFree dz 2
      have f3 := ndFree dz 3
      have f4 := ndFree dz 4
      have f5 := ndFree dz 5
      have f6 := ndFree dz 6
      have f7 := ndFree dz 7
      have f8 := ndFree dz 8
      have f9 := ndFree dz 9
      have f10 := ndFree dz 10
      have f11 := ndFree dz 11
      clear e1 e2 G1 G2 dz
      go_enter Tryz.func51, Tryz.ntmps51
      go_wp2_with fail
      rw [← hw1]
      go_wp2_with fail
      rw [← hw2]
      clear hw1 hw2
      refine (H1 _).mono ?_
      rintro e w' ⟨rfl, rfl⟩
      go_wp2_with fail
      refine (H2 _).mono ?_
      rintro e w' ⟨rfl, rfl⟩
      go_wp2_with fail
      refine bodyPost_ret (results_ct rfl _ (w.heap.size + 1) _ rfl (run_loadVar_row _ _ _ _ _ (0, 0) _ HG.out Tryz.underlying41 rfl node_size)) rfl ?_
      exact ⟨rfl, (fun n h => by cases h), HE.out⟩
    | true =>
      rw [e2] at H2
      rw [if_pos rfl]
      clear e1 e2
      have hk1 : Below w2.heap.size w2 (w2.alloc (.cells #[.int .i64 y, .int .i64 i] 3)) := (Below.refl _ _).alloc (Nat.le_refl _) _
      have HK1 := Lib.hid (HK.out (w2.alloc (.cells #[.int .i64 y, .int .i64 i] 3)) w2.heap.size (RowN.a' (l := [y, i]) w2 3))
      have HKB := Lib.hid hk1
      clear hk1 HK dz
      go_enter Tryz.func51, Tryz.ntmps51
      go_wp2_with fail
      rw [← hw1]
      go_wp2_with fail
      rw [← hw2]
      clear hw1 hw2
      refine (H1 _).mono ?_
      rintro e w' ⟨rfl, rfl⟩
      go_wp2_with fail
      refine (H2 _).mono ?_
      rintro e w' ⟨rfl, rfl⟩
      go_wp2_with fail
      refine HK1.out.mono ?_
      rintro e w3 ⟨A, k, rfl, ho⟩
      have hb3 := HKB.out.trans (ho.2.mono HKB.out.size)
      obtain ⟨A', k', e', hk', hr⟩ := ho.read (tagL_bytes u8_78 _)
      injection e' with e1 e2 e3
      subst e1 e3
      rw [nKyLen] at hr hk'
      have HGT := Lib.hid (vGet_any (k := k) (HV.out w3 hb3) hr (Nat.le_refl _) (by decide))
      obtain ⟨d0, d1, _⟩ := HC.out w3 hb3
      have HR := Lib.hid hr
      have HB3 := Lib.hid hb3
      clear ho hb3 hr HK1 HKB e2
      go_wp2_with fail
      refine HGT.out.mono ?_
      rintro e w4 ⟨u, rfl, hs, hb4⟩
      obtain ⟨Au, nu, ku, rfl, hu1, hu2, hu3, _⟩ := hs
      have HO := Lib.hid (recNodeOf_any A 9 k Au nu ku (keyL 78 [y, i], (S.now (nKy y i)).getD []) _ w4 ((HR.out.below hb4).more hb4.size) hu3 (Nat.le_refl _) hk' hu1 (by decide) (Nat.le_trans hu2 (by unfold maxLen; omega)))
      rw [nodeV_w, ndK_some] at HO
      have HBO := Lib.hid (show NodeIs (ndK (keyL 78 [y, i], (S.now (nKy y i)).getD [])) from fun n h => ndK_ok (tagL_bytes u8_78 _) hu3.bytes h)
      have HB4 := Lib.hid (HB3.out.trans (hb4.mono HB3.out.size))
      obtain ⟨o, ho⟩ : ∃ o, o = ndK (keyL 78 [y, i], (S.now (nKy y i)).getD []) := ⟨_, rfl⟩
      rw [← ho] at HO
      have HOO := Lib.hid ho
      clear ho
      clear hu1 hu2 hu3 hb4 HGT HR HB3 HV d0 d1
      go_wp2_with fail
      refine HO.out.mono ?_
      rintro e w5 ⟨rfl, hb5⟩
      have hb25 := HB4.out.trans (hb5.mono HB4.out.size)
      obtain ⟨_, _, dz⟩ := HC.out w5 hb25
      unfold ndW
      obtain ⟨x, hx⟩ : ∃ x, x = ndO o := ⟨_, rfl⟩
      rw [← hx]
      have HX := Lib.hid (show ndW o = .agg (ndV x).toArray by rw [hx]; rfl)
      clear hx
      obtain ⟨G1, G2⟩ := ndBox dz rfl (HB.out.trans (hb25.mono HB.out.size)) (Nat.le_succ _) x
      have HG := Lib.hid G1
      have HE := Lib.hid G2
      obtain ⟨z0, z1, z2, z3, z4, z5, z6, z7, z8, z9, z10, z11⟩ := node_cells dz
      have f0 := ndFree dz 0
      have f1 := ndFree dz 1
      have f2 := ndFree dz 2
      have f3 := ndFree dz 3
      have f4 := ndFree dz 4
      have f5 := ndFree dz 5
      have f6 := ndFree dz 6
      have f7 := ndFree dz 7
      have f8 := ndFree dz 8
      have f9 := ndFree dz 9
      have f10 := ndFree dz 10
      have f11 := ndFree dz 11
      obtain ⟨a0, a1, a2, a3, a4, a5, a6, a7, a8, a9, a10, a11⟩ := x
      clear G1 G2 dz hb5 hb25 HO HB4
      go_wp2_with fail
      refine bodyPost_ret (results_ct rfl _ (w.heap.size + 1) _ rfl (run_loadVar_row _ _ _ _ _ (0, 0) _ HG.out Tryz.underlying41 rfl node_size)) rfl ?_
      have hbo := HBO.out
      rw [← HOO.out] at hbo ⊢
      rw [HX.out]
      exact ⟨rfl, hbo, HE.out⟩
set_option maxHeartbeats 1600000 in
theorem treeGet_any (h : ViewAt w X v m c S) (y i : Int) (hy : Nd64 y) (hi : Nd64 i) :
    Calls Tryz.prog 15 #[.pointer (some ⟨v, 0, none⟩), .int .i64 y, .int .i64 i] w fun e w' => e = .returned (.tuple #[ndW (nodeAt S y i), .bool (nodeAt S y i).isSome]) ∧ NodeIs (nodeAt S y i) ∧ Below w.heap.size w w' := by
  obtain ⟨w1, hw1⟩ : ∃ w1, w1 = w.alloc (.cells #[.int .i64 0, .int .i64 0, .int .i64 0, .int .i64 0, .int .i64 0, .bool false, .int .i64 0, .int .i64 0, .int .i64 0, .int .i64 0, .int .i64 0, .int .i64 0] 41) := ⟨_, rfl⟩
  have hb1 : Below w.heap.size w w1 := by rw [hw1]; exact (Below.refl _ _).alloc (Nat.le_refl _) _
  have hz1 : w1.heap[w.heap.size]? = some (.cells #[.int .i64 0, .int .i64 0, .int .i64 0, .int .i64 0, .int .i64 0, .bool false, .int .i64 0, .int .i64 0, .int .i64 0, .int .i64 0, .int .i64 0, .int .i64 0] 41 (0, 0)) := by rw [hw1]; exact heap_alloc_new w _
  have hs1 : w1.heap.size = w.heap.size + 1 := by rw [hw1]; simp
  have HL := Lib.hid (treeNode_any (h.below hb1) y i hy hi)
  have HZ := Lib.hid (show ∀ W, Below w1.heap.size w1 W → W.heap[w.heap.size]? = some (.cells #[.int .i64 0, .int .i64 0, .int .i64 0, .int .i64 0, .int .i64 0, .bool false, .int .i64 0, .int .i64 0, .int .i64 0, .int .i64 0, .int .i64 0, .int .i64 0] 41 (0, 0)) from fun W hW => (hW.block _ (by omega)).trans hz1)
  have HB := Lib.hid hb1
  generalize nodeAt S y i = o at HL ⊢
  clear h hb1 hz1 hs1
  go_enter Tryz.func15, Tryz.ntmps15
  go_wp2_with fail
  rw [← hw1]
  clear hw1
  refine HL.out.mono ?_
  rintro e w5 ⟨rfl, hni, hb5⟩
  have HNI := Lib.hid hni
  clear hni
  have dz := HZ.out w5 hb5
  unfold ndW
  obtain ⟨x, hx⟩ : ∃ x, x = ndO o := ⟨_, rfl⟩
  rw [← hx]
  have HX := Lib.hid (show ndW o = .agg (ndV x).toArray by rw [hx]; rfl)
  clear hx
  obtain ⟨G1, G2⟩ := ndBox dz rfl (HB.out.trans (hb5.mono HB.out.size)) (Nat.le_refl _) x
  have HG := Lib.hid G1
  have HE := Lib.hid G2
  obtain ⟨z0, z1, z2, z3, z4, z5, z6, z7, z8, z9, z10, z11⟩ := node_cells dz
  have f0 := ndFree dz 0
  have f1 := ndFree dz 1
  have f2 := ndFree dz 2
  have f3 := ndFree dz 3
  have f4 := ndFree dz 4
  have f5 := ndFree dz 5
  have f6 := ndFree dz 6
  have f7 := ndFree dz 7
  have f8 := ndFree dz 8
  have f9 := ndFree dz 9
  have f10 := ndFree dz 10
  have f11 := ndFree dz 11
  obtain ⟨a0, a1, a2, a3, a4, a5, a6, a7, a8, a9, a10, a11⟩ := x
  clear G1 G2 dz hb5 HL HZ
  go_wp2_with fail
  refine bodyPost_ret (results_ct rfl _ w.heap.size _ rfl (run_loadVar_row _ _ _ _ _ (0, 0) _ HG.out Tryz.underlying41 rfl node_size)) rfl ?_
  rw [HX.out]
  exact ⟨rfl, HNI.out, HE.out⟩
end
end Go.Proofs.YtlcbmobdokicaaaGreat
