/-
  The texts TreT, TreTellsW joined. Conditions: those that each part says at its head.
-/
import Derived.Test.YtilhcchnlbdlhaaGreatTreS
import Derived.Test.YtilhcchnlbdlhaaGreatSeqG
import Derived.Test.YtilhcchnlbdlhaaGreatFewK

/-
  Both views with the nodes of a budget: Put at both; what is told by both is the same. Conditions: which numbers are ints; at most a hundred calls ahead.
-/
namespace Go.Proofs.YtilhcchnlbdlhaaGreat
open Go.RowKit Go.Maps
set_option maxRecDepth 100000
set_option linter.unusedVariables false

theorem SmallS.scanT {S : VS} {a b d : TL} {j : Nat} (h : SmallS S a b d j) (hj : j ≤ 32767) : ScanOk S :=
  ⟨by rw [h.w]; decide, (fun p hp => by rw [h.w] at hp; cases hp), Nat.le_trans h.c hj, fun p hp => Nat.le_trans (h.kc p hp) (by decide)⟩
section
variable {w w0 : World} {v m c x B j : Nat}
/-- Put of a node at both; block g (a caller's own) stands. -/
theorem SeqInv.putN (h : SeqInv w0 B j v m c x w) (hj : j ≤ 100) (hB : B ≤ w.heap.size) (n : Nd) (hn : NdOk n) {o : Obj} :
    Calls Tryz.prog 19 #[.pointer (some ⟨v, 0, none⟩), .agg #[.int .i64 n.y, .int .i64 n.i, .int .i64 n.p, .int .i64 n.f, .int .i64 n.o, .bool n.ab, .int .i64 n.li, .int .i64 n.pr, .int .i64 n.en, .int .i64 n.ex, .int .i64 n.la, .int .i64 n.ca]] (w.alloc o).drew fun e w1 => e = .returned (.int .i64 0) ∧ w1.heap[w.heap.size]? = some o ∧
      Calls Tryz.prog 20 #[.pointer (some ⟨x, 0, none⟩), .agg #[.int .i64 n.y, .int .i64 n.i, .int .i64 n.p, .int .i64 n.f, .int .i64 n.o, .bool n.ab, .int .i64 n.li, .int .i64 n.pr, .int .i64 n.en, .int .i64 n.ex, .int .i64 n.la, .int .i64 n.ca]] w1 fun e w2 => e = .returned (.int .i64 0) ∧ w2.heap[w.heap.size]? = some o ∧ SeqInv w0 B (j + 1) v m c x w2 ∧ w.heap.size ≤ w2.heap.size := by
  obtain ⟨X, p, q, r, S, a, b, d, hb0, hs, hX, hw0⟩ := h
  have hba : RowKit.Below w.heap.size w (w.alloc o).drew := ((RowKit.Below.refl _ _).alloc (Nat.le_refl _) _).drew
  have hb := hb0.below hba
  have hw := hw0.trans (hba.mono hB)
  have hBa := Nat.le_trans hB hba.size
  have hgX : ¬ X w.heap.size := fun hx => Nat.lt_irrefl _ (hb0.view.lt _ hx)
  have hgo : (w.alloc o).drew.heap[w.heap.size]? = some o := heap_alloc_new w o
  have hgl : w.heap.size < (w.alloc o).drew.heap.size := by show w.heap.size < (w.alloc o).heap.size; simp
  refine (treePut_any hb.view n hn (Nat.lt_of_le_of_lt hs.c (by unfold maxLen; omega))).mono ?_
  rintro e1 w1 ⟨rfl, hv1, ht1⟩
  have ht1' : Touch (fun k => k = m ∨ k = c) (w.alloc o).drew w1 := ⟨ht1.os, ht1.tape, ht1.output, ht1.size, fun k hk hn => ht1.block k hk fun e => hn (.inr e)⟩
  have hb1 : RowKit.Below B (w.alloc o).drew w1 := ht1.below (fun k hk => by rw [hk]; exact hX _ hb.view.xc) hBa
  have hg1 : w1.heap[w.heap.size]? = some o := (ht1.block w.heap.size hgl fun e => hgX (e ▸ hb.view.xc)).trans hgo
  refine ⟨rfl, hg1, (rPutN_any (hb.afterView ht1') (Nat.le_trans hs.b (by omega)) (Nat.le_trans hs.d (by omega)) n hn).mono ?_⟩
  rintro e2 w2 ⟨rfl, hr2, ht2⟩
  have hg2 : w2.heap[w.heap.size]? = some o := (ht2.block w.heap.size (Nat.lt_of_lt_of_le hgl ht1.size) fun e => by rcases e with e | e; exact hgX (e ▸ hb.ref.now.own); exact hgX (e ▸ hb.ref.told.own)).trans hg1
  have hbel : RowKit.Below B (w.alloc o).drew w2 := hb1.trans (ht2.below (fun k hk => by rcases hk with e | e; rw [e]; exact hX _ hb.ref.now.own; rw [e]; exact hX _ hb.ref.told.own) (Nat.le_trans hBa ht1.size))
  have hsz : w.heap.size ≤ w2.heap.size := Nat.le_trans hba.size (Nat.le_trans ht1.size ht2.size)
  have hx : (nKy n.y n.i).length ≤ 60 := by rw [nKy_len]; omega
  exact ⟨rfl, hg2, ⟨X, p, q, r, _, _, _, _, hb.turn hv1 hr2 ht1' ht2 (hb.link.put _ _), hs.put hx _, hX, hw.trans hbel⟩, hsz⟩
theorem SeqInv.tellN (h : SeqInv w0 B j v m c x w) (hj : j ≤ 100) (y i : Int) (hy : Nd64 y) (hi : Nd64 i) :
    ∃ (o : Option Nd) (K P L : List Nd), (K.length ≤ 1000 ∧ P.length ≤ 1000 ∧ L.length ≤ 1000) ∧ (∀ W, RowKit.Below w.heap.size w W → Calls Tryz.prog 23 #[.pointer (some ⟨v, 0, none⟩), .int .i64 y, .int .i64 i] W fun e w1 => e = .returned (.tuple #[ndW o, .bool o.isSome]) ∧ Below W.heap.size W w1) ∧ (∀ W, RowKit.Below w.heap.size w W → Calls Tryz.prog 24 #[.pointer (some ⟨x, 0, none⟩), .int .i64 y, .int .i64 i] W fun e w1 => e = .returned (.tuple #[ndW o, .bool o.isSome]) ∧ Below W.heap.size W w1) ∧ (∀ W, RowKit.Below w.heap.size w W → Calls Tryz.prog 26 #[.pointer (some ⟨v, 0, none⟩), .int .i64 y, .int .i64 i] W fun e w1 => ∃ u, e = .returned u ∧ NodesR W w1 u K) ∧ (∀ W, RowKit.Below w.heap.size w W → Calls Tryz.prog 27 #[.pointer (some ⟨x, 0, none⟩), .int .i64 y, .int .i64 i] W fun e w1 => ∃ u, e = .returned u ∧ NodesR W w1 u K) ∧ (∀ W, RowKit.Below w.heap.size w W → Calls Tryz.prog 28 #[.pointer (some ⟨v, 0, none⟩), .int .i64 y, .int .i64 i] W fun e w1 => ∃ u, e = .returned u ∧ NodesR W w1 u P) ∧ (∀ W, RowKit.Below w.heap.size w W → Calls Tryz.prog 29 #[.pointer (some ⟨x, 0, none⟩), .int .i64 y, .int .i64 i] W fun e w1 => ∃ u, e = .returned u ∧ NodesR W w1 u P) ∧ (∀ W, RowKit.Below w.heap.size w W → Calls Tryz.prog 30 #[.pointer (some ⟨v, 0, none⟩), .int .i64 y] W fun e w1 => ∃ u, e = .returned u ∧ NodesR W w1 u L) ∧ (∀ W, RowKit.Below w.heap.size w W → Calls Tryz.prog 31 #[.pointer (some ⟨x, 0, none⟩), .int .i64 y] W fun e w1 => ∃ u, e = .returned u ∧ NodesR W w1 u L) := by
  obtain ⟨X, p, q, r, S, a, b, d, hb, hs, hX, hw⟩ := h
  have hsc := hs.scanT (by omega)
  have hbl : b.length ≤ 2147483647 := Nat.le_trans hs.b (by omega)
  have hnl : S.nowL.length ≤ j := by rw [← hb.link.nowL]; exact hs.b
  have hps : ((S.scan (tx (keyL 78 [y]))).map kvOf).length ≤ j := by
    rw [List.length_map]
    exact Nat.le_trans (List.length_filter_le _ _) hnl
  have hall : (allN S y).length ≤ j := by
    unfold allN
    split
    · exact Nat.le_trans (nodesK_len _) hps
    · exact Nat.zero_le _
  refine ⟨nodeAt S y i, kidsN S y i, pathN S y 8 i, allN S y, ⟨Nat.le_trans (List.length_filter_le _ _) (by omega), Nat.le_trans (path_len S y 8 i) (by omega), by omega⟩, fun W hW => ?_, fun W hW => ?_, fun W hW => ?_, fun W hW => ?_, fun W hW => ?_, fun W hW => ?_, fun W hW => ?_, fun W hW => ?_⟩
  · exact (treeGet_any (hb.view.below hW) y i hy hi).mono fun e w1 z => ⟨z.1, z.2.2⟩
  · exact (rGetN_any (hb.ref.below hW) hb.link.now hbl y i hy hi).mono fun e w1 z => ⟨z.1, z.2.2⟩
  · exact treeKids_of hy hi (scansN (hb.view.below hW) hsc y) (by omega)
  · exact rKidsN_any (hb.ref.below hW) hb.link hbl (by omega) y i hy
  · exact treePath_any (hb.view.below hW) y i hy hi
  · exact rPathN_any (hb.ref.below hW) hb.link.now hbl y i hy hi
  · exact treeAll_of hy (scansN (hb.view.below hW) hsc y) (by omega)
  · exact rAllN_any (hb.ref.below hW) hb.link hbl y hy
end
/-- Two rows with the same nodes compared. -/
theorem same_rows {w0 w w1 w2 : World} {A A' : Option Addr} {k k' : Nat} {l : List Nd} (h : NdE.R w1 w1.heap.size A l.length l) (h' : NdE.R w2 w2.heap.size A' l.length l) (hb : Below w1.heap.size w1 w2) (hl : l.length ≤ 1000) :
    Calls Tryz.prog 25 #[.slice A l.length k, .slice A' l.length k'] w2 fun e w' => e = .returned (.bool true) ∧ Below w2.heap.size w2 w' := by
  have := EqualNd_any (w := w2) k k' ((h.below hb).more hb.size) h' (Nat.le_trans hl (by decide)) (Nat.le_trans hl (by decide)) (Nat.le_refl _) (Nat.le_refl _)
  rwa [decide_eq_true rfl] at this
end Go.Proofs.YtilhcchnlbdlhaaGreat

/-
  TreeTells by the walk: it returns true. Condition: what came in are pairs, nodes and ints, as the statement opens them.
-/
namespace Go.Proofs.YtilhcchnlbdlhaaGreat
open Go.RowKit Go.Maps
set_option maxRecDepth 100000
set_option linter.unusedVariables false
set_option maxHeartbeats 6400000 in
theorem treeTells_any {w : World} {A A' : Option Addr} {n cap n' cap' : Nat} {ps : List KV} {l : List Nd} (hp : RPairs w w.heap.size A n ps) (hcap : n ≤ cap) (hn : n ≤ maxLen) (hr : NdE.R w w.heap.size A' n' l) (hcap' : n' ≤ cap') (hn' : n' ≤ maxLen) (y i : Int) (hy : Nd64 y) (hi : Nd64 i) :
    Calls Tryz.prog 4 #[.slice A n cap, .slice A' n' cap', .int .i64 y, .int .i64 i] w fun e w' => e = .returned (.bool true) ∧ Below w.heap.size w w' := by
  have HF := Lib.hid (few_any 30 (by omega) cap hp hn (Nat.le_refl _))
  have few0 : Hid (fewN 30 ps = false → Calls Tryz.prog 4 #[.slice A n cap, .slice A' n' cap', .int .i64 y, .int .i64 i] w fun e w' => e = .returned (.bool true) ∧ Below w.heap.size w w') := Lib.hid fun hb => by
    rw [hb] at HF
    clear hp hr
    go_enter Tryz.func4, Tryz.ntmps4
    go_wp2_with fail
    refine HF.out.mono ?_
    rintro e w1 ⟨rfl, hb1⟩
    have HB := Lib.hid hb1
    clear hb1
    go_wp2_with fail
    refine (treeAwake_any _).mono ?_
    rintro e w7 ⟨rfl, hb7⟩
    have HE := Lib.hid (HB.out.trans (hb7.mono HB.out.size))
    clear hb7 HB
    go_wp2
    go_ret
    exact ⟨rfl, HE.out⟩
  cases hb : fewN 30 ps with
  | false => exact few0.out hb
  | true =>
  clear few0
  rw [hb] at HF
  by_cases big : 30 < n'
  · have k1 : decide ((n' : Int) > 30) = true := decide_eq_true (by omega)
    clear hp hr
    go_enter Tryz.func4, Tryz.ntmps4
    go_wp2_with fail
    refine HF.out.mono ?_
    rintro e w1 ⟨rfl, hb1⟩
    have HB := Lib.hid hb1
    clear hb1
    go_wp2_with fail
    refine (treeAwake_any _).mono ?_
    rintro e w7 ⟨rfl, hb7⟩
    have HE := Lib.hid (HB.out.trans (hb7.mono HB.out.size))
    clear hb7 HB
    go_wp2
    go_ret
    exact ⟨rfl, HE.out⟩
  have k1 : decide ((n' : Int) > 30) = false := decide_eq_false (by omega)
  go_enter Tryz.func4, Tryz.ntmps4
  go_wp2_with fail
  refine HF.out.mono ?_
  rintro e w1 ⟨rfl, hb1⟩
  have HN := Lib.hid (vNew_any w1 (fun _ => False) (fun k h => h.elim))
  go_wp2_with fail
  refine HN.out.mono ?_
  rintro e w2 ⟨v, m, c, rfl, h2, hb2, hv, hm, hc⟩
  have HV := Lib.hid (And.intro h2 (And.intro hv (And.intro hm hc)))
  have HB2 := Lib.hid (And.intro hb1 (hb1.trans (hb2.mono hb1.size)))
  clear h2 hb1 hb2 hv hm hc HF HN
  go_wp2_with fail
  refine (refNew_nil w2).mono ?_
  rintro e w3 ⟨rfl, hx, b3⟩
  have HP : Hid (SeqInv w3 w.heap.size 0 v m c (w2.heap.size + 3) w3) := Lib.hid (seq_start HV.out.1 hx b3 (Nat.le_trans HB2.out.1.size HV.out.2.1) (Nat.le_trans HB2.out.1.size HV.out.2.2.1) (Nat.le_trans HB2.out.1.size HV.out.2.2.2) HB2.out.2.size)
  have HB3 := Lib.hid (HB2.out.2.trans (b3.mono HB2.out.2.size))
  generalize w2.heap.size + 3 = x at HP ⊢
  clear hx b3 HV HB2
  have HPS := Lib.hid (And.intro hp (fewN_is hb))
  have HRL := Lib.hid hr
  clear hp hr hb
  unfold maxLen at hn hn'
  go_wp2_with fail
  go_loopw [32] (fun i wr => ∃ k : Nat, k ≤ n ∧ i = .int .i64 k ∧ Hid (SeqInv w3 w.heap.size k v m c x wr ∧ w.heap.size ≤ wr.heap.size)) (fun i _ => n - (intOf i).toNat)
  case atStart => exact ⟨0, Nat.zero_le _, rfl, Lib.hid ⟨HP.out, HB3.out.size⟩⟩
  case round =>
    obtain ⟨k, hk, rfl, ho⟩ := hrel
    by_cases hlt : k < n
    · have hlt' : (k : Int) < (n : Int) := by omega
      obtain ⟨bb, off, rfl, hbb, hat⟩ := HPS.out.1.2 (by omega)
      obtain ⟨z, hz⟩ : ∃ z, ps[k]? = some z := ⟨_, List.getElem?_eq_getElem (by rw [HPS.out.1.len]; exact hlt)⟩
      have hbw : RowKit.Below w.heap.size w wr := HB3.out.trans ho.out.1.was
      obtain ⟨ka, kn, kc, va, vn, vc, h0, h1, h2, ⟨h3a, h3b⟩, h4, ⟨h5a, h5b⟩⟩ := (hat k z hz).keep hbb (fun b o hbb => hbw.cell (p := ⟨b, o, none⟩) hbb)
      obtain ⟨l1, l2⟩ := HPS.out.2.2 z (List.mem_of_getElem? hz)
      rw [h2.len] at l1
      rw [h4.len] at l2
      have hk30 : k ≤ 30 := by have := HPS.out.2.1; rw [HPS.out.1.len] at this; omega
      have HX := Lib.hid (ho.out.1.put (by omega) ho.out.2 h2 l1 h3a h4 l2 h5a (o := .cells #[.slice ka kn kc, .slice va vn vc] 46))
      have HSZ := Lib.hid ho.out.2
      clear hat hz h2 h4 l1 l2 hk30 hbw ho
      go_wp2_with fail
      refine HX.out.mono ?_
      rintro e w4 ⟨rfl, hg, hset⟩
      have q0 : w4.cell? ⟨wr.heap.size, 0, none⟩ = some (.slice ka kn kc) := cell_of_row _ _ 0 _ _ (0, 0) hg
      have q1 : w4.cell? ⟨wr.heap.size, 1, none⟩ = some (.slice va vn vc) := cell_of_row _ _ 1 _ _ (0, 0) hg
      have HY := Lib.hid hset
      clear hset hg h0 h1 HX
      go_wp2_with fail
      refine HY.out.mono ?_
      rintro e w5 ⟨rfl, hinv, hsz⟩
      have HE := Lib.hid (And.intro hinv (Nat.le_trans HSZ.out hsz))
      clear hinv hsz HY q0 q1
      go_wp2_with fail
      go_roundw
      case rel => exact ⟨k + 1, by omega, by go_num, HE⟩
      case measure => simp [intOf]; omega
    · obtain rfl : k = n := by omega
      have hk30 : k ≤ 30 := by have := HPS.out.2.1; rw [HPS.out.1.len] at this; exact this
      clear HP HPS
      go_wp2_with fail
      go_loopw [48] (fun iv wq => ∃ k2 : Nat, k2 ≤ n' ∧ iv = .int .i64 k2 ∧ Hid (SeqInv w3 w.heap.size (k + k2) v m c x wq ∧ w.heap.size ≤ wq.heap.size)) (fun iv _ => n' - (intOf iv).toNat)
      case atStart => exact ⟨0, Nat.zero_le _, rfl, ho⟩
      case round =>
        clear ho
        obtain ⟨k2, hk2, rfl, ho⟩ := hrel
        have hk2' : k2 ≤ 30 := by omega
        by_cases hlt : k2 < n'
        · have hlt' : (k2 : Int) < (n' : Int) := by omega
          have hbw : RowKit.Below w.heap.size w wr := HB3.out.trans ho.out.1.was
          obtain ⟨z, hz⟩ : ∃ z, l[k2]? = some z := ⟨_, List.getElem?_eq_getElem (by rw [HRL.out.len]; exact hlt)⟩
          have hok := HRL.out.ok z (List.mem_of_getElem? hz)
          obtain ⟨bb, off, rfl, hbb, hat⟩ := nd_at (HRL.out.below hbw) hz
          obtain ⟨e0, e1, e2, e3, e4, e5, e6, e7, e8, e9, e10, e11⟩ := ndAt hat
          have HOP := Lib.hid (ho.out.1.putN (by omega) ho.out.2 z hok (o := .cells #[.int .i64 z.y, .int .i64 z.i, .int .i64 z.p, .int .i64 z.f, .int .i64 z.o, .bool z.ab, .int .i64 z.li, .int .i64 z.pr, .int .i64 z.en, .int .i64 z.ex, .int .i64 z.la, .int .i64 z.ca] 50 (0, 0)))
          have HSZ := Lib.hid ho.out.2
          obtain ⟨g, hg⟩ : ∃ g, g = wr.heap.size := ⟨_, rfl⟩
          have HWG := Lib.hid hg
          obtain ⟨w4, hw4⟩ : ∃ w4, w4 = wr.alloc (.cells #[.int .i64 z.y, .int .i64 z.i, .int .i64 z.p, .int .i64 z.f, .int .i64 z.o, .bool z.ab, .int .i64 z.li, .int .i64 z.pr, .int .i64 z.en, .int .i64 z.ex, .int .i64 z.la, .int .i64 z.ca] 50 (0, 0)) := ⟨_, rfl⟩
          have hg4 : w4.heap[g]? = some (.cells #[.int .i64 z.y, .int .i64 z.i, .int .i64 z.p, .int .i64 z.f, .int .i64 z.o, .bool z.ab, .int .i64 z.li, .int .i64 z.pr, .int .i64 z.en, .int .i64 z.ex, .int .i64 z.la, .int .i64 z.ca] 50 (0, 0)) := by rw [hw4, hg]; exact heap_alloc_new wr _
          have HCE := Lib.hid (show ∀ W : World, W.heap[g]? = some (.cells #[.int .i64 z.y, .int .i64 z.i, .int .i64 z.p, .int .i64 z.f, .int .i64 z.o, .bool z.ab, .int .i64 z.li, .int .i64 z.pr, .int .i64 z.en, .int .i64 z.ex, .int .i64 z.la, .int .i64 z.ca] 50 (0, 0)) → W.cell? ⟨g, 0, none⟩ = some (.int .i64 z.y) ∧ W.cell? ⟨g, 1, none⟩ = some (.int .i64 z.i) ∧ W.cell? ⟨g, 2, none⟩ = some (.int .i64 z.p) ∧ W.cell? ⟨g, 3, none⟩ = some (.int .i64 z.f) ∧ W.cell? ⟨g, 4, none⟩ = some (.int .i64 z.o) ∧ W.cell? ⟨g, 5, none⟩ = some (.bool z.ab) ∧ W.cell? ⟨g, 6, none⟩ = some (.int .i64 z.li) ∧ W.cell? ⟨g, 7, none⟩ = some (.int .i64 z.pr) ∧ W.cell? ⟨g, 8, none⟩ = some (.int .i64 z.en) ∧ W.cell? ⟨g, 9, none⟩ = some (.int .i64 z.ex) ∧ W.cell? ⟨g, 10, none⟩ = some (.int .i64 z.la) ∧ W.cell? ⟨g, 11, none⟩ = some (.int .i64 z.ca) from fun W h => node_cells h)
          rw [← hw4, ← hg] at HOP
          have q0 := HCE.out w4 hg4
          have q2 := HCE.out w4.drew hg4
          have HCW := Lib.hid (show ∀ W1 W : World, W1.heap[g]? = some (.cells #[.int .i64 z.y, .int .i64 z.i, .int .i64 z.p, .int .i64 z.f, .int .i64 z.o, .bool z.ab, .int .i64 z.li, .int .i64 z.pr, .int .i64 z.en, .int .i64 z.ex, .int .i64 z.la, .int .i64 z.ca] 50 (0, 0)) → RowKit.Below W1.heap.size W1 W → W.heap[g]? = some (.cells #[.int .i64 z.y, .int .i64 z.i, .int .i64 z.p, .int .i64 z.f, .int .i64 z.o, .bool z.ab, .int .i64 z.li, .int .i64 z.pr, .int .i64 z.en, .int .i64 z.ex, .int .i64 z.la, .int .i64 z.ca] 50 (0, 0)) from fun W1 W h hW => (hW.block g (Array.getElem?_eq_some_iff.1 h).1).trans h)
          clear hat hbw ho hz hok q0
          go_wp2_with fail
          rw [← hg, ← hw4]
          have hc1 := HOP.out
          clear hw4 hg hg4 e0 e1 e2 e3 e4 e5 e6 e7 e8 e9 e10 e11
          first
            | (go_region_held3 (fun W => W.cell? ⟨g, 0, none⟩ = some (.int .i64 z.y) ∧ W.cell? ⟨g, 1, none⟩ = some (.int .i64 z.i) ∧ W.cell? ⟨g, 2, none⟩ = some (.int .i64 z.p) ∧ W.cell? ⟨g, 3, none⟩ = some (.int .i64 z.f) ∧ W.cell? ⟨g, 4, none⟩ = some (.int .i64 z.o) ∧ W.cell? ⟨g, 5, none⟩ = some (.bool z.ab) ∧ W.cell? ⟨g, 6, none⟩ = some (.int .i64 z.li) ∧ W.cell? ⟨g, 7, none⟩ = some (.int .i64 z.pr) ∧ W.cell? ⟨g, 8, none⟩ = some (.int .i64 z.en) ∧ W.cell? ⟨g, 9, none⟩ = some (.int .i64 z.ex) ∧ W.cell? ⟨g, 10, none⟩ = some (.int .i64 z.la) ∧ W.cell? ⟨g, 11, none⟩ = some (.int .i64 z.ca))
                (first | with_reducible exact q6 | with_reducible exact q5 | with_reducible exact q4 | with_reducible exact q3 | exact q2)
                (first
                  | (go_at_call 19; refine hc1.mono ?_; rintro e w5 ⟨rfl, g5, h5⟩; have q3 := HCE.out w5 g5)
                  | (go_at_call 20; refine h5.mono ?_; rintro e w6 ⟨rfl, g6, hi6, hz6⟩; have q4 := HCE.out w6 g6)
                  | (go_at_call 21; refine (used_any z _).mono ?_; rintro e w7 ⟨rfl, hb7⟩; have q5 := HCE.out w7 (HCW.out _ _ g6 hb7))
                  | (go_at_call 22; refine (rUsed_any z _).mono ?_; rintro e w8 ⟨rfl, hb8⟩; have hb68 := hb7.trans (hb8.mono hb7.size); have q6 := HCE.out w8 (HCW.out _ _ g6 hb68))))
            | fail
          have HE := Lib.hid (show SeqInv w3 w.heap.size (k + (k2 + 1)) v m c x w8 ∧ w.heap.size ≤ w8.heap.size from ⟨hi6.below (Nat.le_trans HSZ.out (by rw [← HWG.out]; exact hz6)) hb68, Nat.le_trans (Nat.le_trans HSZ.out (by rw [← HWG.out]; exact hz6)) hb68.size⟩)
          clear q2 q3 q4 q5 q6 hc1 g5 h5 g6 hi6 hz6 hb7 hb8 hb68 HOP HSZ HWG HCE HCW
          go_wp2_with fail
          go_roundw
          case rel => exact ⟨k2 + 1, by omega, by go_num, HE⟩
          case measure => simp [intOf]; omega
        · obtain rfl : k2 = n' := by omega
          obtain ⟨o, K, P, L, hlen, t1, t2, t3, t4, t5, t6, t7, t8⟩ := ho.out.1.tellN (by omega) y i hy hi
          have HT1 := Lib.hid t1
          have HT2 := Lib.hid t2
          have HT3 := Lib.hid t3
          have HT4 := Lib.hid t4
          have HT5 := Lib.hid t5
          have HT6 := Lib.hid t6
          have HT7 := Lib.hid t7
          have HT8 := Lib.hid t8
          have HLEN := Lib.hid hlen
          have HBW := Lib.hid (show RowKit.Below w.heap.size w wr from HB3.out.trans ho.out.1.was)
          have HW0 := Lib.hid ho.out.2
          clear t1 t2 t3 t4 t5 t6 t7 t8 hlen ho
          go_wp2_with fail
          refine (HT1.out _ (Below.refl _ _)).mono ?_
          rintro e w5 ⟨rfl, hb5⟩
          unfold ndW
          obtain ⟨z, hz⟩ : ∃ z, z = ndO o := ⟨_, rfl⟩
          rw [← hz]
          have HZO := Lib.hid (show ndW o = .agg #[.int .i64 z.y, .int .i64 z.i, .int .i64 z.p, .int .i64 z.f, .int .i64 z.o, .bool z.ab, .int .i64 z.li, .int .i64 z.pr, .int .i64 z.en, .int .i64 z.ex, .int .i64 z.la, .int .i64 z.ca] by rw [hz]; rfl)
          obtain ⟨w6, hw6⟩ : ∃ w6, w6 = w5.alloc (.cells #[.int .i64 z.y, .int .i64 z.i, .int .i64 z.p, .int .i64 z.f, .int .i64 z.o, .bool z.ab, .int .i64 z.li, .int .i64 z.pr, .int .i64 z.en, .int .i64 z.ex, .int .i64 z.la, .int .i64 z.ca] 50 (0, 0)) := ⟨_, rfl⟩
          have hb6 : Below w5.heap.size w5 w6 := by rw [hw6]; exact (Below.refl _ _).alloc (Nat.le_refl _) _
          have g6 : w6.heap[w5.heap.size]? = some (.cells #[.int .i64 z.y, .int .i64 z.i, .int .i64 z.p, .int .i64 z.f, .int .i64 z.o, .bool z.ab, .int .i64 z.li, .int .i64 z.pr, .int .i64 z.en, .int .i64 z.ex, .int .i64 z.la, .int .i64 z.ca] 50 (0, 0)) := by rw [hw6]; exact heap_alloc_new w5 _
          have hb06 := hb5.trans (hb6.mono hb5.size)
          have HG6 := Lib.hid g6
          have HB06 := Lib.hid hb06
          have HC2 := Lib.hid (HT2.out w6 hb06)
          obtain ⟨ga, hga⟩ : ∃ ga, ga = w5.heap.size := ⟨_, rfl⟩
          rw [← hga] at HG6
          clear hz hb6 g6 hb06 hb5 HT1 HT2
          go_wp2_with fail
          rw [← hga, ← hw6]
          clear hga hw6
          refine HC2.out.mono ?_
          rintro e w7 ⟨rfl, hb7⟩
          rw [HZO.out]
          obtain ⟨w8, hw8⟩ : ∃ w8, w8 = w7.alloc (.cells #[.int .i64 z.y, .int .i64 z.i, .int .i64 z.p, .int .i64 z.f, .int .i64 z.o, .bool z.ab, .int .i64 z.li, .int .i64 z.pr, .int .i64 z.en, .int .i64 z.ex, .int .i64 z.la, .int .i64 z.ca] 50 (0, 0)) := ⟨_, rfl⟩
          have hb8 : Below w7.heap.size w7 w8 := by rw [hw8]; exact (Below.refl _ _).alloc (Nat.le_refl _) _
          have g8 : w8.heap[w7.heap.size]? = some (.cells #[.int .i64 z.y, .int .i64 z.i, .int .i64 z.p, .int .i64 z.f, .int .i64 z.o, .bool z.ab, .int .i64 z.li, .int .i64 z.pr, .int .i64 z.en, .int .i64 z.ex, .int .i64 z.la, .int .i64 z.ca] 50 (0, 0)) := by rw [hw8]; exact heap_alloc_new w7 _
          have hb68 := hb7.trans (hb8.mono hb7.size)
          have g8a : w8.heap[ga]? = some (.cells #[.int .i64 z.y, .int .i64 z.i, .int .i64 z.p, .int .i64 z.f, .int .i64 z.o, .bool z.ab, .int .i64 z.li, .int .i64 z.pr, .int .i64 z.en, .int .i64 z.ex, .int .i64 z.la, .int .i64 z.ca] 50 (0, 0)) := (hb68.block ga (Array.getElem?_eq_some_iff.1 HG6.out).1).trans HG6.out
          obtain ⟨a0, a1, a2, a3, a4, a5, a6, a7, a8, a9, a10, a11⟩ := node_cells g8a
          obtain ⟨b0, b1, b2, b3, b4, b5, b6, b7, b8, b9, b10, b11⟩ := node_cells g8
          have hcmp := same_node z z
          rw [decide_eq_true rfl] at hcmp
          simp only [ndV] at hcmp
          have hb08 := HB06.out.trans (hb68.mono HB06.out.size)
          have HB08 := Lib.hid hb08
          have HK1 := Lib.hid (HT3.out w8 hb08)
          have eqb : ∀ bb : Bool, (bb == bb) = true := fun bb => by cases bb <;> rfl
          have hbo := eqb o.isSome
          clear hb7 hb8 g8 hb68 g8a hb08 HC2 HG6 HB06 HT3 eqb
          generalize o.isSome = os at hbo
          rw [hw8] at a0 a1 a2 a3 a4 a5 a6 a7 a8 a9 a10 a11 b0 b1 b2 b3 b4 b5 b6 b7 b8 b9 b10 b11
          go_wp2_with fail
          rw [← hw8]
          clear hw8 a0 a1 a2 a3 a4 a5 a6 a7 a8 a9 a10 a11 b0 b1 b2 b3 b4 b5 b6 b7 b8 b9 b10 b11 hcmp hbo
          refine HK1.out.mono ?_
          rintro e wa1 ⟨u, rfl, h1⟩
          obtain ⟨A11, c11, rfl, hc1, hr1⟩ := h1.read
          have hba := HB08.out.trans (h1.2.2.mono HB08.out.size)
          have HKR := Lib.hid (HT4.out wa1 hba)
          have HR1 := Lib.hid hr1
          have HBA := Lib.hid hba
          clear h1 hr1 hba hc1 HK1 HB08
          go_wp2_with fail
          refine HKR.out.mono ?_
          rintro e wb1 ⟨u, rfl, h2⟩
          obtain ⟨A21, c21, rfl, hc2, hr2⟩ := h2.read
          have HEQ := Lib.hid (same_rows (w0 := wr) (w := wr) (k := c11) (k' := c21) HR1.out hr2 h2.2.2 HLEN.out.1)
          have HBB := Lib.hid (HBA.out.trans (h2.2.2.mono HBA.out.size))
          clear h2 hr2 hc2 HKR HBA HR1
          go_wp2_with fail
          refine HEQ.out.mono ?_
          rintro e wc1 ⟨rfl, hbc⟩
          have HBC1 := Lib.hid (HBB.out.trans (hbc.mono HBB.out.size))
          clear hbc HBB HEQ
          have HK2 := Lib.hid (HT5.out wc1 HBC1.out)
          go_wp2_with fail
          refine HK2.out.mono ?_
          rintro e wa2 ⟨u, rfl, h1⟩
          obtain ⟨A12, c12, rfl, hc1, hr1⟩ := h1.read
          have hba := HBC1.out.trans (h1.2.2.mono HBC1.out.size)
          have HKR := Lib.hid (HT6.out wa2 hba)
          have HR1 := Lib.hid hr1
          have HBA := Lib.hid hba
          clear h1 hr1 hba hc1 HK2 HBC1
          go_wp2_with fail
          refine HKR.out.mono ?_
          rintro e wb2 ⟨u, rfl, h2⟩
          obtain ⟨A22, c22, rfl, hc2, hr2⟩ := h2.read
          have HEQ := Lib.hid (same_rows (w0 := wr) (w := wr) (k := c12) (k' := c22) HR1.out hr2 h2.2.2 HLEN.out.2.1)
          have HBB := Lib.hid (HBA.out.trans (h2.2.2.mono HBA.out.size))
          clear h2 hr2 hc2 HKR HBA HR1
          go_wp2_with fail
          refine HEQ.out.mono ?_
          rintro e wc2 ⟨rfl, hbc⟩
          have HBC2 := Lib.hid (HBB.out.trans (hbc.mono HBB.out.size))
          clear hbc HBB HEQ
          have HK3 := Lib.hid (HT7.out wc2 HBC2.out)
          go_wp2_with fail
          refine HK3.out.mono ?_
          rintro e wa3 ⟨u, rfl, h1⟩
          obtain ⟨A13, c13, rfl, hc1, hr1⟩ := h1.read
          have hba := HBC2.out.trans (h1.2.2.mono HBC2.out.size)
          have HKR := Lib.hid (HT8.out wa3 hba)
          have HR1 := Lib.hid hr1
          have HBA := Lib.hid hba
          clear h1 hr1 hba hc1 HK3 HBC2
          go_wp2_with fail
          refine HKR.out.mono ?_
          rintro e wb3 ⟨u, rfl, h2⟩
          obtain ⟨A23, c23, rfl, hc2, hr2⟩ := h2.read
          have HEQ := Lib.hid (same_rows (w0 := wr) (w := wr) (k := c13) (k' := c23) HR1.out hr2 h2.2.2 HLEN.out.2.2)
          have HBB := Lib.hid (HBA.out.trans (h2.2.2.mono HBA.out.size))
          clear h2 hr2 hc2 HKR HBA HR1
          go_wp2_with fail
          refine HEQ.out.mono ?_
          rintro e wc3 ⟨rfl, hbc⟩
          have HBC3 := Lib.hid (HBB.out.trans (hbc.mono HBB.out.size))
          clear hbc HBB HEQ
          have hbw3 := HBW.out.trans (HBC3.out.mono HBW.out.size)
          have hl3 := HRL.out.below hbw3
          have HG1 := Lib.hid (given_any (c := cap') hl3 hbw3.size (by unfold maxLen; omega))
          have HBE := Lib.hid hbw3
          clear hbw3 hl3 HBC3
          go_wp2_with fail
          refine HG1.out.mono ?_
          rintro e wd ⟨rfl, hbd⟩
          have hbw4 := HBE.out.trans (hbd.mono HBE.out.size)
          have HG2 := Lib.hid (rGiven_any (c := cap') (HRL.out.below hbw4) hbw4.size (by unfold maxLen; omega))
          have HBF := Lib.hid hbw4
          clear hbw4 hbd HBE HG1
          go_wp2_with fail
          refine HG2.out.mono ?_
          rintro e we ⟨rfl, hbe⟩
          have HBG := Lib.hid (HBF.out.trans (hbe.mono HBF.out.size))
          have HAW := Lib.hid (treeAwake_any we)
          clear hbe HG2 HBF
          go_wp2_with fail
          refine HAW.out.mono ?_
          rintro e wf ⟨rfl, hbf⟩
          have HE := Lib.hid (HBG.out.trans (hbf.mono HBG.out.size))
          clear hbf HAW
          go_wp2_with fail
          go_ret
          exact ⟨rfl, HE.out⟩
end Go.Proofs.YtilhcchnlbdlhaaGreat
