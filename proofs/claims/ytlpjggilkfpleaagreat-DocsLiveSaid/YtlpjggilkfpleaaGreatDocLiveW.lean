/-
  DocsLive by the walk: it returns true. Condition: what came in are pairs and calls, as the statement opens them.
-/
import Derived.Test.YtlpjggilkfpleaaGreatFewK
namespace Go.Proofs.YtlpjggilkfpleaaGreat
open Go.RowKit Go.Maps
set_option maxRecDepth 100000
set_option linter.unusedVariables false

theorem SeqInv.rebase {w w0 : World} {v m c x B j : Nat} (h : SeqInv w0 B j v m c x w) : SeqInv w B j v m c x w := by
  obtain ⟨X, p, q, r, S, a, b, d, hb, hs, hX, hw⟩ := h
  exact ⟨X, p, q, r, S, a, b, d, hb, hs, hX, RowKit.Below.refl _ _⟩
theorem SeqInv.up {w w0 : World} {v m c x B j k : Nat} (h : SeqInv w0 B j v m c x w) (hk : j ≤ k) : SeqInv w0 B k v m c x w := by
  obtain ⟨X, p, q, r, S, a, b, d, hb, hs, hX, hw⟩ := h
  exact ⟨X, p, q, r, S, a, b, d, hb, ⟨Nat.le_trans hs.c hk, Nat.le_trans hs.b hk, Nat.le_trans hs.d hk, hs.w, hs.kc⟩, hX, hw⟩
set_option maxHeartbeats 6400000 in
theorem docBoth_any {w : World} {A : Option Addr} {n cap : Nat} {ps : List KV} (hp : RPairs w w.heap.size A n ps) (hcap : n ≤ cap) (hn : n ≤ maxLen) (hb : fewN 30 ps = true) :
    Calls Tryz.prog 18 #[.slice A n cap] w fun e w' => ∃ v m c x, e = .returned (.tuple #[.pointer (some ⟨v, 0, none⟩), .pointer (some ⟨x, 0, none⟩)]) ∧ SeqInv w' w.heap.size 30 v m c x w' ∧ Below w.heap.size w w' := by
  have HN := Lib.hid (vNew_any w (fun _ => False) (fun k h => h.elim))
  have HPS := Lib.hid (And.intro hp (fewN_is hb))
  unfold maxLen at hn
  clear hp hb
  go_enter Tryz.func18, Tryz.ntmps18
  go_wp2_with fail
  refine HN.out.mono ?_
  rintro e w2 ⟨v, m, c, rfl, h2, hb2, hv, hm, hc⟩
  have HV := Lib.hid (And.intro h2 (And.intro hv (And.intro hm hc)))
  have HB2 := Lib.hid hb2
  clear h2 hb2 hv hm hc HN
  go_wp2_with fail
  refine (refNew_nil w2).mono ?_
  rintro e w3 ⟨rfl, hx, b3⟩
  have HP : Hid (SeqInv w3 w.heap.size 0 v m c (w2.heap.size + 3) w3) := Lib.hid (seq_start HV.out.1 hx b3 HV.out.2.1 HV.out.2.2.1 HV.out.2.2.2 HB2.out.size)
  have HB3 := Lib.hid (HB2.out.trans (b3.mono HB2.out.size))
  generalize w2.heap.size + 3 = x at HP ⊢
  clear hx b3 HV HB2
  go_wp2_with fail
  go_loopw [12] (fun i wr => ∃ k : Nat, k ≤ n ∧ i = .int .i64 k ∧ Hid (SeqInv w3 w.heap.size k v m c x wr ∧ w.heap.size ≤ wr.heap.size)) (fun i _ => n - (intOf i).toNat)
  case atStart => exact ⟨0, Nat.zero_le _, rfl, Lib.hid ⟨HP.out, HB3.out.size⟩⟩
  case round =>
    obtain ⟨k, hk, rfl, ho⟩ := hrel
    by_cases hlt : k < n
    · have hlt' : (k : Int) < (n : Int) := by omega
      obtain ⟨bb, off, rfl, hbb, hat⟩ := HPS.out.1.2 (by omega)
      obtain ⟨y, hy⟩ : ∃ y, ps[k]? = some y := ⟨_, List.getElem?_eq_getElem (by rw [HPS.out.1.len]; exact hlt)⟩
      have hbw : RowKit.Below w.heap.size w wr := HB3.out.trans ho.out.1.was
      obtain ⟨ka, kn, kc, va, vn, vc, h0, h1, h2, ⟨h3a, h3b⟩, h4, ⟨h5a, h5b⟩⟩ := (hat k y hy).keep hbb (fun b o hbb => hbw.cell (p := ⟨b, o, none⟩) hbb)
      obtain ⟨l1, l2⟩ := HPS.out.2.2 y (List.mem_of_getElem? hy)
      rw [h2.len] at l1
      rw [h4.len] at l2
      have hk20 : k ≤ 30 := by have := HPS.out.2.1; rw [HPS.out.1.len] at this; omega
      have HX := Lib.hid (ho.out.1.put (by omega) ho.out.2 h2 l1 h3a h4 l2 h5a (o := .cells #[.slice ka kn kc, .slice va vn vc] 88))
      have HSZ := Lib.hid ho.out.2
      clear hat hy h2 h4 l1 l2 hk20 hbw ho
      go_wp2_with fail
      refine HX.out.mono ?_
      rintro e w4 ⟨rfl, hg, hset⟩
      have q0 : w4.cell? ⟨wr.heap.size, 0, none⟩ = some (.slice ka kn kc) := cell_of_row _ _ 0 _ _ (0, 0) hg
      have q1 : w4.cell? ⟨wr.heap.size, 1, none⟩ = some (.slice va vn vc) := cell_of_row _ _ 1 _ _ (0, 0) hg
      have HY := Lib.hid hset
      clear hset hg h0 h1 HX
      go_wp2_with fail
      refine HY.out.mono ?_
      rintro e w5 ⟨rfl, hinv, hsz⟩
      have HE := Lib.hid (And.intro hinv (Nat.le_trans HSZ.out hsz))
      clear hinv hsz HY q0 q1
      go_wp2_with fail
      go_roundw
      case rel => exact ⟨k + 1, by omega, by go_num, HE⟩
      case measure => simp [intOf]; omega
    · obtain rfl : k = n := by omega
      have hk30 : k ≤ 30 := by have := HPS.out.2.1; rw [HPS.out.1.len] at this; exact this
      have HE := Lib.hid (And.intro (ho.out.1.rebase.up hk30) (HB3.out.trans ho.out.1.was))
      clear ho hk30
      go_wp2_with fail
      go_ret2
      exact ⟨v, m, c, x, rfl, HE.out⟩
set_option maxHeartbeats 25600000 in
theorem docsLive_any {w : World} {A A' : Option Addr} {n cap n' cap' : Nat} {ps : List KV} {l : List Do30} (hp : RPairs w w.heap.size A n ps) (hcap : n ≤ cap) (hn : n ≤ maxLen) (hr : Dos30E.R w w.heap.size A' n' l) (hcap' : n' ≤ cap') (hn' : n' ≤ maxLen) :
    Calls Tryz.prog 5 #[.slice A n cap, .slice A' n' cap'] w fun e w' => e = .returned (.bool true) ∧ Below w.heap.size w w' := by
  have HF := Lib.hid (few_any 30 (by omega) cap hp hn (Nat.le_refl _))
  have few0 : Hid (fewN 30 ps = false → Calls Tryz.prog 5 #[.slice A n cap, .slice A' n' cap'] w fun e w' => e = .returned (.bool true) ∧ Below w.heap.size w w') := Lib.hid fun hb => by
    rw [hb] at HF
    clear hp hr
    go_enter Tryz.func5, Tryz.ntmps5
    go_wp2_with fail
    refine HF.out.mono ?_
    rintro e w1 ⟨rfl, hb1⟩
    have HB := Lib.hid hb1
    clear hb1
    go_wp2_with fail
    refine (docAwake_any _).mono ?_
    rintro e w7 ⟨rfl, hb7⟩
    have HE := Lib.hid (HB.out.trans (hb7.mono HB.out.size))
    clear hb7 HB
    go_wp2
    go_ret
    exact ⟨rfl, HE.out⟩
  cases hb : fewN 30 ps with
  | false => exact few0.out hb
  | true =>
  clear few0
  rw [hb] at HF
  by_cases big : 40 < n'
  · have k1 : decide ((n' : Int) > 40) = true := decide_eq_true (by omega)
    clear hp hr
    go_enter Tryz.func5, Tryz.ntmps5
    go_wp2_with fail
    refine HF.out.mono ?_
    rintro e w1 ⟨rfl, hb1⟩
    have HB := Lib.hid hb1
    clear hb1
    go_wp2_with fail
    refine (docAwake_any _).mono ?_
    rintro e w7 ⟨rfl, hb7⟩
    have HE := Lib.hid (HB.out.trans (hb7.mono HB.out.size))
    clear hb7 HB
    go_wp2
    go_ret
    exact ⟨rfl, HE.out⟩
  have k1 : decide ((n' : Int) > 40) = false := decide_eq_false (by omega)
  have HRD := Lib.hid hr
  have HBO := Lib.hid (show ∀ W, Below w.heap.size w W → Calls Tryz.prog 18 #[.slice A n cap] W fun e w' => ∃ v m c x, e = .returned (.tuple #[.pointer (some ⟨v, 0, none⟩), .pointer (some ⟨x, 0, none⟩)]) ∧ SeqInv w' W.heap.size 30 v m c x w' ∧ Below W.heap.size W w' from fun W hW => docBoth_any ((hp.below hW).more hW.size) hcap hn hb)
  clear hp hr hb
  unfold maxLen at hn'
  go_enter Tryz.func5, Tryz.ntmps5
  go_wp2_with fail
  refine HF.out.mono ?_
  rintro e w1 ⟨rfl, hb1⟩
  have HB1 := Lib.hid hb1
  clear hb1 HF
  go_wp2_with fail
  refine (HBO.out w1 HB1.out).mono ?_
  rintro e w2 ⟨v, m, c, x, rfl, hinv, hb2⟩
  have HP := Lib.hid hinv
  have HB2 := Lib.hid (And.intro HB1.out (HB1.out.trans (hb2.mono HB1.out.size)))
  have HBS := Lib.hid hb2.size
  clear hinv hb2 HBO
  go_wp2_with fail
  go_loopw [35] (fun i wr => ∃ k : Nat, k ≤ n' ∧ i = .int .i64 k ∧ Hid (SeqInv w2 w1.heap.size (30 + 8 * k) v m c x wr ∧ w1.heap.size ≤ wr.heap.size)) (fun i _ => n' - (intOf i).toNat)
  case atStart => exact ⟨0, Nat.zero_le _, rfl, Lib.hid ⟨HP.out, HBS.out⟩⟩
  case round =>
    obtain ⟨k, hk, rfl, ho⟩ := hrel
    by_cases hlt : k < n'
    · have hlt' : (k : Int) < (n' : Int) := by omega
      have hbw : Below w.heap.size w wr := HB2.out.2.trans (ho.out.1.was.mono HB2.out.1.size)
      obtain ⟨K, hK⟩ : ∃ K, l[k]? = some K := ⟨_, List.getElem?_eq_getElem (by rw [HRD.out.len]; exact hlt)⟩
      obtain ⟨b, off, rfl, hbl, hc, hin, hdok, hnc, hcm, ⟨ls, hrl⟩, htok⟩ := do30_at HRD.out hbw hK
      have c0 : wr.cell? ⟨b, off + k * 13, none⟩ = some (.int .i64 K.op) := hc 0 (by decide)
      have c1 : wr.cell? ⟨b, off + k * 13 + 1, none⟩ = some (.int .i64 K.i) := hc 1 (by decide)
      have c2 : wr.cell? ⟨b, off + k * 13 + 2, none⟩ = some (.int .i64 K.j) := hc 2 (by decide)
      have c3 : wr.cell? ⟨b, off + k * 13 + 3, none⟩ = some (.int .i64 K.d.i) := hc 3 (by decide)
      have c4 : wr.cell? ⟨b, off + k * 13 + 4, none⟩ = some (.int .i64 K.d.k) := hc 4 (by decide)
      have c5 : wr.cell? ⟨b, off + k * 13 + 5, none⟩ = some (.int .i64 K.d.y) := hc 5 (by decide)
      have c6 : wr.cell? ⟨b, off + k * 13 + 6, none⟩ = some (.int .i64 K.d.f) := hc 6 (by decide)
      have c7 : wr.cell? ⟨b, off + k * 13 + 7, none⟩ = some (.int .i64 K.d.n) := hc 7 (by decide)
      have c8 : wr.cell? ⟨b, off + k * 13 + 8, none⟩ = some (.slice K.a K.n K.c) := hc 8 (by decide)
      have c9 : wr.cell? ⟨b, off + k * 13 + 9, none⟩ = some (.int .i64 K.t.nd) := hc 9 (by decide)
      have c10 : wr.cell? ⟨b, off + k * 13 + 10, none⟩ = some (.int .i64 K.t.o) := hc 10 (by decide)
      have c11 : wr.cell? ⟨b, off + k * 13 + 11, none⟩ = some (.int .i64 K.t.l) := hc 11 (by decide)
      have c12 : wr.cell? ⟨b, off + k * 13 + 12, none⟩ = some (.int .i64 K.t.c) := hc 12 (by decide)
      obtain ⟨w4, hw4⟩ : ∃ w4, w4 = wr.alloc (.cells #[.int .i64 K.op, .int .i64 K.i, .int .i64 K.j, .int .i64 K.d.i, .int .i64 K.d.k, .int .i64 K.d.y, .int .i64 K.d.f, .int .i64 K.d.n, .slice K.a K.n K.c, .int .i64 K.t.nd, .int .i64 K.t.o, .int .i64 K.t.l, .int .i64 K.t.c] 55 (0, 0)) := ⟨_, rfl⟩
      have hb4 : Below wr.heap.size wr w4 := by rw [hw4]; exact (Below.refl _ _).alloc (Nat.le_refl _) _
      have hs4 : w4.heap.size = wr.heap.size + 1 := by rw [hw4]; simp
      have hblk : w4.heap[wr.heap.size]? = some (.cells #[.int .i64 K.op, .int .i64 K.i, .int .i64 K.j, .int .i64 K.d.i, .int .i64 K.d.k, .int .i64 K.d.y, .int .i64 K.d.f, .int .i64 K.d.n, .slice K.a K.n K.c, .int .i64 K.t.nd, .int .i64 K.t.o, .int .i64 K.t.l, .int .i64 K.t.c] 55 (0, 0)) := by rw [hw4]; exact heap_alloc_new wr _
      have HV := Lib.hid ho.out
      have HOK := Lib.hid (show (-9223372036854775808 ≤ K.i ∧ K.i ≤ 9223372036854775807) ∧ DcOk K.d ∧ DlOk K.t from ⟨hin _ (by simp), hdok, htok⟩)
      have HJJ := Lib.hid (show -9223372036854775808 ≤ K.j ∧ K.j ≤ 9223372036854775807 from hin _ (by simp))
      have HRL := Lib.hid (hrl.more HB2.out.1.size)
      have HNC := Lib.hid (And.intro hnc (Nat.le_trans hnc hcm))
      have HBK := Lib.hid (And.intro hb4 (And.intro hs4 hblk))
      have HROW := Lib.hid (show ∀ (W : World), W.heap[wr.heap.size]? = some (.cells #[.int .i64 K.op, .int .i64 K.i, .int .i64 K.j, .int .i64 K.d.i, .int .i64 K.d.k, .int .i64 K.d.y, .int .i64 K.d.f, .int .i64 K.d.n, .slice K.a K.n K.c, .int .i64 K.t.nd, .int .i64 K.t.o, .int .i64 K.t.l, .int .i64 K.t.c] 55 (0, 0)) → W.cell? ⟨wr.heap.size, 0, none⟩ = some (.int .i64 K.op) ∧ W.cell? ⟨wr.heap.size, 1, none⟩ = some (.int .i64 K.i) ∧ W.cell? ⟨wr.heap.size, 2, none⟩ = some (.int .i64 K.j) ∧ W.cell? ⟨wr.heap.size, 3, none⟩ = some (.int .i64 K.d.i) ∧ W.cell? ⟨wr.heap.size, 4, none⟩ = some (.int .i64 K.d.k) ∧ W.cell? ⟨wr.heap.size, 5, none⟩ = some (.int .i64 K.d.y) ∧ W.cell? ⟨wr.heap.size, 6, none⟩ = some (.int .i64 K.d.f) ∧ W.cell? ⟨wr.heap.size, 7, none⟩ = some (.int .i64 K.d.n) ∧ W.cell? ⟨wr.heap.size, 8, none⟩ = some (.slice K.a K.n K.c) ∧ W.cell? ⟨wr.heap.size, 9, none⟩ = some (.int .i64 K.t.nd) ∧ W.cell? ⟨wr.heap.size, 10, none⟩ = some (.int .i64 K.t.o) ∧ W.cell? ⟨wr.heap.size, 11, none⟩ = some (.int .i64 K.t.l) ∧ W.cell? ⟨wr.heap.size, 12, none⟩ = some (.int .i64 K.t.c) from fun W h => by
        have r := fun z => cell_of_row W wr.heap.size z _ _ (0, 0) h
        exact ⟨r 0, r 1, r 2, r 3, r 4, r 5, r 6, r 7, r 8, r 9, r 10, r 11, r 12⟩)
      have hnk : K.n ≤ maxLen := Nat.le_trans hnc hcm
      unfold maxLen at hnk
      clear hbw hK hc hin hdok hnc hcm hrl htok hb4 hs4 hblk ho hbl
      by_cases g30 : 30 < K.n
      · have k30 : decide ((K.n : Int) > 30) = true := decide_eq_true (by omega)
        have HSM := Lib.hid ((HV.out.1.below HV.out.2 HBK.out.1).sameL (by omega) (Nat.le_trans HV.out.2 HBK.out.1.size))
        clear g30 HROW HRL HOK HJJ
        go_wp2_with fail
        rw [← hw4]
        clear hw4
        refine HSM.out.mono ?_
        rintro e w5 ⟨rfl, hb5⟩
        have HE5 := Lib.hid (HB2.out.2.trans (hb5.mono HB2.out.1.size))
        have HA := Lib.hid (docAwake_any w5)
        clear hb5 HSM
        go_wp2_with fail
        refine HA.out.mono ?_
        rintro e w6 ⟨rfl, hb6⟩
        have HE := Lib.hid (HE5.out.trans (hb6.mono HE5.out.size))
        clear hb6
        go_wp2_with fail
        go_ret
        exact ⟨rfl, HE.out⟩
      have k30 : decide ((K.n : Int) > 30) = false := decide_eq_false (by omega)
      by_cases g2 : K.op < 2
      · have k2 : decide (K.op < 2) = true := decide_eq_true g2
        obtain ⟨ra, rb, hput⟩ := HV.out.1.docPut (by omega) HV.out.2 HBK.out.1 K.d HOK.out.2.1 (HRL.out) HNC.out.1 HNC.out.2
        have HPU := Lib.hid hput
        have haa : (ra != ra) = false := by simp
        have hbb' : (rb != rb) = false := by simp
        clear g30 g2 hput
        go_wp2_with fail
        rw [← hw4]
        clear hw4 c0 c1 c2 c3 c4 c5 c6 c7 c8 c9 c10 c11 c12
        refine HPU.out.mono ?_
        rintro e w5 ⟨rfl, hsi5, hrest⟩
        have HR5 := Lib.hid hrest
        obtain ⟨c0, c1, c2, c3, c4, c5, c6, c7, c8, c9, c10, c11, c12⟩ := HROW.out w5 ((hsi5.1 _ (Nat.le_refl _) (by have := HBK.out.2.1; omega)).trans HBK.out.2.2)
        clear hsi5 hrest HPU
        go_wp2_with fail
        refine HR5.out.mono ?_
        rintro e w6 ⟨rfl, hsi6, hinv6⟩
        have HV6 := Lib.hid hinv6
        have hg6 := (hsi6.1 _ (Nat.le_refl _) (by have := HBK.out.2.1; omega)).trans HBK.out.2.2
        have HBX := Lib.hid (show ∀ W, Below w6.heap.size w6 W → W.cell? ⟨wr.heap.size, 0, none⟩ = some (.int .i64 K.op) ∧ W.cell? ⟨wr.heap.size, 1, none⟩ = some (.int .i64 K.i) ∧ W.cell? ⟨wr.heap.size, 2, none⟩ = some (.int .i64 K.j) ∧ W.cell? ⟨wr.heap.size, 3, none⟩ = some (.int .i64 K.d.i) ∧ W.cell? ⟨wr.heap.size, 4, none⟩ = some (.int .i64 K.d.k) ∧ W.cell? ⟨wr.heap.size, 5, none⟩ = some (.int .i64 K.d.y) ∧ W.cell? ⟨wr.heap.size, 6, none⟩ = some (.int .i64 K.d.f) ∧ W.cell? ⟨wr.heap.size, 7, none⟩ = some (.int .i64 K.d.n) ∧ W.cell? ⟨wr.heap.size, 8, none⟩ = some (.slice K.a K.n K.c) ∧ W.cell? ⟨wr.heap.size, 9, none⟩ = some (.int .i64 K.t.nd) ∧ W.cell? ⟨wr.heap.size, 10, none⟩ = some (.int .i64 K.t.o) ∧ W.cell? ⟨wr.heap.size, 11, none⟩ = some (.int .i64 K.t.l) ∧ W.cell? ⟨wr.heap.size, 12, none⟩ = some (.int .i64 K.t.c) from fun W hW => HROW.out W ((hW.block _ (Array.getElem?_eq_some_iff.1 hg6).1).trans hg6))
        have HS6 := Lib.hid (Nat.le_trans HV.out.2 (Nat.le_trans HBK.out.1.size hsi6.2))
        clear c0 c1 c2 c3 c4 c5 c6 c7 c8 c9 c10 c11 c12 hsi6 hinv6 hg6 HR5 HV HBK HROW HRL HNC HJJ
        -- what both tell
        obtain ⟨hi0, hdok, htok⟩ := HOK.out
        obtain ⟨o, z, L, ho6, hL, T1, T2, T3, T4, T5, T6⟩ := HV6.out.docTell (by omega) K.i K.d.y K.d.k hi0
        have HT1 := Lib.hid (T1 w6 (RowKit.Below.refl _ _))
        have HTT := Lib.hid (And.intro T2 (And.intro T3 (And.intro T4 (And.intro T5 T6))))
        have HO6 := Lib.hid (And.intro ho6 hL)
        have HOK2 := Lib.hid (And.intro hdok htok)
        obtain ⟨_, d1, _⟩ := HBX.out w6 (RowKit.Below.refl _ _)
        clear hi0 hdok htok T1 T2 T3 T4 T5 T6 ho6 hL HOK
        go_wp2_with fail
        refine HT1.out.mono ?_
        rintro e w7 ⟨A7, k7, rfl, hown7, hok7, hdk7, hb7⟩
        obtain ⟨_, hk7, hr7⟩ := hown7.read hok7
        obtain ⟨w8, hw8⟩ : ∃ w8, w8 = w7.alloc (.cells #[.int .i64 ((o.map fun p => p.1).getD dcNil).i, .int .i64 ((o.map fun p => p.1).getD dcNil).k, .int .i64 ((o.map fun p => p.1).getD dcNil).y, .int .i64 ((o.map fun p => p.1).getD dcNil).f, .int .i64 ((o.map fun p => p.1).getD dcNil).n] 50 (0, 0)) := ⟨_, rfl⟩
        have hb8 : Below w7.heap.size w7 w8 := by rw [hw8]; exact (Below.refl _ _).alloc (Nat.le_refl _) _
        have hblk8 : w8.heap[w7.heap.size]? = some (.cells #[.int .i64 ((o.map fun p => p.1).getD dcNil).i, .int .i64 ((o.map fun p => p.1).getD dcNil).k, .int .i64 ((o.map fun p => p.1).getD dcNil).y, .int .i64 ((o.map fun p => p.1).getD dcNil).f, .int .i64 ((o.map fun p => p.1).getD dcNil).n] 50 (0, 0)) := by rw [hw8]; exact heap_alloc_new w7 _
        have hb68 := hb7.trans (hb8.mono hb7.size)
        have HT2 := Lib.hid (HTT.out.1 w8 hb68)
        have HR8 := Lib.hid (And.intro ((hr7.below hb8).more hb8.size) (And.intro hblk8 (Array.getElem?_eq_some_iff.1 hblk8).1))
        have HB68 := Lib.hid hb68
        obtain ⟨_, d1', _⟩ := HBX.out w8 hb68
        unfold dcW
        have HK7 := Lib.hid hk7
        clear hown7 hok7 hdk7 hb7 hr7 hb8 hblk8 hb68 HT1 d1 hk7
        rw [hw8] at d1'
        go_wp2_with fail
        rw [← hw8]
        clear hw8 d1'
        refine HT2.out.mono ?_
        rintro e w9 ⟨A9, k9, rfl, hown9, hok9, hdk9, hb9⟩
        obtain ⟨_, hk9, hr9⟩ := hown9.read hok9
        obtain ⟨w10, hw10⟩ : ∃ w10, w10 = w9.alloc (.cells #[.int .i64 ((o.map fun p => p.1).getD dcNil).i, .int .i64 ((o.map fun p => p.1).getD dcNil).k, .int .i64 ((o.map fun p => p.1).getD dcNil).y, .int .i64 ((o.map fun p => p.1).getD dcNil).f, .int .i64 ((o.map fun p => p.1).getD dcNil).n] 50 (0, 0)) := ⟨_, rfl⟩
        have hb10 : Below w9.heap.size w9 w10 := by rw [hw10]; exact (Below.refl _ _).alloc (Nat.le_refl _) _
        have hs10 : w10.heap.size = w9.heap.size + 1 := by rw [hw10]; simp
        have hblk10 : w10.heap[w9.heap.size]? = some (.cells #[.int .i64 ((o.map fun p => p.1).getD dcNil).i, .int .i64 ((o.map fun p => p.1).getD dcNil).k, .int .i64 ((o.map fun p => p.1).getD dcNil).y, .int .i64 ((o.map fun p => p.1).getD dcNil).f, .int .i64 ((o.map fun p => p.1).getD dcNil).n] 50 (0, 0)) := by rw [hw10]; exact heap_alloc_new w9 _
        have hb810 := hb9.trans (hb10.mono hb9.size)
        have hblk8 := (hb810.block _ HR8.out.2.2).trans HR8.out.2.1
        have HR10 := Lib.hid (And.intro ((HR8.out.1.below hb810).more hb810.size) ((hr9.below hb10).more hb10.size))
        have HB10 := Lib.hid (HB68.out.trans (hb810.mono HB68.out.size))
        have HCL := Lib.hid (show ∀ W, Below w10.heap.size w10 W → (W.cell? ⟨w7.heap.size, 0, none⟩ = some (.int .i64 ((o.map fun p => p.1).getD dcNil).i) ∧ W.cell? ⟨w7.heap.size, 1, none⟩ = some (.int .i64 ((o.map fun p => p.1).getD dcNil).k) ∧ W.cell? ⟨w7.heap.size, 2, none⟩ = some (.int .i64 ((o.map fun p => p.1).getD dcNil).y) ∧ W.cell? ⟨w7.heap.size, 3, none⟩ = some (.int .i64 ((o.map fun p => p.1).getD dcNil).f) ∧ W.cell? ⟨w7.heap.size, 4, none⟩ = some (.int .i64 ((o.map fun p => p.1).getD dcNil).n)) ∧ (W.cell? ⟨w9.heap.size, 0, none⟩ = some (.int .i64 ((o.map fun p => p.1).getD dcNil).i) ∧ W.cell? ⟨w9.heap.size, 1, none⟩ = some (.int .i64 ((o.map fun p => p.1).getD dcNil).k) ∧ W.cell? ⟨w9.heap.size, 2, none⟩ = some (.int .i64 ((o.map fun p => p.1).getD dcNil).y) ∧ W.cell? ⟨w9.heap.size, 3, none⟩ = some (.int .i64 ((o.map fun p => p.1).getD dcNil).f) ∧ W.cell? ⟨w9.heap.size, 4, none⟩ = some (.int .i64 ((o.map fun p => p.1).getD dcNil).n)) ∧ (W.cell? ⟨wr.heap.size, 0, none⟩ = some (.int .i64 K.op) ∧ W.cell? ⟨wr.heap.size, 1, none⟩ = some (.int .i64 K.i) ∧ W.cell? ⟨wr.heap.size, 2, none⟩ = some (.int .i64 K.j) ∧ W.cell? ⟨wr.heap.size, 3, none⟩ = some (.int .i64 K.d.i) ∧ W.cell? ⟨wr.heap.size, 4, none⟩ = some (.int .i64 K.d.k) ∧ W.cell? ⟨wr.heap.size, 5, none⟩ = some (.int .i64 K.d.y) ∧ W.cell? ⟨wr.heap.size, 6, none⟩ = some (.int .i64 K.d.f) ∧ W.cell? ⟨wr.heap.size, 7, none⟩ = some (.int .i64 K.d.n) ∧ W.cell? ⟨wr.heap.size, 8, none⟩ = some (.slice K.a K.n K.c) ∧ W.cell? ⟨wr.heap.size, 9, none⟩ = some (.int .i64 K.t.nd) ∧ W.cell? ⟨wr.heap.size, 10, none⟩ = some (.int .i64 K.t.o) ∧ W.cell? ⟨wr.heap.size, 11, none⟩ = some (.int .i64 K.t.l) ∧ W.cell? ⟨wr.heap.size, 12, none⟩ = some (.int .i64 K.t.c)) from fun W hW =>
          ⟨doc_cells ((hW.block _ (by have := HR8.out.2.2; have := hb810.size; omega)).trans hblk8), doc_cells ((hW.block _ (by omega)).trans hblk10), HBX.out W (HB10.out.trans (hW.mono HB10.out.size))⟩)
        have HLN := Lib.hid (And.intro HO6.out.1 (And.intro HK7.out hk9))
        have HPO := Lib.hid (fun W => open_any K.t W)
        have HRO := Lib.hid (fun W => rOpen_any K.t W)
        have HPR := Lib.hid (fun W => docsRight_any K.t W)
        have HRR := Lib.hid (fun W => rRight_any K.t W)
        unfold dcW
        have hcmp := fun W => same_dc ((o.map fun p => p.1).getD dcNil) ((o.map fun p => p.1).getD dcNil) W
        simp only [decide_true, dcV] at hcmp
        have hbb : (o.isSome != o.isSome) = false := by simp
        have hzz : (z != z) = false := by simp
        have hoo : (openL K.t != openL K.t) = false := by simp
        have hrr : (rightL K.t != rightL K.t) = false := by simp
        clear hown9 hok9 hdk9 hb9 hr9 hb10 hs10 hblk10 hb810 hblk8 HR8 HB68 HT2 HK7 hk9
        go_wp2_with fail
        rw [← hw10]
        clear hw10
        generalize o.isSome = os at hbb ⊢
        generalize ((o.map fun p => p.1).getD dcNil) = DD at HCL hcmp ⊢
        generalize openL K.t = oo at HPO HRO hoo
        generalize rightL K.t = rr at HPR HRR hrr
        have hb := ((Below.refl w10.heap.size w10).drew)
        have c5 := HCL.out _ hb
        go_region_held3 (fun W => (W.cell? ⟨w7.heap.size, 0, none⟩ = some (.int .i64 DD.i) ∧ W.cell? ⟨w7.heap.size, 1, none⟩ = some (.int .i64 DD.k) ∧ W.cell? ⟨w7.heap.size, 2, none⟩ = some (.int .i64 DD.y) ∧ W.cell? ⟨w7.heap.size, 3, none⟩ = some (.int .i64 DD.f) ∧ W.cell? ⟨w7.heap.size, 4, none⟩ = some (.int .i64 DD.n)) ∧ (W.cell? ⟨w9.heap.size, 0, none⟩ = some (.int .i64 DD.i) ∧ W.cell? ⟨w9.heap.size, 1, none⟩ = some (.int .i64 DD.k) ∧ W.cell? ⟨w9.heap.size, 2, none⟩ = some (.int .i64 DD.y) ∧ W.cell? ⟨w9.heap.size, 3, none⟩ = some (.int .i64 DD.f) ∧ W.cell? ⟨w9.heap.size, 4, none⟩ = some (.int .i64 DD.n)) ∧ (W.cell? ⟨wr.heap.size, 0, none⟩ = some (.int .i64 K.op) ∧ W.cell? ⟨wr.heap.size, 1, none⟩ = some (.int .i64 K.i) ∧ W.cell? ⟨wr.heap.size, 2, none⟩ = some (.int .i64 K.j) ∧ W.cell? ⟨wr.heap.size, 3, none⟩ = some (.int .i64 K.d.i) ∧ W.cell? ⟨wr.heap.size, 4, none⟩ = some (.int .i64 K.d.k) ∧ W.cell? ⟨wr.heap.size, 5, none⟩ = some (.int .i64 K.d.y) ∧ W.cell? ⟨wr.heap.size, 6, none⟩ = some (.int .i64 K.d.f) ∧ W.cell? ⟨wr.heap.size, 7, none⟩ = some (.int .i64 K.d.n) ∧ W.cell? ⟨wr.heap.size, 8, none⟩ = some (.slice K.a K.n K.c) ∧ W.cell? ⟨wr.heap.size, 9, none⟩ = some (.int .i64 K.t.nd) ∧ W.cell? ⟨wr.heap.size, 10, none⟩ = some (.int .i64 K.t.o) ∧ W.cell? ⟨wr.heap.size, 11, none⟩ = some (.int .i64 K.t.l) ∧ W.cell? ⟨wr.heap.size, 12, none⟩ = some (.int .i64 K.t.c)))
          (first | with_reducible exact c5 | exact c5)
          (first
            | (go_at_call 25; refine Calls.mono (EqualDl_any k7 k9 (HR10.out.1.below hb) (HR10.out.2.below hb) (Nat.le_trans HLN.out.1 (by decide)) (Nat.le_trans HLN.out.1 (by decide)) hb.size hb.size) ?_; rw [decide_eq_true (show dlsO o = dlsO o from rfl)]; rintro e wk ⟨rfl, hbk⟩; have hb := hb.trans (hbk.mono hb.size); have c5 := HCL.out _ hb)
            | (go_at_call 26; refine Calls.mono (HTT.out.2.1 _ (HB10.out.trans (hb.mono HB10.out.size))) ?_; rintro e wk ⟨rfl, hbk⟩; have hb := hb.trans (hbk.mono hb.size); have c5 := HCL.out _ hb)
            | (go_at_call 27; refine Calls.mono (HTT.out.2.2.1 _ (HB10.out.trans (hb.mono HB10.out.size))) ?_; rintro e wk ⟨rfl, hbk⟩; have hb := hb.trans (hbk.mono hb.size); have c5 := HCL.out _ hb)
            | (go_at_call 28; refine Calls.mono (HPO.out _) ?_; rintro e wk ⟨rfl, hbk⟩; have hb := hb.trans (hbk.mono hb.size); have c5 := HCL.out _ hb)
            | (go_at_call 29; refine Calls.mono (HRO.out _) ?_; rintro e wk ⟨rfl, hbk⟩; have hb := hb.trans (hbk.mono hb.size); have c5 := HCL.out _ hb)
            | (go_at_call 30; refine Calls.mono (HPR.out _) ?_; rintro e wk ⟨rfl, hbk⟩; have hb := hb.trans (hbk.mono hb.size); have c5 := HCL.out _ hb)
            | (go_at_call 31; refine Calls.mono (HRR.out _) ?_; rintro e wk ⟨rfl, hbk⟩; have hb := hb.trans (hbk.mono hb.size); have c5 := HCL.out _ hb))
        have hb := hb.drew
        have c5 := HBX.out _ (HB10.out.trans (hb.mono HB10.out.size))
        have HTA := Lib.hid HTT.out.2.2.2
        have HLL := Lib.hid HO6.out.2
        clear HCL HPO HRO HPR HRR hcmp HR10 HTT HO6 HLN hzz hoo hrr hbb
        go_wp2_with fail
        go_region_held3 (fun W => W.cell? ⟨wr.heap.size, 0, none⟩ = some (.int .i64 K.op) ∧ W.cell? ⟨wr.heap.size, 1, none⟩ = some (.int .i64 K.i) ∧ W.cell? ⟨wr.heap.size, 2, none⟩ = some (.int .i64 K.j) ∧ W.cell? ⟨wr.heap.size, 3, none⟩ = some (.int .i64 K.d.i) ∧ W.cell? ⟨wr.heap.size, 4, none⟩ = some (.int .i64 K.d.k) ∧ W.cell? ⟨wr.heap.size, 5, none⟩ = some (.int .i64 K.d.y) ∧ W.cell? ⟨wr.heap.size, 6, none⟩ = some (.int .i64 K.d.f) ∧ W.cell? ⟨wr.heap.size, 7, none⟩ = some (.int .i64 K.d.n) ∧ W.cell? ⟨wr.heap.size, 8, none⟩ = some (.slice K.a K.n K.c) ∧ W.cell? ⟨wr.heap.size, 9, none⟩ = some (.int .i64 K.t.nd) ∧ W.cell? ⟨wr.heap.size, 10, none⟩ = some (.int .i64 K.t.o) ∧ W.cell? ⟨wr.heap.size, 11, none⟩ = some (.int .i64 K.t.l) ∧ W.cell? ⟨wr.heap.size, 12, none⟩ = some (.int .i64 K.t.c))
          (first | with_reducible exact c5 | exact c5)
          (first
            | (go_at_call 33; refine Calls.mono (HTA.out.1 _ (HB10.out.trans (hb.mono HB10.out.size))) ?_; rintro e wk ⟨u1, rfl, hq1⟩; have hb := hb.trans (hq1.2.2.mono hb.size); obtain ⟨A1, k1', rfl, hk1, hr1⟩ := hq1.read; have c5 := HBX.out _ (HB10.out.trans (hb.mono HB10.out.size)))
            | (go_at_call 34; refine Calls.mono (HTA.out.2 _ (HB10.out.trans (hb.mono HB10.out.size))) ?_; rintro e wk ⟨u1, rfl, hq2⟩; have hb := hb.trans (hq2.2.2.mono hb.size); have hr1 := hr1.below hq2.2.2; have hs1 := hq2.2.2.size; obtain ⟨A2, k2', rfl, hk2, hr2⟩ := hq2.read; have c5 := HBX.out _ (HB10.out.trans (hb.mono HB10.out.size)))
            | (go_at_call 32; refine Calls.mono (EqualInts_any k1' k2' hr1 hr2 (Nat.le_trans HLL.out (by decide)) (Nat.le_trans HLL.out (by decide)) hs1 (Nat.le_refl _)) ?_; rw [decide_eq_true (show L = L from rfl)]; rintro e wk ⟨rfl, hbk⟩; have hb := hb.trans (hbk.mono hb.size); have c5 := HBX.out _ (HB10.out.trans (hb.mono HB10.out.size))))
        have hfin := HB10.out.trans (hb.mono HB10.out.size)
        have HE := Lib.hid (And.intro ((HV6.out.below HS6.out hfin).up (show 30 + 8 * k + 8 ≤ 30 + 8 * (k + 1) by omega)) (Nat.le_trans HS6.out hfin.size))
        clear hfin hb c5 HTA HLL HV6 HS6 HBX HB10
        go_wp2_with fail
        go_roundw
        case rel => exact ⟨k + 1, by omega, by go_num, HE⟩
        case measure => simp [intOf]; omega
      · have k2 : decide (K.op < 2) = false := decide_eq_false g2
        obtain ⟨ra, hput⟩ := HV.out.1.docSet (by omega) HV.out.2 HBK.out.1.drew K.i K.j K.t HOK.out.2.2 HOK.out.1 HJJ.out
        have HPU := Lib.hid hput
        have haa : (ra != ra) = false := by simp
        clear g30 g2 hput
        go_wp2_with fail
        rw [← hw4]
        clear hw4 c0 c1 c2 c3 c4 c5 c6 c7 c8 c9 c10 c11 c12
        have c5 := HROW.out w4.drew HBK.out.2.2
        have hlt4 : wr.heap.size < w4.heap.size := by have := HBK.out.2.1; omega
        go_region_held3 (fun W => W.cell? ⟨wr.heap.size, 0, none⟩ = some (.int .i64 K.op) ∧ W.cell? ⟨wr.heap.size, 1, none⟩ = some (.int .i64 K.i) ∧ W.cell? ⟨wr.heap.size, 2, none⟩ = some (.int .i64 K.j) ∧ W.cell? ⟨wr.heap.size, 3, none⟩ = some (.int .i64 K.d.i) ∧ W.cell? ⟨wr.heap.size, 4, none⟩ = some (.int .i64 K.d.k) ∧ W.cell? ⟨wr.heap.size, 5, none⟩ = some (.int .i64 K.d.y) ∧ W.cell? ⟨wr.heap.size, 6, none⟩ = some (.int .i64 K.d.f) ∧ W.cell? ⟨wr.heap.size, 7, none⟩ = some (.int .i64 K.d.n) ∧ W.cell? ⟨wr.heap.size, 8, none⟩ = some (.slice K.a K.n K.c) ∧ W.cell? ⟨wr.heap.size, 9, none⟩ = some (.int .i64 K.t.nd) ∧ W.cell? ⟨wr.heap.size, 10, none⟩ = some (.int .i64 K.t.o) ∧ W.cell? ⟨wr.heap.size, 11, none⟩ = some (.int .i64 K.t.l) ∧ W.cell? ⟨wr.heap.size, 12, none⟩ = some (.int .i64 K.t.c))
          (first | with_reducible exact c5 | exact c5)
          (first
            | (go_at_call 21; refine Calls.mono HPU.out ?_; rintro e w5 ⟨rfl, hsi5, hrest⟩; have c5 := HROW.out w5 ((hsi5.1 _ (Nat.le_refl _) hlt4).trans HBK.out.2.2))
            | (go_at_call 22; refine Calls.mono hrest ?_; rintro e w6 ⟨rfl, hsi6, hinv6⟩; have c5 := HROW.out w6 ((hsi6.1 _ (Nat.le_refl _) hlt4).trans HBK.out.2.2)))
        have HV6 := Lib.hid hinv6
        have hg6 := (hsi6.1 _ (Nat.le_refl _) hlt4).trans HBK.out.2.2
        have HBX := Lib.hid (show ∀ W, Below w6.heap.size w6 W → W.cell? ⟨wr.heap.size, 0, none⟩ = some (.int .i64 K.op) ∧ W.cell? ⟨wr.heap.size, 1, none⟩ = some (.int .i64 K.i) ∧ W.cell? ⟨wr.heap.size, 2, none⟩ = some (.int .i64 K.j) ∧ W.cell? ⟨wr.heap.size, 3, none⟩ = some (.int .i64 K.d.i) ∧ W.cell? ⟨wr.heap.size, 4, none⟩ = some (.int .i64 K.d.k) ∧ W.cell? ⟨wr.heap.size, 5, none⟩ = some (.int .i64 K.d.y) ∧ W.cell? ⟨wr.heap.size, 6, none⟩ = some (.int .i64 K.d.f) ∧ W.cell? ⟨wr.heap.size, 7, none⟩ = some (.int .i64 K.d.n) ∧ W.cell? ⟨wr.heap.size, 8, none⟩ = some (.slice K.a K.n K.c) ∧ W.cell? ⟨wr.heap.size, 9, none⟩ = some (.int .i64 K.t.nd) ∧ W.cell? ⟨wr.heap.size, 10, none⟩ = some (.int .i64 K.t.o) ∧ W.cell? ⟨wr.heap.size, 11, none⟩ = some (.int .i64 K.t.l) ∧ W.cell? ⟨wr.heap.size, 12, none⟩ = some (.int .i64 K.t.c) from fun W hW => HROW.out W ((hW.block _ (Array.getElem?_eq_some_iff.1 hg6).1).trans hg6))
        have HS6 := Lib.hid (Nat.le_trans HV.out.2 (Nat.le_trans HBK.out.1.size hsi6.2))
        obtain ⟨c0, c1, c2, c3, c4, c5, c6, c7, c8, c9, c10, c11, c12⟩ := c5
        clear hsi5 hsi6 hinv6 hg6 hrest HPU HV HBK HROW HRL HNC HJJ hlt4 c0 c1 c2 c3 c4 c5 c6 c7 c8 c9 c10 c11 c12
        -- what both tell
        obtain ⟨hi0, hdok, htok⟩ := HOK.out
        obtain ⟨o, z, L, ho6, hL, T1, T2, T3, T4, T5, T6⟩ := HV6.out.docTell (by omega) K.i K.d.y K.d.k hi0
        have HT1 := Lib.hid (T1 w6 (RowKit.Below.refl _ _))
        have HTT := Lib.hid (And.intro T2 (And.intro T3 (And.intro T4 (And.intro T5 T6))))
        have HO6 := Lib.hid (And.intro ho6 hL)
        have HOK2 := Lib.hid (And.intro hdok htok)
        obtain ⟨_, d1, _⟩ := HBX.out w6 (RowKit.Below.refl _ _)
        clear hi0 hdok htok T1 T2 T3 T4 T5 T6 ho6 hL HOK
        go_wp2_with fail
        refine HT1.out.mono ?_
        rintro e w7 ⟨A7, k7, rfl, hown7, hok7, hdk7, hb7⟩
        obtain ⟨_, hk7, hr7⟩ := hown7.read hok7
        obtain ⟨w8, hw8⟩ : ∃ w8, w8 = w7.alloc (.cells #[.int .i64 ((o.map fun p => p.1).getD dcNil).i, .int .i64 ((o.map fun p => p.1).getD dcNil).k, .int .i64 ((o.map fun p => p.1).getD dcNil).y, .int .i64 ((o.map fun p => p.1).getD dcNil).f, .int .i64 ((o.map fun p => p.1).getD dcNil).n] 50 (0, 0)) := ⟨_, rfl⟩
        have hb8 : Below w7.heap.size w7 w8 := by rw [hw8]; exact (Below.refl _ _).alloc (Nat.le_refl _) _
        have hblk8 : w8.heap[w7.heap.size]? = some (.cells #[.int .i64 ((o.map fun p => p.1).getD dcNil).i, .int .i64 ((o.map fun p => p.1).getD dcNil).k, .int .i64 ((o.map fun p => p.1).getD dcNil).y, .int .i64 ((o.map fun p => p.1).getD dcNil).f, .int .i64 ((o.map fun p => p.1).getD dcNil).n] 50 (0, 0)) := by rw [hw8]; exact heap_alloc_new w7 _
        have hb68 := hb7.trans (hb8.mono hb7.size)
        have HT2 := Lib.hid (HTT.out.1 w8 hb68)
        have HR8 := Lib.hid (And.intro ((hr7.below hb8).more hb8.size) (And.intro hblk8 (Array.getElem?_eq_some_iff.1 hblk8).1))
        have HB68 := Lib.hid hb68
        obtain ⟨_, d1', _⟩ := HBX.out w8 hb68
        unfold dcW
        have HK7 := Lib.hid hk7
        clear hown7 hok7 hdk7 hb7 hr7 hb8 hblk8 hb68 HT1 d1 hk7
        rw [hw8] at d1'
        go_wp2_with fail
        rw [← hw8]
        clear hw8 d1'
        refine HT2.out.mono ?_
        rintro e w9 ⟨A9, k9, rfl, hown9, hok9, hdk9, hb9⟩
        obtain ⟨_, hk9, hr9⟩ := hown9.read hok9
        obtain ⟨w10, hw10⟩ : ∃ w10, w10 = w9.alloc (.cells #[.int .i64 ((o.map fun p => p.1).getD dcNil).i, .int .i64 ((o.map fun p => p.1).getD dcNil).k, .int .i64 ((o.map fun p => p.1).getD dcNil).y, .int .i64 ((o.map fun p => p.1).getD dcNil).f, .int .i64 ((o.map fun p => p.1).getD dcNil).n] 50 (0, 0)) := ⟨_, rfl⟩
        have hb10 : Below w9.heap.size w9 w10 := by rw [hw10]; exact (Below.refl _ _).alloc (Nat.le_refl _) _
        have hs10 : w10.heap.size = w9.heap.size + 1 := by rw [hw10]; simp
        have hblk10 : w10.heap[w9.heap.size]? = some (.cells #[.int .i64 ((o.map fun p => p.1).getD dcNil).i, .int .i64 ((o.map fun p => p.1).getD dcNil).k, .int .i64 ((o.map fun p => p.1).getD dcNil).y, .int .i64 ((o.map fun p => p.1).getD dcNil).f, .int .i64 ((o.map fun p => p.1).getD dcNil).n] 50 (0, 0)) := by rw [hw10]; exact heap_alloc_new w9 _
        have hb810 := hb9.trans (hb10.mono hb9.size)
        have hblk8 := (hb810.block _ HR8.out.2.2).trans HR8.out.2.1
        have HR10 := Lib.hid (And.intro ((HR8.out.1.below hb810).more hb810.size) ((hr9.below hb10).more hb10.size))
        have HB10 := Lib.hid (HB68.out.trans (hb810.mono HB68.out.size))
        have HCL := Lib.hid (show ∀ W, Below w10.heap.size w10 W → (W.cell? ⟨w7.heap.size, 0, none⟩ = some (.int .i64 ((o.map fun p => p.1).getD dcNil).i) ∧ W.cell? ⟨w7.heap.size, 1, none⟩ = some (.int .i64 ((o.map fun p => p.1).getD dcNil).k) ∧ W.cell? ⟨w7.heap.size, 2, none⟩ = some (.int .i64 ((o.map fun p => p.1).getD dcNil).y) ∧ W.cell? ⟨w7.heap.size, 3, none⟩ = some (.int .i64 ((o.map fun p => p.1).getD dcNil).f) ∧ W.cell? ⟨w7.heap.size, 4, none⟩ = some (.int .i64 ((o.map fun p => p.1).getD dcNil).n)) ∧ (W.cell? ⟨w9.heap.size, 0, none⟩ = some (.int .i64 ((o.map fun p => p.1).getD dcNil).i) ∧ W.cell? ⟨w9.heap.size, 1, none⟩ = some (.int .i64 ((o.map fun p => p.1).getD dcNil).k) ∧ W.cell? ⟨w9.heap.size, 2, none⟩ = some (.int .i64 ((o.map fun p => p.1).getD dcNil).y) ∧ W.cell? ⟨w9.heap.size, 3, none⟩ = some (.int .i64 ((o.map fun p => p.1).getD dcNil).f) ∧ W.cell? ⟨w9.heap.size, 4, none⟩ = some (.int .i64 ((o.map fun p => p.1).getD dcNil).n)) ∧ (W.cell? ⟨wr.heap.size, 0, none⟩ = some (.int .i64 K.op) ∧ W.cell? ⟨wr.heap.size, 1, none⟩ = some (.int .i64 K.i) ∧ W.cell? ⟨wr.heap.size, 2, none⟩ = some (.int .i64 K.j) ∧ W.cell? ⟨wr.heap.size, 3, none⟩ = some (.int .i64 K.d.i) ∧ W.cell? ⟨wr.heap.size, 4, none⟩ = some (.int .i64 K.d.k) ∧ W.cell? ⟨wr.heap.size, 5, none⟩ = some (.int .i64 K.d.y) ∧ W.cell? ⟨wr.heap.size, 6, none⟩ = some (.int .i64 K.d.f) ∧ W.cell? ⟨wr.heap.size, 7, none⟩ = some (.int .i64 K.d.n) ∧ W.cell? ⟨wr.heap.size, 8, none⟩ = some (.slice K.a K.n K.c) ∧ W.cell? ⟨wr.heap.size, 9, none⟩ = some (.int .i64 K.t.nd) ∧ W.cell? ⟨wr.heap.size, 10, none⟩ = some (.int .i64 K.t.o) ∧ W.cell? ⟨wr.heap.size, 11, none⟩ = some (.int .i64 K.t.l) ∧ W.cell? ⟨wr.heap.size, 12, none⟩ = some (.int .i64 K.t.c)) from fun W hW =>
          ⟨doc_cells ((hW.block _ (by have := HR8.out.2.2; have := hb810.size; omega)).trans hblk8), doc_cells ((hW.block _ (by omega)).trans hblk10), HBX.out W (HB10.out.trans (hW.mono HB10.out.size))⟩)
        have HLN := Lib.hid (And.intro HO6.out.1 (And.intro HK7.out hk9))
        have HPO := Lib.hid (fun W => open_any K.t W)
        have HRO := Lib.hid (fun W => rOpen_any K.t W)
        have HPR := Lib.hid (fun W => docsRight_any K.t W)
        have HRR := Lib.hid (fun W => rRight_any K.t W)
        unfold dcW
        have hcmp := fun W => same_dc ((o.map fun p => p.1).getD dcNil) ((o.map fun p => p.1).getD dcNil) W
        simp only [decide_true, dcV] at hcmp
        have hbb : (o.isSome != o.isSome) = false := by simp
        have hzz : (z != z) = false := by simp
        have hoo : (openL K.t != openL K.t) = false := by simp
        have hrr : (rightL K.t != rightL K.t) = false := by simp
        clear hown9 hok9 hdk9 hb9 hr9 hb10 hs10 hblk10 hb810 hblk8 HR8 HB68 HT2 HK7 hk9
        go_wp2_with fail
        rw [← hw10]
        clear hw10
        generalize o.isSome = os at hbb ⊢
        generalize ((o.map fun p => p.1).getD dcNil) = DD at HCL hcmp ⊢
        generalize openL K.t = oo at HPO HRO hoo
        generalize rightL K.t = rr at HPR HRR hrr
        have hb := ((Below.refl w10.heap.size w10).drew)
        have c5 := HCL.out _ hb
        go_region_held3 (fun W => (W.cell? ⟨w7.heap.size, 0, none⟩ = some (.int .i64 DD.i) ∧ W.cell? ⟨w7.heap.size, 1, none⟩ = some (.int .i64 DD.k) ∧ W.cell? ⟨w7.heap.size, 2, none⟩ = some (.int .i64 DD.y) ∧ W.cell? ⟨w7.heap.size, 3, none⟩ = some (.int .i64 DD.f) ∧ W.cell? ⟨w7.heap.size, 4, none⟩ = some (.int .i64 DD.n)) ∧ (W.cell? ⟨w9.heap.size, 0, none⟩ = some (.int .i64 DD.i) ∧ W.cell? ⟨w9.heap.size, 1, none⟩ = some (.int .i64 DD.k) ∧ W.cell? ⟨w9.heap.size, 2, none⟩ = some (.int .i64 DD.y) ∧ W.cell? ⟨w9.heap.size, 3, none⟩ = some (.int .i64 DD.f) ∧ W.cell? ⟨w9.heap.size, 4, none⟩ = some (.int .i64 DD.n)) ∧ (W.cell? ⟨wr.heap.size, 0, none⟩ = some (.int .i64 K.op) ∧ W.cell? ⟨wr.heap.size, 1, none⟩ = some (.int .i64 K.i) ∧ W.cell? ⟨wr.heap.size, 2, none⟩ = some (.int .i64 K.j) ∧ W.cell? ⟨wr.heap.size, 3, none⟩ = some (.int .i64 K.d.i) ∧ W.cell? ⟨wr.heap.size, 4, none⟩ = some (.int .i64 K.d.k) ∧ W.cell? ⟨wr.heap.size, 5, none⟩ = some (.int .i64 K.d.y) ∧ W.cell? ⟨wr.heap.size, 6, none⟩ = some (.int .i64 K.d.f) ∧ W.cell? ⟨wr.heap.size, 7, none⟩ = some (.int .i64 K.d.n) ∧ W.cell? ⟨wr.heap.size, 8, none⟩ = some (.slice K.a K.n K.c) ∧ W.cell? ⟨wr.heap.size, 9, none⟩ = some (.int .i64 K.t.nd) ∧ W.cell? ⟨wr.heap.size, 10, none⟩ = some (.int .i64 K.t.o) ∧ W.cell? ⟨wr.heap.size, 11, none⟩ = some (.int .i64 K.t.l) ∧ W.cell? ⟨wr.heap.size, 12, none⟩ = some (.int .i64 K.t.c)))
          (first | with_reducible exact c5 | exact c5)
          (first
            | (go_at_call 25; refine Calls.mono (EqualDl_any k7 k9 (HR10.out.1.below hb) (HR10.out.2.below hb) (Nat.le_trans HLN.out.1 (by decide)) (Nat.le_trans HLN.out.1 (by decide)) hb.size hb.size) ?_; rw [decide_eq_true (show dlsO o = dlsO o from rfl)]; rintro e wk ⟨rfl, hbk⟩; have hb := hb.trans (hbk.mono hb.size); have c5 := HCL.out _ hb)
            | (go_at_call 26; refine Calls.mono (HTT.out.2.1 _ (HB10.out.trans (hb.mono HB10.out.size))) ?_; rintro e wk ⟨rfl, hbk⟩; have hb := hb.trans (hbk.mono hb.size); have c5 := HCL.out _ hb)
            | (go_at_call 27; refine Calls.mono (HTT.out.2.2.1 _ (HB10.out.trans (hb.mono HB10.out.size))) ?_; rintro e wk ⟨rfl, hbk⟩; have hb := hb.trans (hbk.mono hb.size); have c5 := HCL.out _ hb)
            | (go_at_call 28; refine Calls.mono (HPO.out _) ?_; rintro e wk ⟨rfl, hbk⟩; have hb := hb.trans (hbk.mono hb.size); have c5 := HCL.out _ hb)
            | (go_at_call 29; refine Calls.mono (HRO.out _) ?_; rintro e wk ⟨rfl, hbk⟩; have hb := hb.trans (hbk.mono hb.size); have c5 := HCL.out _ hb)
            | (go_at_call 30; refine Calls.mono (HPR.out _) ?_; rintro e wk ⟨rfl, hbk⟩; have hb := hb.trans (hbk.mono hb.size); have c5 := HCL.out _ hb)
            | (go_at_call 31; refine Calls.mono (HRR.out _) ?_; rintro e wk ⟨rfl, hbk⟩; have hb := hb.trans (hbk.mono hb.size); have c5 := HCL.out _ hb))
        have hb := hb.drew
        have c5 := HBX.out _ (HB10.out.trans (hb.mono HB10.out.size))
        have HTA := Lib.hid HTT.out.2.2.2
        have HLL := Lib.hid HO6.out.2
        clear HCL HPO HRO HPR HRR hcmp HR10 HTT HO6 HLN hzz hoo hrr hbb
        go_wp2_with fail
        go_region_held3 (fun W => W.cell? ⟨wr.heap.size, 0, none⟩ = some (.int .i64 K.op) ∧ W.cell? ⟨wr.heap.size, 1, none⟩ = some (.int .i64 K.i) ∧ W.cell? ⟨wr.heap.size, 2, none⟩ = some (.int .i64 K.j) ∧ W.cell? ⟨wr.heap.size, 3, none⟩ = some (.int .i64 K.d.i) ∧ W.cell? ⟨wr.heap.size, 4, none⟩ = some (.int .i64 K.d.k) ∧ W.cell? ⟨wr.heap.size, 5, none⟩ = some (.int .i64 K.d.y) ∧ W.cell? ⟨wr.heap.size, 6, none⟩ = some (.int .i64 K.d.f) ∧ W.cell? ⟨wr.heap.size, 7, none⟩ = some (.int .i64 K.d.n) ∧ W.cell? ⟨wr.heap.size, 8, none⟩ = some (.slice K.a K.n K.c) ∧ W.cell? ⟨wr.heap.size, 9, none⟩ = some (.int .i64 K.t.nd) ∧ W.cell? ⟨wr.heap.size, 10, none⟩ = some (.int .i64 K.t.o) ∧ W.cell? ⟨wr.heap.size, 11, none⟩ = some (.int .i64 K.t.l) ∧ W.cell? ⟨wr.heap.size, 12, none⟩ = some (.int .i64 K.t.c))
          (first | with_reducible exact c5 | exact c5)
          (first
            | (go_at_call 33; refine Calls.mono (HTA.out.1 _ (HB10.out.trans (hb.mono HB10.out.size))) ?_; rintro e wk ⟨u1, rfl, hq1⟩; have hb := hb.trans (hq1.2.2.mono hb.size); obtain ⟨A1, k1', rfl, hk1, hr1⟩ := hq1.read; have c5 := HBX.out _ (HB10.out.trans (hb.mono HB10.out.size)))
            | (go_at_call 34; refine Calls.mono (HTA.out.2 _ (HB10.out.trans (hb.mono HB10.out.size))) ?_; rintro e wk ⟨u1, rfl, hq2⟩; have hb := hb.trans (hq2.2.2.mono hb.size); have hr1 := hr1.below hq2.2.2; have hs1 := hq2.2.2.size; obtain ⟨A2, k2', rfl, hk2, hr2⟩ := hq2.read; have c5 := HBX.out _ (HB10.out.trans (hb.mono HB10.out.size)))
            | (go_at_call 32; refine Calls.mono (EqualInts_any k1' k2' hr1 hr2 (Nat.le_trans HLL.out (by decide)) (Nat.le_trans HLL.out (by decide)) hs1 (Nat.le_refl _)) ?_; rw [decide_eq_true (show L = L from rfl)]; rintro e wk ⟨rfl, hbk⟩; have hb := hb.trans (hbk.mono hb.size); have c5 := HBX.out _ (HB10.out.trans (hb.mono HB10.out.size))))
        have hfin := HB10.out.trans (hb.mono HB10.out.size)
        have HE := Lib.hid (And.intro ((HV6.out.below HS6.out hfin).up (show 30 + 8 * k + 8 ≤ 30 + 8 * (k + 1) by omega)) (Nat.le_trans HS6.out hfin.size))
        clear hfin hb c5 HTA HLL HV6 HS6 HBX HB10
        go_wp2_with fail
        go_roundw
        case rel => exact ⟨k + 1, by omega, by go_num, HE⟩
        case measure => simp [intOf]; omega
    · obtain rfl : k = n' := by omega
      have HSM := Lib.hid (ho.out.1.sameL (by omega) ho.out.2)
      clear ho
      go_wp2_with fail
      refine HSM.out.mono ?_
      rintro e w5 ⟨rfl, hb5⟩
      have HE5 := Lib.hid (HB2.out.2.trans (hb5.mono HB2.out.1.size))
      have HA := Lib.hid (docAwake_any w5)
      clear hb5 HSM
      go_wp2_with fail
      refine HA.out.mono ?_
      rintro e w6 ⟨rfl, hb6⟩
      have HE := Lib.hid (HE5.out.trans (hb6.mono HE5.out.size))
      clear hb6
      go_wp2_with fail
      go_ret
      exact ⟨rfl, HE.out⟩
end Go.Proofs.YtlpjggilkfpleaaGreat
