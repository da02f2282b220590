/-
  The laws' own check of layer 28: it returns true. The walk of TreeEnds: it returns true. No condition beyond those that the statement itself says.
-/
import Derived.Test.YtilhcchnlbdlhaaGreatTreC
import Derived.Laws.ResultCell
namespace Go.Proofs.YtilhcchnlbdlhaaGreat
open Go.RowKit Go.Maps
set_option maxRecDepth 100000
set_option linter.unusedVariables false

/-- A view in memory behind few changes. -/
structure FewS (S : VS) (j : Nat) : Prop where
  ok : S.Ok
  w : S.W = []
  c : S.C.length ≤ j
  ck : ∀ p ∈ S.C, p.1.length ≤ 60
theorem FewS.start : FewS ⟨[], []⟩ 0 := ⟨⟨List.Pairwise.nil, List.Pairwise.nil⟩, rfl, Nat.le_refl _, fun p (h : p ∈ ([] : List (Txt × Option (List Int)))) => absurd h List.not_mem_nil⟩
theorem FewS.put {S : VS} {j : Nat} (h : FewS S j) {x : Txt} (hx : x.length ≤ 60) (v : List Int) : FewS (S.put x v) (j + 1) :=
  ⟨h.ok.put x v, h.w, Nat.le_trans (setT_len _ _ _) (Nat.succ_le_succ h.c), fun p hp => by
    rcases mem_setT hp with rfl | hp
    · exact hx
    · exact h.ck p hp⟩
theorem FewS.scanOk {S : VS} {j : Nat} (h : FewS S j) (hj : j ≤ 32767) : ScanOk S :=
  ⟨by rw [h.w]; decide, (fun p hp => by rw [h.w] at hp; cases hp), Nat.le_trans h.c hj, fun p hp => Nat.le_trans (h.ck p hp) (by decide)⟩
theorem scansN {w : World} {X : Nat → Prop} {v m c : Nat} {S : VS} (h : ViewAt w X v m c S) (hS : ScanOk S) (y : Int) : ScansN w v y ((S.scan (tx (keyL 78 [y]))).map kvOf) :=
  fun W A k hb hr => vScan_any (h.below hb) hS.wf hS.wk hS.cf hS.ck hr (Nat.le_refl _)
theorem scans_len {S : VS} (hS : ScanOk S) (hW : S.W.length ≤ 2147000000) (x : Txt) : ((S.scan x).map kvOf).length ≤ 2147483647 := by
  rw [List.length_map]
  have := scan_len S x; have := hS.cf
  omega
/-- A row of nodes that a call built, as it is read. -/
theorem NodesR.read {w w' : World} {u : Value} {l : List Nd} (h : NodesR w w' u l) : ∃ A k, u = .slice A l.length k ∧ l.length ≤ k ∧ NdE.R w' w'.heap.size A l.length l := by
  obtain ⟨A, k, rfl, hk⟩ := h.1.shape
  obtain ⟨_, _, hr⟩ := h.1.read h.2.1
  exact ⟨A, k, rfl, hk, hr⟩
/-- The node at one place of such a row. -/
theorem nd_at {w : World} {B : Nat} {A : Option Addr} {n : Nat} {l : List Nd} (h : NdE.R w B A n l) {j : Nat} {x : Nd} (hx : l[j]? = some x) : ∃ b off, A = some ⟨b, off, none⟩ ∧ b < B ∧ NdE.At w b (off + j * 12) x := by
  have hj := (List.getElem?_eq_some_iff.1 hx).1
  obtain ⟨b, off, rfl, hb, hc⟩ := h.2.2 (by rw [← h.len]; omega)
  exact ⟨b, off, rfl, hb, hc j x hx⟩

abbrev twoN : VS := ((⟨[], []⟩ : VS).putN ⟨2020, 1, 0, 0, 0, false, 9, 0, 0, 0, 0, 0⟩).putN ⟨2020, 2, 1, 0, 0, false, 4, 0, 0, 0, 0, 0⟩
theorem two_path : pathN twoN 2020 8 2 = [⟨2020, 2, 1, 0, 0, false, 4, 0, 0, 0, 0, 0⟩, ⟨2020, 1, 0, 0, 0, false, 9, 0, 0, 0, 0, 0⟩] := by decide +kernel
theorem two_kids : kidsN twoN 2020 1 = [⟨2020, 2, 1, 0, 0, false, 4, 0, 0, 0, 0, 0⟩] := by decide +kernel
theorem two_few : FewS twoN 2 := (FewS.start.put (by rw [nKy_len]; omega) _).put (by rw [nKy_len]; omega) _
theorem n1_ok : NdOk ⟨2020, 1, 0, 0, 0, false, 9, 0, 0, 0, 0, 0⟩ := by intro v hv; simp only [List.mem_cons, List.not_mem_nil, or_false] at hv; rcases hv with rfl | rfl | rfl | rfl | rfl | rfl | rfl | rfl | rfl | rfl | rfl <;> omega
theorem n2_ok : NdOk ⟨2020, 2, 1, 0, 0, false, 4, 0, 0, 0, 0, 0⟩ := by intro v hv; simp only [List.mem_cons, List.not_mem_nil, or_false] at hv; rcases hv with rfl | rfl | rfl | rfl | rfl | rfl | rfl | rfl | rfl | rfl | rfl <;> omega
set_option maxHeartbeats 6400000 in
theorem treeAwake_any (w : World) : Calls Tryz.prog 15 #[] w fun e w' => e = .returned (.bool true) ∧ Below w.heap.size w w' := by
  have HN := Lib.hid (vNew_any w (fun _ => False) (fun k h => h.elim))
  go_enter Tryz.func15, Tryz.ntmps15
  go_wp2_with fail
  refine HN.out.mono ?_
  rintro e w1 ⟨v, m, c, rfl, h1, hb1, hv, hm, hc⟩
  obtain ⟨X, hX⟩ : ∃ X : Nat → Prop, X = fun k => False ∨ k = v ∨ k = m ∨ k = c := ⟨_, rfl⟩
  rw [← hX] at h1
  have H1 := Lib.hid (treePut_any h1 ⟨2020, 1, 0, 0, 0, false, 9, 0, 0, 0, 0, 0⟩ n1_ok (by decide))
  have HB := Lib.hid hb1
  have HC := Lib.hid hc
  clear HN h1 hb1 hv hm hc hX
  go_wp2_with fail
  refine H1.out.mono ?_
  rintro e w2 ⟨rfl, h2, t2⟩
  have H2 := Lib.hid (treePut_any h2 ⟨2020, 2, 1, 0, 0, false, 4, 0, 0, 0, 0, 0⟩ n2_ok (Nat.lt_of_le_of_lt (FewS.start.put (x := nKy 2020 1) (by rw [nKy_len]; omega) (ndVal ⟨2020, 1, 0, 0, 0, false, 9, 0, 0, 0, 0, 0⟩)).c (by decide)))
  have HB2 := Lib.hid (HB.out.trans (t2.below (fun k hk => by rw [hk]; exact HC.out) HB.out.size))
  clear h2 t2 H1 HB
  go_wp2_with fail
  refine H2.out.mono ?_
  rintro e w3 ⟨rfl, h3, t3⟩
  have HB3 := HB2.out.trans (t3.below (fun k hk => by rw [hk]; exact HC.out) HB2.out.size)
  have H3 := treePath_any h3 2020 2 (by unfold Nd64; omega) (by unfold Nd64; omega)
  rw [show pathN (((⟨[], []⟩ : VS).putN ⟨2020, 1, 0, 0, 0, false, 9, 0, 0, 0, 0, 0⟩).putN ⟨2020, 2, 1, 0, 0, false, 4, 0, 0, 0, 0, 0⟩) 2020 8 2 = [⟨2020, 2, 1, 0, 0, false, 4, 0, 0, 0, 0, 0⟩, ⟨2020, 1, 0, 0, 0, false, 9, 0, 0, 0, 0, 0⟩] from two_path] at H3
  have H3 := Lib.hid H3
  have HV := Lib.hid (show ∀ W, Below w3.heap.size w3 W → ViewAt W X v m c twoN from fun W hW => h3.below hW)
  have HB3 := Lib.hid HB3
  clear h3 t3 H2 HB2
  go_wp2_with fail
  refine H3.out.mono ?_
  rintro e w4 ⟨u, rfl, h4⟩
  obtain ⟨A4, k4, rfl, hk4, hr4⟩ := h4.read
  have hb4 := h4.2.2
  have H4 := treeKids_of (w := w4) (v := v) (y := 2020) (i := 1) (by unfold Nd64; omega) (by unfold Nd64; omega) (scansN (HV.out w4 hb4) (two_few.scanOk (by omega)) 2020) (scans_len (two_few.scanOk (by omega)) (by rw [two_few.w]; decide) _)
  rw [show ((if heldB 2020 then nodesK ((twoN.scan (tx (keyL 78 [2020]))).map kvOf) else []).filter fun x => x.p == 1) = [⟨2020, 2, 1, 0, 0, false, 4, 0, 0, 0, 0, 0⟩] from two_kids] at H4
  have H4 := Lib.hid H4
  have HR4 := Lib.hid hr4
  have HB4 := Lib.hid hb4
  clear h4 hr4 hb4 H3
  go_wp2_with fail
  refine H4.out.mono ?_
  rintro e w5 ⟨u, rfl, h5⟩
  obtain ⟨A5, k5, rfl, hk5, hr5⟩ := h5.read
  have hb5 := h5.2.2
  obtain ⟨b4, o4, rfl, hb4l, hat4⟩ := nd_at (j := 1) (HR4.out.below hb5) rfl
  obtain ⟨c0, c1, c2, c3, c4, c5, c6, c7, c8, c9, c10, c11⟩ := ndAt hat4
  have H5 := Lib.hid (given_any (c := k5) hr5 (Nat.le_refl _) (by decide))
  have HB5 := Lib.hid (HB3.out.trans ((HB4.out.trans (hb5.mono HB4.out.size)).mono HB3.out.size))
  rw [show givenN [⟨2020, 2, 1, 0, 0, false, 4, 0, 0, 0, 0, 0⟩] = 4 by decide +kernel] at H5
  simp only [List.length_cons, List.length_nil, Nat.zero_add, Nat.reduceAdd] at hk4 hk5 H5 ⊢
  clear h5 hr5 hb5 H4 HR4 HB4 hat4 c0 c2 c3 c4 c5 c6 c7 c8 c9 c10 c11
  go_wp2_with fail
  refine H5.out.mono ?_
  rintro e w6 ⟨rfl, hb6⟩
  have HE := Lib.hid (HB5.out.trans (hb6.mono HB5.out.size))
  clear hb6
  go_wp2_with fail
  go_ret
  exact ⟨rfl, HE.out⟩
/-- A node of that year. -/
def yearN (x : Nd) : Nd := ⟨2020, x.i, x.p, x.f, x.o, x.ab, x.li, x.pr, x.en, x.ex, x.la, x.ca⟩
theorem yearN_ok {x : Nd} (h : NdOk x) : NdOk (yearN x) := by
  intro v hv
  simp only [yearN, List.mem_cons, List.not_mem_nil, or_false] at hv
  rcases hv with rfl | rfl | rfl | rfl | rfl | rfl | rfl | rfl | rfl | rfl | rfl
  · omega
  · exact h _ (by simp)
  · exact h _ (by simp)
  · exact h _ (by simp)
  · exact h _ (by simp)
  · exact h _ (by simp)
  · exact h _ (by simp)
  · exact h _ (by simp)
  · exact h _ (by simp)
  · exact h _ (by simp)
  · exact h _ (by simp)
set_option maxHeartbeats 6400000 in
theorem treeEnds_any {w : World} {A : Option Addr} {n cap : Nat} {l : List Nd} (hr : NdE.R w w.heap.size A n l) (hcap : n ≤ cap) (hn : n ≤ maxLen) (i : Int) (hi : 0 ≤ i ∧ i ≤ 65535) :
    Calls Tryz.prog 5 #[.slice A n cap, .int .u16 i] w fun e w' => e = .returned (.bool true) ∧ Below w.heap.size w w' := by
  unfold maxLen at hn
  by_cases big : 40 < n
  · have hA := Lib.hid (treeAwake_any w)
    have hbig : decide ((n : Int) > 40) = true := decide_eq_true (by omega)
    clear hr
    go_enter Tryz.func5, Tryz.ntmps5
    go_wp2_with fail
    refine hA.out.mono ?_
    rintro e w' ⟨rfl, hb⟩
    have HE := Lib.hid hb
    clear hb
    go_wp2_with fail
    go_ret
    exact ⟨rfl, HE.out⟩
  have hbig : decide ((n : Int) > 40) = false := decide_eq_false (by omega)
  have HR := Lib.hid hr
  have HN := Lib.hid (vNew_any w (fun _ => False) (fun k h => h.elim))
  clear hr
  go_enter Tryz.func5, Tryz.ntmps5
  go_wp2_with fail
  refine HN.out.mono ?_
  rintro e w1 ⟨v, m, c, rfl, h1, hb1, hv, hm, hc⟩
  obtain ⟨X, hX⟩ : ∃ X : Nat → Prop, X = fun k => False ∨ k = v ∨ k = m ∨ k = c := ⟨_, rfl⟩
  rw [← hX] at h1
  have H0 := Lib.hid (show ∃ S, ViewAt w1 X v m c S ∧ FewS S 0 ∧ Below w.heap.size w w1 from ⟨_, h1, FewS.start, hb1⟩)
  have HC := Lib.hid hc
  clear HN h1 hb1 hv hm hc hX
  go_wp2_with fail
  go_loopw [20] (fun iv wr => ∃ k : Nat, k ≤ n ∧ iv = .int .i64 k ∧ Hid (∃ S, ViewAt wr X v m c S ∧ FewS S k ∧ Below w.heap.size w wr)) (fun iv _ => n - (intOf iv).toNat)
  case atStart => exact ⟨0, Nat.zero_le _, rfl, H0⟩
  case round =>
    clear H0
    obtain ⟨k, hk, rfl, HM⟩ := hrel
    by_cases hlt : k < n
    · have hlt' : (k : Int) < (n : Int) := by omega
      obtain ⟨S, hvw, hfs, hbw⟩ := HM.out
      obtain ⟨x, hx⟩ : ∃ x, l[k]? = some x := ⟨_, List.getElem?_eq_getElem (by rw [HR.out.len]; exact hlt)⟩
      have hok := HR.out.ok x (List.mem_of_getElem? hx)
      obtain ⟨b, off, rfl, hb, hat⟩ := nd_at (HR.out.below hbw) hx
      obtain ⟨c0, c1, c2, c3, c4, c5, c6, c7, c8, c9, c10, c11⟩ := ndAt hat
      obtain ⟨w4, hw4⟩ : ∃ w4, w4 = wr.alloc (.cells #[.int .i64 2020, .int .i64 x.i, .int .i64 x.p, .int .i64 x.f, .int .i64 x.o, .bool x.ab, .int .i64 x.li, .int .i64 x.pr, .int .i64 x.en, .int .i64 x.ex, .int .i64 x.la, .int .i64 x.ca] 50 (0, 0)) := ⟨_, rfl⟩
      have hb4 : Below wr.heap.size wr w4 := by rw [hw4]; exact (Below.refl _ _).alloc (Nat.le_refl _) _
      have HP := Lib.hid (treePut_any (hvw.below hb4) (yearN x) (yearN_ok hok) (Nat.lt_of_le_of_lt hfs.c (by unfold maxLen; omega)))
      have HB4 := Lib.hid (hbw.trans (hb4.mono hbw.size))
      have HFS := Lib.hid (hfs.put (x := nKy (yearN x).y (yearN x).i) (by rw [nKy_len]; omega) (ndVal (yearN x)))
      clear hvw hfs hbw hx hok hat hb4 hb
      go_wp2_with fail
      rw [← hw4]
      clear hw4
      refine HP.out.mono ?_
      rintro e w6 ⟨rfl, h6, t6⟩
      have HJ := Lib.hid (show ∃ S, ViewAt w6 X v m c S ∧ FewS S (k + 1) ∧ Below w.heap.size w w6 from ⟨_, h6, HFS.out, HB4.out.trans (t6.below (fun k hk => by rw [hk]; exact HC.out) HB4.out.size)⟩)
      clear h6 t6 HP
      go_wp2_with fail
      go_roundw
      case rel => exact ⟨k + 1, by omega, by go_num, HJ⟩
      case measure => simp [intOf]; omega
    · obtain rfl : k = n := by omega
      obtain ⟨S, hvw, hfs, hbw⟩ := HM.out
      have HP := Lib.hid (treePath_any hvw 2020 i (by unfold Nd64; omega) (by unfold Nd64; omega))
      have HV := Lib.hid (And.intro hvw (And.intro hfs hbw))
      have h8 := path_len S 2020 8 i
      have hup := Lib.hid (fun (j : Nat) (a b : Nd) (h : (pathN S 2020 8 i)[j]? = some a) (g : (pathN S 2020 8 i)[j + 1]? = some b) => (nodeAt_id (path_up h g)).2.1)
      have hhead := Lib.hid (fun (a : Nd) (h : (pathN S 2020 8 i)[0]? = some a) => (nodeAt_id (path_head h)).2.1)
      have hlast := Lib.hid (fun (a : Nd) (h : (pathN S 2020 8 i).length < 8) (g : (pathN S 2020 8 i)[(pathN S 2020 8 i).length - 1]? = some a) => path_last h g)
      generalize pathN S 2020 8 i = L at HP h8 hup hhead hlast
      clear hvw hfs hbw HM
      go_wp2_with fail
      refine HP.out.mono ?_
      rintro e w2 ⟨u, rfl, h2⟩
      obtain ⟨A2, k2, rfl, hk2, hr2⟩ := h2.read
      have HR2 := Lib.hid hr2
      have HV2 := Lib.hid (show ∀ W, Below w2.heap.size w2 W → ViewAt W X v m c S ∧ Below w.heap.size w W from fun W hW => ⟨HV.out.1.below (h2.2.2.trans (hW.mono h2.2.2.size)), HV.out.2.2.trans ((h2.2.2.trans (hW.mono h2.2.2.size)).mono HV.out.2.2.size)⟩)
      clear h2 hr2 HP
      go_wp2_with fail
      go_loopw [9] (fun iv wr => ∃ j : Nat, 1 ≤ j ∧ iv = .int .i64 j ∧ Hid (Below w2.heap.size w2 wr)) (fun iv _ => L.length - (intOf iv).toNat)
      case atStart => exact ⟨1, Nat.le_refl _, rfl, Lib.hid (Below.refl _ _)⟩
      case round =>
        obtain ⟨j, hj1, rfl, hbj⟩ := hrel
        by_cases hjl : j < L.length
        · have hjl' : (j : Int) < (L.length : Int) := by omega
          obtain ⟨jm, hjm⟩ : ∃ jm, j = jm + 1 := ⟨j - 1, by omega⟩
          obtain ⟨xa, hxa⟩ : ∃ x, L[jm]? = some x := ⟨_, List.getElem?_eq_getElem (by omega)⟩
          obtain ⟨xb, hxb⟩ : ∃ x, L[j]? = some x := ⟨_, List.getElem?_eq_getElem (by omega)⟩
          have hq := hup.out jm xa xb hxa (by rw [← hjm]; exact hxb)
          obtain ⟨b, off, rfl, hb, hat⟩ := nd_at (HR2.out.below hbj.out) hxa
          obtain ⟨b', off', e', hb', hat'⟩ := nd_at (HR2.out.below hbj.out) hxb
          injection e' with e'
          injection e' with q1 q2 q3
          subst q1 q2
          obtain ⟨_, _, ca, _⟩ := ndAt hat
          obtain ⟨_, cb, _⟩ := ndAt hat'
          have hwr : IntKind.i64.wrap ((j : Int) - 1) = (jm : Int) := by rw [IntKind.wrap_i64]; omega
          have i1 : (0 : Int) ≤ (j : Int) := by omega
          have i2 : (0 : Int) ≤ (jm : Int) := by omega
          have i3 : (jm : Int) < (L.length : Int) := by omega
          rw [hq] at cb
          have HJ := Lib.hid (show Below w2.heap.size w2 wr.drew from hbj.out.drew)
          have HBN := Lib.hid (fun n => (show Below w2.heap.size w2 (wr.drewN n) from below_drewNd hbj.out n))
          generalize xa.p = z at ca cb
          clear hxa hxb hq hat hat' hjm hbj
          go_wp2_with fail
          go_quiet (fail)
          go_wp2
          go_roundw
          case rel => exact ⟨j + 1, by omega, by go_num, Lib.hid (HBN.out _)⟩
          case measure => simp [intOf]; omega
        · have hjl' : ¬ (j : Int) < (L.length : Int) := by omega
          have g8 : decide ((L.length : Int) > 8) = false := decide_eq_false (by omega)
          rcases Nat.eq_zero_or_pos L.length with h0 | h0
          · have HX := Lib.hid (treeAwake_any wr)
            have HE := Lib.hid (HV2.out wr hbj.out).2
            have g0 : decide ((L.length : Int) > 0) = false := decide_eq_false (by omega)
            go_wp2_with fail
            refine HX.out.mono ?_
            rintro e w' ⟨rfl, hb⟩
            have HE2 := Lib.hid (HE.out.trans (hb.mono HE.out.size))
            clear hb
            go_wp2_with fail
            go_ret
            exact ⟨rfl, HE2.out⟩
          · have g0 : decide ((L.length : Int) > 0) = true := decide_eq_true (by omega)
            obtain ⟨x0, hx0⟩ : ∃ x, L[0]? = some x := ⟨_, List.getElem?_eq_getElem (by omega)⟩
            have hq0 := hhead.out x0 hx0
            obtain ⟨b, off, rfl, hb, hat⟩ := nd_at (HR2.out.below hbj.out) hx0
            obtain ⟨_, d1, _⟩ := ndAt hat
            rw [hq0] at d1
            simp only [Nat.zero_mul, Nat.add_zero] at d1
            have i0 : (0 : Int) < (L.length : Int) := by omega
            by_cases h7 : L.length < 8
            · have g7 : decide ((L.length : Int) < 8) = true := decide_eq_true (by omega)
              obtain ⟨q, hq⟩ : ∃ q, L.length = q + 1 := ⟨L.length - 1, by omega⟩
              obtain ⟨xl, hxl⟩ : ∃ x, L[q]? = some x := ⟨_, List.getElem?_eq_getElem (by omega)⟩
              have hl := hlast.out xl h7 (by rw [hq, Nat.add_sub_cancel]; exact hxl)
              obtain ⟨b', off', e', hb', hat'⟩ := nd_at (HR2.out.below hbj.out) hxl
              injection e' with e'
              injection e' with q1 q2 q3
              subst q1 q2
              obtain ⟨_, _, d2, _⟩ := ndAt hat'
              have hwr : IntKind.i64.wrap ((L.length : Int) - 1) = (q : Int) := by rw [IntKind.wrap_i64]; omega
              have i2 : (0 : Int) ≤ (q : Int) := by omega
              have i3 : (q : Int) < (L.length : Int) := by omega
              have hpx := (HR2.out.ok xl (List.mem_of_getElem? hxl)) xl.p (by simp)
              have HG := Lib.hid (treeGet_any (HV2.out wr hbj.out).1 2020 xl.p (by unfold Nd64; omega) hpx)
              have HE := Lib.hid (HV2.out wr hbj.out).2
              have HLL := Lib.hid hl
              clear hx0 hxl hq0 hat hat' hq hpx hl
              go_wp2_with fail
              refine HG.out.mono ?_
              rintro e w5 ⟨rfl, _, hb5⟩
              have HX := Lib.hid (fun o => treeAwake_any (w5.alloc o))
              have HE5 := Lib.hid (fun o => show Below w.heap.size w (w5.alloc o) from (HE.out.trans (hb5.mono HE.out.size)).alloc (HE.out.trans (hb5.mono HE.out.size)).size o)
              unfold ndW
              clear hb5 HG HE
              rcases HLL.out with hz | hz
              · have hz' : (xl.p != 0) = false := by simp [hz]
                generalize nodeAt S 2020 xl.p = o
                clear hz HLL
                cases ho : o.isSome with
                | true =>
                  clear ho
                  go_wp2_with fail
                  refine (HX.out _).mono ?_
                  rintro e w' ⟨rfl, hb⟩
                  have HE2 := Lib.hid ((HE5.out _).trans (hb.mono (HE5.out _).size))
                  clear hb
                  go_wp2_with fail
                  go_ret
                  exact ⟨rfl, HE2.out⟩
                | false =>
                  clear ho
                  go_wp2_with fail
                  refine (HX.out _).mono ?_
                  rintro e w' ⟨rfl, hb⟩
                  have HE2 := Lib.hid ((HE5.out _).trans (hb.mono (HE5.out _).size))
                  clear hb
                  go_wp2_with fail
                  go_ret
                  exact ⟨rfl, HE2.out⟩
              · rw [hz]
                clear hz HLL
                simp only [Option.isSome_none]
                go_wp2_with fail
                refine (HX.out _).mono ?_
                rintro e w' ⟨rfl, hb⟩
                have HE2 := Lib.hid ((HE5.out _).trans (hb.mono (HE5.out _).size))
                clear hb
                go_wp2_with fail
                go_ret
                exact ⟨rfl, HE2.out⟩
            · have g7 : decide ((L.length : Int) < 8) = false := decide_eq_false (by omega)
              have HX := Lib.hid (treeAwake_any wr)
              have HE := Lib.hid (HV2.out wr hbj.out).2
              clear hx0 hq0 hat
              go_wp2_with fail
              refine HX.out.mono ?_
              rintro e w' ⟨rfl, hb⟩
              have HE2 := Lib.hid (HE.out.trans (hb.mono HE.out.size))
              clear hb
              go_wp2_with fail
              go_ret
              exact ⟨rfl, HE2.out⟩

end Go.Proofs.YtilhcchnlbdlhaaGreat
