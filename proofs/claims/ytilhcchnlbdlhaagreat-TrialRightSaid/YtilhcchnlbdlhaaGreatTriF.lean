/-
  The texts TriE, TriF joined. Conditions: those that each part says at its head.
-/
import Derived.Test.YtilhcchnlbdlhaaGreatTriD
import Derived.Test.YtilhcchnlbdlhaaGreatLinE
import Derived.Test.YtilhcchnlbdlhaaGreatStru

/-
  A slice of slices of lines, as a statement opens it; sums and bounds of the law of trial over plain lists. No condition.
-/
namespace Go.Proofs.YtilhcchnlbdlhaaGreat
open Go.RowKit Go.Maps
set_option maxRecDepth 100000
set_option linter.unusedVariables false

/-- A slice, as it stands in a cell. -/
structure Hd where
  a : Option Addr
  n : Nat
  c : Nat
def hdV (h : Hd) : List Value := [.slice h.a h.n h.c]
/-- Slices of lines of a world. -/
def HdE (w : World) : Enc Hd := ⟨hdV, 1, fun h => h.n ≤ h.c ∧ h.c ≤ maxLen ∧ ∃ ls, RL w w.heap.size h.a h.n ls, fun _ => rfl, by decide, fun x u hu => by
  obtain rfl := List.mem_singleton.1 hu
  rfl⟩
abbrev LlR.R (w : World) (B : Nat) (A : Option Addr) (n : Nat) (hs : List Hd) : Prop := (HdE w).R w B A n hs
theorem cells_lines : Tryz.prog.cellsOf 28 = 1 := by kernel_rfl
theorem open_llines {H : Type} {enc : TypeId × Value → H} {w : World} {fuel : Nat} {cs : List Value} {x : DataW H × List MemPlace} (h : DataW.trod enc Tryz.prog w 0 (fun _ => true) true fuel 22 cs = some x) :
    cs = [.slice none 0 0] ∨ ∃ (a : Addr) (len cap : Nat) (ls : List Hd), cs = [.slice (some a) len cap] ∧ len ≤ cap ∧ cap ≤ maxLen ∧ LlR.R w w.heap.size (some a) len ls :=
  Enc.open_rows (E := HdE w) (⟨none, 0, 0⟩ : Hd) Tryz.underlying22 cells_lines (fun n ys y hy hl => by
    rcases open_lines hy with rfl | ⟨a, len, cap, ls, rfl, h1, h2, h3⟩
    · exact ⟨⟨none, 0, 0⟩, ⟨Nat.le_refl _, Nat.zero_le _, [], RL.nil_⟩, rfl⟩
    · exact ⟨⟨some a, len, cap⟩, ⟨h1, h2, ls, h3⟩, rfl⟩) h
/-- One of them, in a later world. -/
theorem LlR.at_ {w w' : World} {A : Option Addr} {n : Nat} {hs : List Hd} (h : LlR.R w w.heap.size A n hs) (hb : Below w.heap.size w w') {k : Nat} {x : Hd} (hx : hs[k]? = some x) : ∃ b off ls, A = some ⟨b, off, none⟩ ∧ b < w.heap.size ∧ w'.cell? ⟨b, off + k, none⟩ = some (.slice x.a x.n x.c) ∧ x.n ≤ x.c ∧ x.c ≤ maxLen ∧ RL w' w.heap.size x.a x.n ls := by
  obtain ⟨h1, h2, ls, h3⟩ := h.ok x (List.mem_of_getElem? hx)
  have hk := (List.getElem?_eq_some_iff.1 hx).1
  obtain ⟨b, off, rfl, hlt, hat⟩ := h.2.2 (by rw [← h.len]; omega)
  have hc := hat k x hx 0 (show 0 < 1 by decide)
  rw [show (HdE w).K = 1 from rfl, Nat.mul_one, Nat.add_zero] at hc
  refine ⟨b, off, ls, rfl, hlt, ?_, h1, h2, h3.below hb⟩
  rw [hb.cell (p := ⟨b, off + k, none⟩) hlt, hc]
  rfl

/-- A line that the law takes. -/
def FitLn (x : Ln) : Prop := x.a ≤ 9007199254740992 ∧ x.a ≥ -9007199254740992 ∧ x.o ≠ 1900 ∧ x.o ≠ 2900
def SmallL (ls : List Ln) (j : Nat) : Prop := ls.length ≤ 20 ∧ ∀ x ∈ ls.take j, FitLn x
theorem SmallL.step {ls : List Ln} {j : Nat} {x : Ln} (h : SmallL ls j) (hx : ls[j]? = some x) (hf : FitLn x) : SmallL ls (j + 1) := by
  obtain ⟨hj, rfl⟩ := List.getElem?_eq_some_iff.1 hx
  refine ⟨h.1, fun y hy => ?_⟩
  rw [List.take_succ_eq_append_getElem hj] at hy
  rcases List.mem_append.1 hy with hy | hy
  · exact h.2 y hy
  · obtain rfl := List.mem_singleton.1 hy
    exact hf
/-- What the first lines are together, as an int holds it. -/
def sumW (ls : List Ln) (j : Nat) : Int := IntKind.i64.wrap (sumAll (ls.take j))
theorem sumW_zero (ls : List Ln) : sumW ls 0 = 0 := by
  unfold sumW
  rw [List.take_zero]
  rfl
theorem sumAll_snoc (L : List Ln) (x : Ln) : sumAll (L ++ [x]) = sumAll L + x.a := by
  unfold sumAll
  rw [List.map_append, List.sum_append]
  simp
theorem sumW_step {ls : List Ln} {j : Nat} {x : Ln} (h : ls[j]? = some x) : IntKind.i64.wrap (sumW ls j + x.a) = sumW ls (j + 1) := by
  obtain ⟨hj, rfl⟩ := List.getElem?_eq_some_iff.1 h
  unfold sumW
  rw [List.take_succ_eq_append_getElem hj, sumAll_snoc, IntKind.wrap_i64, IntKind.wrap_i64, IntKind.wrap_i64]
  omega
/-- The line that the law adds. -/
def restLn (s : Int) : Ln := ⟨100, 3000, 0, wrap64 (-s)⟩
theorem restLn_ok (s : Int) : LnOk (restLn s) := by
  refine ⟨by unfold restLn B64; simp only; omega, by unfold restLn B64; simp only; omega, by unfold restLn B64; simp only; omega, ?_⟩
  unfold restLn B64 wrap64
  simp only
  omega
theorem rest_sum (ls : List Ln) : sumAll (ls ++ [restLn (sumW ls ls.length)]) % 18446744073709551616 = 0 := by
  rw [sumAll_snoc]
  unfold restLn sumW wrap64
  rw [List.take_length]
  simp only
  rw [IntKind.wrap_i64]
  omega
theorem rest_due {ls : List Ln} (h : SmallL ls ls.length) (s : Int) : ∀ x ∈ ls ++ [restLn s], x.o ≠ 1900 ∧ x.o ≠ 2900 := by
  intro x hx
  rcases List.mem_append.1 hx with hx | hx
  · have := h.2 x (by rw [List.take_length]; exact hx)
    exact ⟨this.2.2.1, this.2.2.2⟩
  · obtain rfl := List.mem_singleton.1 hx
    exact ⟨by unfold restLn; simp, by unfold restLn; simp⟩
/-- An append of a region whose operations go in any order, by its run. -/
theorem step_append_runT {P : Program} {ops : Array Oper} {o : Oper} {a : Act} {w : World} {K : Act → World → Prop} {Q : Exit → Act → World → Prop} {E : Prop} (hgd : o.guard = none) (s x : Operand) (t tn : TypeId)
    (ho : o.op = .call { callee := .builtin .append, args := #[s, x], argTypes := #[t, tn] }) (v u : Value) (hs : a.eval s = v) (hx : a.eval x = u) {v' : Value} {w' : World}
    (hrun : (Builtin.append_ #[t, tn] o.type #[v, u]).run P w = .ok v' w') (h : K (a.put o.dst v') w') :
    if Region.wanted o (yielded ops a.tmps) = true then Oper.wp P o a w K Q else E := by
  have hw : Region.wanted o (yielded ops a.tmps) = true := by simp [Region.wanted, hgd]
  rw [if_pos hw]
  exact Lib.wp_append_run w s x t tn ho v u hs hx _ _ hrun h
end Go.Proofs.YtilhcchnlbdlhaaGreat

/-
  The walk of the law of trial: entries whose lines are together nothing leave level books. Condition: the slices as the statement opens them.
-/
namespace Go.Proofs.YtilhcchnlbdlhaaGreat
open Go.RowKit Go.Maps
set_option maxRecDepth 100000
set_option linter.unusedVariables false

/-- An entry, or its being taken back, keeps the books. -/
theorem book_put {S : VS} {n : Nat} {ls : List Ln} (h : BookS S n) (hl : SmallL ls ls.length) (hok : ∀ x ∈ ls, LnOk x) (h0 : (entPut S.commit 2020 0 0 (ls ++ [restLn (sumW ls ls.length)])).2.2 = 0) : BookS (entPut S.commit 2020 0 0 (ls ++ [restLn (sumW ls ls.length)])).1 (n + 170) := by
  have hc := h.commit
  have hlen := hl.1
  refine hc.came (entPut_came hc.ok 2020 0 0 _ (by rw [List.length_append]; simp; omega)) (entPut_books hc.ok hc.bk (fun x hx => ?_) (rest_sum ls) (rest_due hl _) h0)
  rcases List.mem_append.1 hx with hx | hx
  · exact hok x hx
  · obtain rfl := List.mem_singleton.1 hx
    exact restLn_ok _
theorem book_back {S : VS} {n : Nat} {ls : List Ln} (h : BookS S n) (hl : SmallL ls ls.length) (s : Int) : BookS (entPut S.commit 2020 0 0 (ls ++ [restLn s])).1.abort n := by
  have hc := h.commit
  have hlen := hl.1
  rw [came_back (entPut_came hc.ok 2020 0 0 _ (by rw [List.length_append]; simp; omega))]
  exact hc
section
variable {w w' : World} {A : Option Addr} {n k : Nat} {hs : List Hd}
set_option maxHeartbeats 3200000 in
theorem trialRight_any (hr : LlR.R w w.heap.size A n hs) (hm : n ≤ maxLen) :
    Calls Tryz.prog 3 #[.slice A n k] w fun e w' => e = .returned (.bool true) ∧ Below w.heap.size w w' := by
  unfold maxLen at hm
  by_cases hn : n ≤ 20
  case neg =>
    have hA := Lib.hid (triAwake_any w)
    have hbig : decide ((n : Int) > 20) = true := decide_eq_true (by omega)
    clear hr
    go_enter Tryz.func3, Tryz.ntmps3
    go_wp2_with fail
    refine hA.out.mono ?_
    rintro e w' ⟨rfl, hb⟩
    have HE := Lib.hid hb
    clear hb
    go_wp2_with fail
    go_ret
    exact ⟨rfl, HE.out⟩
  have hbig : decide ((n : Int) > 20) = false := decide_eq_false (by omega)
  have HR := Lib.hid hr
  have HN := Lib.hid (vNew_any w (fun _ => False) (fun k h => h.elim))
  clear hr
  go_enter Tryz.func3, Tryz.ntmps3
  go_wp2_with fail
  refine HN.out.mono ?_
  rintro e w1 ⟨v, m, c, rfl, h1, hb1, hv, hm, hc⟩
  obtain ⟨X, hX⟩ : ∃ X : Nat → Prop, X = fun k => False ∨ k = v ∨ k = m ∨ k = c := ⟨_, rfl⟩
  rw [← hX] at h1
  have H1 := yOpen_any h1 2020 (by omega) (by decide)
  rw [two_open] at H1
  have H1 := Lib.hid H1
  have HB := Lib.hid hb1
  have HC := Lib.hid (And.intro hm hc)
  clear HN h1 hb1 hv hm hc hX
  go_wp2_with fail
  refine H1.out.mono ?_
  rintro e w2 ⟨rfl, h2, t2⟩
  have H0 := Lib.hid (show ∃ S, ViewAt w2 X v m c S ∧ BookS S (1 + 170 * 0) ∧ Below w.heap.size w w2 from ⟨_, h2, BookS.start, HB.out.trans (t2.below (fun k hk => by rw [hk]; exact HC.out.2) HB.out.size)⟩)
  clear h2 t2 H1 HB
  go_wp2_with fail
  go_loopw [21] (fun iv wr => ∃ k : Nat, k ≤ n ∧ iv = .int .i64 k ∧ Hid (∃ S, ViewAt wr X v m c S ∧ BookS S (1 + 170 * k) ∧ Below w.heap.size w wr)) (fun iv _ => n - (intOf iv).toNat)
  case atStart => exact ⟨0, Nat.zero_le _, rfl, H0⟩
  case round =>
    clear H0
    obtain ⟨k, hk, rfl, HM⟩ := hrel
    obtain ⟨S, hvw, hbk, hbw⟩ := HM.out
    by_cases hlt : k < n
    · have hlt' : (k : Int) < (n : Int) := by omega
      obtain ⟨x, hx⟩ : ∃ x, hs[k]? = some x := ⟨_, List.getElem?_eq_getElem (by rw [HR.out.len]; exact hlt)⟩
      obtain ⟨b, off, ls, rfl, hbl, hcell, hnc, hcm, hrl⟩ := LlR.at_ HR.out hbw hx
      obtain ⟨xa, nn, nc⟩ := x
      simp only at hcell hnc hcm hrl
      have hll := hrl.len
      unfold maxLen at hcm
      obtain ⟨sm, hsm⟩ : ∃ sm, sm = decide ((nn : Int) ≤ 20) := ⟨_, rfl⟩
      have HV := Lib.hid (And.intro hvw (And.intro hbk hbw))
      have HL := Lib.hid hrl
      have HLE := Lib.hid hll
      have HS0 := Lib.hid (show sm = true → SmallL ls 0 from fun h => ⟨by rw [hsm] at h; have := of_decide_eq_true h; omega, fun y hy => by rw [List.take_zero] at hy; cases hy⟩)
      clear hvw hbk hbw hx hrl hll HM
      go_wp2_with fail
      rw [← hsm]
      clear hsm
      obtain ⟨wo, hwo⟩ : ∃ wo, wo = wr := ⟨_, rfl⟩
      subst hwo
      go_loopw [6, 7, 8] (fun nv sv iv wq => ∃ (j : Nat) (bb : Bool), j ≤ nn ∧ nv = .int .i64 (sumW ls j) ∧ sv = .bool bb ∧ iv = .int .i64 j ∧ Hid (bb = true → SmallL ls j) ∧ Hid (Below wo.heap.size wo wq)) (fun _ _ iv _ => nn - (intOf iv).toNat)
      case atStart => exact ⟨0, sm, Nat.zero_le _, by rw [sumW_zero], rfl, rfl, HS0, Lib.hid (Below.refl _ _)⟩
      case round =>
        clear HS0
        obtain ⟨j, bb, hj, rfl, rfl, rfl, HS, HQ⟩ := hrel
        cases bb with
        | true =>
          by_cases hjl : j < nn
          · have hjl' : (j : Int) < (nn : Int) := by omega
            obtain ⟨y, hy⟩ : ∃ y, ls[j]? = some y := ⟨_, List.getElem?_eq_getElem (by rw [HLE.out]; exact hjl)⟩
            obtain ⟨b2, off2, rfl, hb2, hat⟩ := (HL.out.below (HQ.out.mono HV.out.2.2.size)).2.2 (by omega)
            obtain ⟨l0, l1, l2, l3⟩ := hat j y hy
            have HSTEP := Lib.hid (sumW_step hy)
            have HFIT := Lib.hid (fun (hf : FitLn y) => (HS.out rfl).step hy hf)
            unfold FitLn at HFIT
            generalize sumW ls j = s0 at HSTEP
            obtain ⟨yf, yo, yn, ya⟩ := y
            simp only at l0 l1 l2 l3 HSTEP HFIT
            clear hat hy HS l0 l2 hb2
            by_cases c1 : ya ≤ 9007199254740992
            case neg =>
              go_wp2_with fail
              go_roundw
              case rel => exact ⟨j + 1, false, by omega, by rw [← HSTEP.out, wrap_64], rfl, by go_num, Lib.hid (fun h => by cases h), HQ⟩
              case measure => simp [intOf]; omega
            by_cases c2 : ya ≥ -9007199254740992
            case neg =>
              go_wp2_with fail
              go_roundw
              case rel => exact ⟨j + 1, false, by omega, by rw [← HSTEP.out, wrap_64], rfl, by go_num, Lib.hid (fun h => by cases h), HQ⟩
              case measure => simp [intOf]; omega
            by_cases c3 : yo = 1900
            · subst c3
              go_wp2_with fail
              go_roundw
              case rel => exact ⟨j + 1, false, by omega, by rw [← HSTEP.out, wrap_64], rfl, by go_num, Lib.hid (fun h => by cases h), HQ⟩
              case measure => simp [intOf]; omega
            by_cases c4 : yo = 2900
            · subst c4
              go_wp2_with fail
              go_roundw
              case rel => exact ⟨j + 1, false, by omega, by rw [← HSTEP.out, wrap_64], rfl, by go_num, Lib.hid (fun h => by cases h), HQ⟩
              case measure => simp [intOf]; omega
            have k3 : (yo != 1900) = true := by simp [c3]
            have k4 : (yo != 2900) = true := by simp [c4]
            have HF := Lib.hid (HFIT.out ⟨c1, c2, c3, c4⟩)
            clear HFIT c3 c4
            go_wp2_with fail
            go_roundw
            case rel => exact ⟨j + 1, true, by omega, by rw [← HSTEP.out, wrap_64], rfl, by go_num, Lib.hid (fun _ => HF.out), HQ⟩
            case measure => simp [intOf]; omega
          · obtain rfl : j = nn := by omega
            have hjj : ¬ (j : Int) < (j : Int) := by omega
            have hw := HV.out.2.2.trans (HQ.out.mono HV.out.2.2.size)
            have hrl := HL.out.below (HQ.out.mono HV.out.2.2.size)
            have hsml := HS.out rfl
            have hls := HLE.out
            have hv := HV.out.1.below HQ.out
            have hbk := HV.out.2.1
            clear HV HQ HS HL HLE HR hcell hjl
            subst hls
            have HCL := Lib.hid (cloneLn_any nc hrl hw.size (by have := hsml.1; omega))
            have HST := Lib.hid (And.intro hv (And.intro hbk (And.intro hw (And.intro hsml hrl.ok))))
            generalize hs1 : sumW ls ls.length = s1
            have HS1 := Lib.hid hs1
            clear hw hrl hsml hv hbk hs1
            go_wp2_with fail
            refine HCL.out.mono ?_
            rintro e w3 ⟨u, rfl, ho3, hb3⟩
            obtain ⟨w4, hw4⟩ : ∃ w4, w4 = w3.alloc (.cells #[.int .i64 100, .int .i64 3000, .int .i64 0, .int .i64 (wrap64 (-s1))] 30 (0, 0)) := ⟨_, rfl⟩
            have hb4 : Below w3.heap.size w3 w4 := by rw [hw4]; exact (Below.refl _ _).alloc (Nat.le_refl _) _
            obtain ⟨u5, w5, hrun, ho5, hb5, _⟩ := (ho3.below hb4).append1 (x := restLn s1) (b := w3.heap.size) (by rw [hw4]; exact heap_alloc_new w3 _) (restLn_ok s1) (by have := HST.out.2.2.2.1.1; omega) (Nat.le_trans hb3.size hb4.size) 28
            have HRUN := Lib.hid hrun
            have HO5 := Lib.hid (And.intro ho5 ((hb3.trans (hb4.mono hb3.size)).trans hb5))
            clear ho3 hb3 hb4 hrun ho5 hb5 HCL
            subst hw4
            obtain ⟨A5, k5, rfl, hk5⟩ := HO5.out.1.shape
            have hb05 := HST.out.2.2.1.trans ((HO5.out.2).mono HST.out.2.2.1.size)
            have hv5 := HST.out.1.below HO5.out.2
            have hr5 := (HO5.out.1.read (fun y hy => by
              rcases List.mem_append.1 hy with hy | hy
              · exact HST.out.2.2.2.2 y hy
              · obtain rfl := List.mem_singleton.1 hy
                exact restLn_ok _)).2.2
            have hbk := HST.out.2.1
            have hsml := HST.out.2.2.2.1
            have h20 := hsml.1
            have hlen1 : (ls ++ [restLn s1]).length = ls.length + 1 := by simp
            have HCO := Lib.hid (vCommit_any hv5 (Nat.le_trans (Nat.le_trans (Nat.le_add_left _ _) hbk.len) (by omega)) (fun p hp => Nat.le_trans (hbk.ck p hp) (by decide)) (Nat.le_trans (Nat.le_trans (Nat.le_add_right _ _) hbk.len) (by omega)))
            have HV5 := Lib.hid (And.intro hv5 (And.intro hr5 hb05))
            have HBK := Lib.hid (And.intro hbk (And.intro hsml HST.out.2.2.2.2))
            rw [hlen1] at HV5 hk5 HRUN
            clear hb05 hv5 hr5 hbk hsml HO5 HST
            go_wp2_with (at_builtin; refine Lib.wpList_append_run _ rfl _ _ _ _ rfl _ _ rfl rfl _ _ HRUN.out ?_)
            refine HCO.out.mono ?_
            rintro e w6 ⟨rfl, hv6, t6⟩
            have hr6 := HV5.out.2.1.keep (fun b o hb => HV5.out.1.cellsKept hv6 t6 b o hb)
            have hb6 := HV5.out.2.2.trans (t6.below (fun k hk => by
              rcases hk with hk | hk
              · rw [hk]; exact HC.out.1
              · rw [hk]; exact HC.out.2) HV5.out.2.2.size)
            have hC0 := HBK.out.1.commit.len
            have HPU := Lib.hid (entPut_any (k := k5) hv6 HBK.out.1.ok.commit 0 2020 0 0 0 0 (by unfold I64; omega) (by unfold I64; omega) (by unfold I64; omega) hr6 t6.size (by omega) (Nat.le_trans (Nat.le_trans (Nat.le_add_left _ _) hC0) (by omega)))
            have HB6 := Lib.hid hb6
            have HPB := Lib.hid (fun (h0 : (entPut S.commit 2020 0 0 (ls ++ [restLn s1])).2.2 = 0) => (show BookS (entPut S.commit 2020 0 0 (ls ++ [restLn s1])).1 (1 + 170 * k + 170) from by
              rw [← HS1.out] at h0 ⊢
              exact book_put HBK.out.1 HBK.out.2.1 HBK.out.2.2 h0))
            have HPA := Lib.hid (book_back HBK.out.1 HBK.out.2.1 s1)
            generalize entPut S.commit 2020 0 0 (ls ++ [restLn s1]) = R at HPU HPB HPA
            obtain ⟨S2, id2, er2⟩ := R
            simp only at HPU HPB HPA
            clear hr6 hb6 hv6 t6 hC0 HCO HV5 HBK HRUN HS1 hk5 hlen1 h20
            go_wp2_with fail
            refine HPU.out.mono ?_
            rintro e w7 ⟨rfl, hv7, t7⟩
            have hb7 := HB6.out.trans (t7.below (fun k hk => by rw [hk]; exact HC.out.2) HB6.out.size)
            by_cases he : er2 = 0
            · have HJ := Lib.hid (show ∃ S, ViewAt w7 X v m c S ∧ BookS S (1 + 170 * (k + 1)) ∧ Below w.heap.size w w7 from ⟨S2, hv7, (HPB.out he).more (by omega), hb7⟩)
              subst he
              clear hv7 t7 hb7 HPU HPB HPA HB6
              go_wp2_with fail
              go_roundw
              case rel => exact ⟨k + 1, by omega, by go_num, HJ⟩
              case measure => simp [intOf]; omega
            · have ke : (er2 != 0) = true := by simp [he]
              have HAB := Lib.hid (vAbort_any hv7)
              have HB7 := Lib.hid hb7
              clear hv7 t7 hb7 HPU HPB HB6 he
              go_wp2_with fail
              refine HAB.out.mono ?_
              rintro e w8 ⟨rfl, hv8, t8⟩
              have HJ := Lib.hid (show ∃ S, ViewAt w8 X v m c S ∧ BookS S (1 + 170 * (k + 1)) ∧ Below w.heap.size w w8 from ⟨_, hv8, HPA.out.more (by omega), HB7.out.trans (t8.below (fun k hk => by rw [hk]; exact HC.out.2) HB7.out.size)⟩)
              clear hv8 t8 HAB HPA HB7
              go_wp2_with fail
              go_roundw
              case rel => exact ⟨k + 1, by omega, by go_num, HJ⟩
              case measure => simp [intOf]; omega
        | false =>
          have HJ := Lib.hid (show ∃ S, ViewAt wr X v m c S ∧ BookS S (1 + 170 * (k + 1)) ∧ Below w.heap.size w wr from ⟨S, HV.out.1.below HQ.out, HV.out.2.1.more (by omega), HV.out.2.2.trans (HQ.out.mono HV.out.2.2.size)⟩)
          clear HV HQ HS
          go_wp2_with fail
          go_roundw
          case rel => exact ⟨k + 1, by omega, by go_num, HJ⟩
          case measure => simp [intOf]; omega
    · obtain rfl : k = n := by omega
      obtain ⟨S, hvw, hbk, hbw⟩ := HM.out
      have HR := Lib.hid (trRight_any (w := wr) (v := v) (y := 2020) (fun W hW => allsB_any (hvw.below hW) (hbk.scanOk (by omega)) (Nat.le_trans (Nat.le_trans (Nat.le_add_right _ _) hbk.len) (by omega)) (by omega)) (books_len hbk (by omega) _) (hbk.bk.level hbk.ok (by omega)) hbk.bk.due)
      have HBW := Lib.hid hbw
      clear hvw hbk hbw HM
      go_wp2_with fail
      refine HR.out.mono ?_
      rintro e w8 ⟨rfl, hb8⟩
      have HA := Lib.hid (triAwake_any w8)
      have HB8 := Lib.hid (HBW.out.trans (hb8.mono HBW.out.size))
      clear hb8 HBW
      go_wp2_with fail
      refine HA.out.mono ?_
      rintro e w9 ⟨rfl, hb9⟩
      have HE := Lib.hid (HB8.out.trans (hb9.mono HB8.out.size))
      clear hb9
      go_wp2_with fail
      go_ret
      exact ⟨rfl, HE.out⟩
end
end Go.Proofs.YtilhcchnlbdlhaaGreat
