/-
  CtrlHolds: its charges as the statement opens them, and the walk: it returns true. No condition beyond those that the statement itself says.
-/
import Derived.Test.YtlpjggilkfpleaaGreatCtlE
import Derived.Test.YtlpjggilkfpleaaGreatViewF
import Derived.Test.YtlpjggilkfpleaaGreatVBy
import Derived.Deep.RegionHeld3
namespace Go.Proofs.YtlpjggilkfpleaaGreat
open Go.RowKit Go.Maps
set_option maxRecDepth 100000
set_option linter.unusedVariables false

/-- A charge. -/
structure Do29 where
  i : Int
  p : Int
  e : Int
  q : Int
def do29V (x : Do29) : List Value := [.int .i64 x.i, .int .i64 x.p, .int .i64 x.e, .int .i64 x.q]
def Do29Ok (x : Do29) : Prop := In64 [x.i, x.p, x.e, x.q]
def Do29E : Enc Do29 := ⟨do29V, 4, Do29Ok, fun _ => rfl, by decide, fun x u hu => by
  unfold do29V at hu
  simp only [List.mem_cons, List.not_mem_nil, or_false] at hu
  rcases hu with rfl | rfl | rfl | rfl <;> rfl⟩
theorem cells_do29 : Tryz.prog.cellsOf 36 = 4 := by kernel_rfl
open Go.ChangeShapes Go.WideShapes in
theorem open_do29 {H : Type} {enc : TypeId × Value → H} {w : World} {fuel : Nat} {cs : List Value} {x : DataW H × List MemPlace} (h : DataW.trod enc Tryz.prog w 0 (fun _ => true) true fuel 36 cs = some x) (hcl : cs.length = 4) :
    ∃ (a : Int) (b : Int) (c : Int) (d : Int), cs = [.int .i64 a, .int .i64 b, .int .i64 c, .int .i64 d] ∧ In64 [a, b, c, d] := by
  obtain ⟨fs, hfs⟩ : ∃ fs, Tryz.prog.underlying 36 = some (.struct fs) := ⟨_, Tryz.underlying36⟩
  obtain ⟨ys, n', hn', hy, hlen, hyl, hf⟩ := DataW.trod_struct Tryz.underlying36 h
  match cs, hcl with
  | [c0, c1, c2, c3], _ =>
    match ys, hyl with
    | [y0, y1, y2, y3], _ =>
      have f0 : DataW.trod enc Tryz.prog w 0 (fun _ => true) true n' 3 (([c0, c1, c2, c3].drop 0).take (Tryz.prog.cellsOf 3)) = [y0, y1, y2, y3][0]? := hf 0 _ rfl
      rw [recInt] at f0
      have f1 : DataW.trod enc Tryz.prog w 0 (fun _ => true) true n' 3 (([c0, c1, c2, c3].drop 1).take (Tryz.prog.cellsOf 3)) = [y0, y1, y2, y3][1]? := hf 1 _ rfl
      rw [recInt] at f1
      have f2 : DataW.trod enc Tryz.prog w 0 (fun _ => true) true n' 3 (([c0, c1, c2, c3].drop 2).take (Tryz.prog.cellsOf 3)) = [y0, y1, y2, y3][2]? := hf 2 _ rfl
      rw [recInt] at f2
      have f3 : DataW.trod enc Tryz.prog w 0 (fun _ => true) true n' 3 (([c0, c1, c2, c3].drop 3).take (Tryz.prog.cellsOf 3)) = [y0, y1, y2, y3][3]? := hf 3 _ rfl
      rw [recInt] at f3
      simp only [List.drop_zero, List.take_succ_cons, List.take_zero, List.drop_succ_cons, List.getElem?_cons_zero, List.getElem?_cons_succ] at f0 f1 f2 f3
      obtain ⟨n0, e0, _, w0⟩ := DataW.trod_int Tryz.underlying3 f0
      obtain ⟨n1, e1, _, w1⟩ := DataW.trod_int Tryz.underlying3 f1
      obtain ⟨n2, e2, _, w2⟩ := DataW.trod_int Tryz.underlying3 f2
      obtain ⟨n3, e3, _, w3⟩ := DataW.trod_int Tryz.underlying3 f3
      simp only [List.cons.injEq, and_true] at e0 e1 e2 e3
      subst e0 e1 e2 e3
      exact ⟨n0, n1, n2, n3, rfl, by
        intro v hv; simp only [List.mem_cons, List.not_mem_nil, or_false] at hv; rcases hv with rfl | rfl | rfl | rfl
        · exact rec_bounds w0
        · exact rec_bounds w1
        · exact rec_bounds w2
        · exact rec_bounds w3⟩
theorem open_dos29 {H : Type} {enc : TypeId × Value → H} {w : World} {fuel : Nat} {cs : List Value} {x : DataW H × List MemPlace} (h : DataW.trod enc Tryz.prog w 0 (fun _ => true) true fuel 30 cs = some x) :
    cs = [.slice none 0 0] ∨ ∃ (a : Addr) (len cap : Nat) (ls : List Do29), cs = [.slice (some a) len cap] ∧ len ≤ cap ∧ cap ≤ maxLen ∧ Do29E.R w w.heap.size (some a) len ls :=
  Enc.open_rows (E := Do29E) (⟨0, 0, 0, 0⟩ : Do29) Tryz.underlying30 cells_do29 (fun n ys y hy hl => by
    obtain ⟨a0, a1, a2, a3, rfl, hok⟩ := open_do29 hy hl
    exact ⟨⟨a0, a1, a2, a3⟩, hok, rfl⟩) h
theorem do29_at {w : World} {B : Nat} {A : Option Addr} {n : Nat} {l : List Do29} (h : Do29E.R w B A n l) {j : Nat} {x : Do29} (hx : l[j]? = some x) : ∃ b off, A = some ⟨b, off, none⟩ ∧ b < B ∧ w.cell? ⟨b, off + j * 4, none⟩ = some (.int .i64 x.i) ∧ w.cell? ⟨b, off + j * 4 + 1, none⟩ = some (.int .i64 x.p) ∧ w.cell? ⟨b, off + j * 4 + 2, none⟩ = some (.int .i64 x.e) ∧ w.cell? ⟨b, off + j * 4 + 3, none⟩ = some (.int .i64 x.q) := by
  have hj := (List.getElem?_eq_some_iff.1 hx).1
  obtain ⟨b, off, rfl, hb, hc⟩ := h.2.2 (by rw [← h.len]; omega)
  have h2 := hc j x hx
  exact ⟨b, off, rfl, hb, h2 0 (by decide), h2 1 (by decide), h2 2 (by decide), h2 3 (by decide)⟩
/-- A node there has ints. -/
theorem ViewAt.nodeOk {w : World} {X : Nat → Prop} {v m c : Nat} {S : VS} (h : ViewAt w X v m c S) {y i : Int} {n : Nd} (hn : nodeAt S y i = some n) : NdOk n := by
  unfold nodeAt at hn
  split at hn
  · refine ndK_ok (keyL_bytes (by omega) _) ?_ hn
    show AllBytes ((S.now (nKy y i)).getD [])
    cases e : S.now (nKy y i) with
    | none => exact AllBytes.nil
    | some b => exact h.bytes e
  · cases hn
theorem many_puts {S : VS} : ∀ (Q : List Nd) {S : VS} {n : Nat}, ManyS S n → ManyS (Q.foldl VS.putN S) (n + Q.length)
  | [], S, n, h => h
  | x :: Q, S, n, h => by
    rw [List.foldl_cons, List.length_cons]
    have := many_puts (S := S) Q (h.put (x := nKy x.y x.i) (by rw [nKy_len]; omega) (ndVal x))
    rw [show n + (Q.length + 1) = n + 1 + Q.length by omega]
    exact this
theorem many_charge {S : VS} {n : Nat} (h : ManyS S n) (y i p e q : Int) : ManyS (chargeR S y i p e q).2 (n + 8) := by
  unfold chargeR
  split
  · exact h.more (by omega)
  · split
    · exact h.more (by omega)
    · split
      · refine (many_puts (S := S) _ h).more ?_
        rw [List.length_map]
        have := path_len S y 8 i
        omega
      · exact h.more (by omega)
theorem scansM {w : World} {X : Nat → Prop} {v m c : Nat} {S : VS} (h : ViewAt w X v m c S) {n : Nat} (hS : ManyS S n) (hn : n ≤ 32767) (y : Int) (hy : Nd64 y) :
    Calls Tryz.prog 12 #[.pointer (some ⟨v, 0, none⟩), .int .i64 y] w fun e w' => ∃ u, e = .returned u ∧ NodesR w w' u (allN S y) :=
  treeAll_of hy (scansN h (hS.scanOk hn) y) (Nat.le_trans (hS.scan _) (by omega))
theorem many_all {S : VS} {n : Nat} (h : ManyS S n) (y : Int) : (allN S y).length ≤ n := by
  unfold allN
  split
  · exact Nat.le_trans (nodesK_len _) (h.scan _)
  · exact Nat.zero_le _
/-- A node as the law puts it. -/
def bareN (x : Nd) : Nd := ⟨2020, x.i, x.p, x.f, x.o, x.ab, x.li, 0, 0, 0, x.la, x.ca⟩
theorem bareN_ok {x : Nd} (h : NdOk x) : NdOk (bareN x) := by
  intro v hv
  simp only [bareN, List.mem_cons, List.not_mem_nil, or_false] at hv
  rcases hv with rfl | rfl | rfl | rfl | rfl | rfl | rfl | rfl | rfl | rfl | rfl
  · omega
  · exact h _ (by simp)
  · exact h _ (by simp)
  · exact h _ (by simp)
  · exact h _ (by simp)
  · exact h _ (by simp)
  · omega
  · omega
  · omega
  · exact h _ (by simp)
  · exact h _ (by simp)
set_option maxHeartbeats 25600000 in
theorem ctrlHolds_any {w : World} {A : Option Addr} {n cap : Nat} {l : List Nd} (hr : NdE.R w w.heap.size A n l) (hcap : n ≤ cap) (hn : n ≤ maxLen) {A' : Option Addr} {n' cap' : Nat} {l' : List Do29} (hr' : Do29E.R w w.heap.size A' n' l') (hcap' : n' ≤ cap') (hn' : n' ≤ maxLen) :
    Calls Tryz.prog 4 #[.slice A n cap, .slice A' n' cap'] w fun e w' => e = .returned (.bool true) ∧ Below w.heap.size w w' := by
  unfold maxLen at hn hn'
  by_cases big : 30 < n
  · have hA := Lib.hid (ctlAwake_any w)
    have hbig : decide ((n : Int) > 30) = true := decide_eq_true (by omega)
    clear hr hr'
    go_enter Tryz.func4, Tryz.ntmps4
    go_wp2_with fail
    refine hA.out.mono ?_
    rintro e w' ⟨rfl, hb⟩
    have HE := Lib.hid hb
    clear hb
    go_wp2_with fail
    go_ret
    exact ⟨rfl, HE.out⟩
  have hbig : decide ((n : Int) > 30) = false := decide_eq_false (by omega)
  by_cases big' : 30 < n'
  · have hA := Lib.hid (ctlAwake_any w)
    have hbig' : decide ((n' : Int) > 30) = true := decide_eq_true (by omega)
    clear hr hr'
    go_enter Tryz.func4, Tryz.ntmps4
    go_wp2_with fail
    refine hA.out.mono ?_
    rintro e w' ⟨rfl, hb⟩
    have HE := Lib.hid hb
    clear hb
    go_wp2_with fail
    go_ret
    exact ⟨rfl, HE.out⟩
  have hbig' : decide ((n' : Int) > 30) = false := decide_eq_false (by omega)
  have HR := Lib.hid hr
  have HR' := Lib.hid hr'
  have HN := Lib.hid (vNew_any w (fun _ => False) (fun k h => h.elim))
  clear hr hr'
  go_enter Tryz.func4, Tryz.ntmps4
  go_wp2_with fail
  refine HN.out.mono ?_
  rintro e w1 ⟨v, m, c, rfl, h1, hb1, hv, hm, hc⟩
  obtain ⟨X, hX⟩ : ∃ X : Nat → Prop, X = fun k => False ∨ k = v ∨ k = m ∨ k = c := ⟨_, rfl⟩
  rw [← hX] at h1
  have H0 := Lib.hid (show ∃ S, ViewAt w1 X v m c S ∧ ManyS S 0 ∧ Below w.heap.size w w1 from ⟨_, h1, ManyS.start, hb1⟩)
  have HC := Lib.hid (And.intro hm hc)
  clear HN h1 hb1 hv hm hc hX
  go_wp2_with fail
  go_loopw [29] (fun iv wr => ∃ k : Nat, k ≤ n ∧ iv = .int .i64 k ∧ Hid (∃ S, ViewAt wr X v m c S ∧ ManyS S k ∧ Below w.heap.size w wr)) (fun iv _ => n - (intOf iv).toNat)
  case atStart => exact ⟨0, Nat.zero_le _, rfl, H0⟩
  case round =>
    clear H0
    obtain ⟨k, hk, rfl, HM⟩ := hrel
    by_cases hlt : k < n
    · have hlt' : (k : Int) < (n : Int) := by omega
      obtain ⟨S, hvw, hfs, hbw⟩ := HM.out
      obtain ⟨x, hx⟩ : ∃ x, l[k]? = some x := ⟨_, List.getElem?_eq_getElem (by rw [HR.out.len]; exact hlt)⟩
      have hok := HR.out.ok x (List.mem_of_getElem? hx)
      obtain ⟨b, off, rfl, hb, hat⟩ := nd_at (HR.out.below hbw) hx
      obtain ⟨c0, c1, c2, c3, c4, c5, c6, c7, c8, c9, c10, c11⟩ := ndAt hat
      obtain ⟨w4, hw4⟩ : ∃ w4, w4 = wr.alloc (.cells #[.int .i64 2020, .int .i64 x.i, .int .i64 x.p, .int .i64 x.f, .int .i64 x.o, .bool x.ab, .int .i64 x.li, .int .i64 0, .int .i64 0, .int .i64 0, .int .i64 x.la, .int .i64 x.ca] 23 (0, 0)) := ⟨_, rfl⟩
      have hb4 : Below wr.heap.size wr w4 := by rw [hw4]; exact (Below.refl _ _).alloc (Nat.le_refl _) _
      have HP := Lib.hid (treePut_any (hvw.below hb4) (bareN x) (bareN_ok hok) (Nat.lt_of_le_of_lt (Nat.le_trans (Nat.le_add_left _ _) hfs.len) (by unfold maxLen; omega)))
      have HB4 := Lib.hid (hbw.trans (hb4.mono hbw.size))
      have HFS := Lib.hid (hfs.put (x := nKy (bareN x).y (bareN x).i) (by rw [nKy_len]; omega) (ndVal (bareN x)))
      clear hvw hfs hbw hx hok hat hb4 hb
      go_wp2_with fail
      rw [← hw4]
      clear hw4
      refine HP.out.mono ?_
      rintro e w6 ⟨rfl, h6, t6⟩
      have HJ := Lib.hid (show ∃ S, ViewAt w6 X v m c S ∧ ManyS S (k + 1) ∧ Below w.heap.size w w6 from ⟨_, h6, HFS.out, HB4.out.trans (t6.below (fun k hk => by rw [hk]; exact HC.out.2) HB4.out.size)⟩)
      clear h6 t6 HP
      go_wp2_with fail
      go_roundw
      case rel => exact ⟨k + 1, by omega, by go_num, HJ⟩
      case measure => simp [intOf]; omega
    · obtain rfl : k = n := by omega
      have H1 := Lib.hid (show ∃ S, ViewAt wr X v m c S ∧ ManyS S (30 + 8 * 0) ∧ Below w.heap.size w wr from by
        obtain ⟨S, h1, h2, h3⟩ := HM.out
        exact ⟨S, h1, h2.more (by omega), h3⟩)
      clear HM HR
      go_wp2_with fail
      obtain ⟨wo, hwo⟩ : ∃ wo, wo = wr := ⟨_, rfl⟩
      subst hwo
      go_loopw [43] (fun iv wr => ∃ j : Nat, j ≤ n' ∧ iv = .int .i64 j ∧ Hid (∃ S, ViewAt wr X v m c S ∧ ManyS S (30 + 8 * j) ∧ Below w.heap.size w wr)) (fun iv _ => n' - (intOf iv).toNat)
      case atStart => exact ⟨0, Nat.zero_le _, rfl, H1⟩
      case round =>
        clear H1
        obtain ⟨j, hj, rfl, HM⟩ := hrel
        by_cases hlt : j < n'
        · have hlt' : (j : Int) < (n' : Int) := by omega
          obtain ⟨S, hvw, hfs, hbw⟩ := HM.out
          obtain ⟨d, hd⟩ : ∃ d, l'[j]? = some d := ⟨_, List.getElem?_eq_getElem (by rw [HR'.out.len]; exact hlt)⟩
          have hdok := HR'.out.ok d (List.mem_of_getElem? hd)
          obtain ⟨b, off, rfl, hb, c0, c1, c2, c3⟩ := do29_at (HR'.out.below hbw) hd
          obtain ⟨w4, hw4⟩ : ∃ w4, w4 = wr.alloc (.cells #[.int .i64 d.i, .int .i64 d.p, .int .i64 d.e, .int .i64 d.q] 36 (0, 0)) := ⟨_, rfl⟩
          have hb4 : Below wr.heap.size wr w4 := by rw [hw4]; exact (Below.refl _ _).alloc (Nat.le_refl _) _
          have hs4 : w4.heap.size = wr.heap.size + 1 := by rw [hw4]; simp
          have hblk : w4.heap[wr.heap.size]? = some (.cells #[.int .i64 d.i, .int .i64 d.p, .int .i64 d.e, .int .i64 d.q] 36 (0, 0)) := by rw [hw4]; exact heap_alloc_new wr _
          have hlen : S.W.length + S.C.length ≤ 300 := Nat.le_trans hfs.len (by omega)
          have HCM := Lib.hid (vCommit_any (hvw.below hb4) (by omega) (fun p hp => Nat.le_trans (hfs.ck p hp) (by decide)) (by omega))
          have HFS := Lib.hid hfs.commit
          have HB4 := Lib.hid (hbw.trans (hb4.mono hbw.size))
          have HXW := Lib.hid (show ¬ (wr.heap.size = m ∨ wr.heap.size = c) from by
            have h1 := hvw.lt m hvw.xm
            have h2 := hvw.lt c hvw.xc
            omega)
          have HBK := Lib.hid (And.intro hblk hs4)
          have HDO := Lib.hid hdok
          clear hvw hfs hbw hd hdok hb4 hb hblk hs4 hlen HM
          go_wp2_with fail
          rw [← hw4]
          clear hw4
          refine HCM.out.mono ?_
          rintro e w5 ⟨rfl, h5, t5⟩
          have hblk5 : w5.heap[wr.heap.size]? = some (.cells #[.int .i64 d.i, .int .i64 d.p, .int .i64 d.e, .int .i64 d.q] 36 (0, 0)) := (t5.block _ (by have := HBK.out.2; omega) HXW.out).trans HBK.out.1
          have hb5 : Below w.heap.size w w5 := HB4.out.trans (t5.below (fun k hk => by rcases hk with hk | hk; rw [hk]; exact HC.out.1; rw [hk]; exact HC.out.2) HB4.out.size)
          have HAL := Lib.hid (scansM h5 HFS.out (by omega) 2020 (by unfold Nd64; omega))
          have HV5 := Lib.hid h5
          have HB5 := Lib.hid hb5
          have HBK5 := Lib.hid (And.intro hblk5 (show wr.heap.size < w5.heap.size from Nat.lt_of_lt_of_le (by have := HBK.out.2; omega) t5.size))
          clear h5 t5 hblk5 hb5 HCM HBK c0 c1 c2 c3 HB4
          go_wp2_with fail
          refine HAL.out.mono ?_
          rintro e w6 ⟨u, rfl, h6⟩
          obtain ⟨A6, k6, rfl, hk6, hr6⟩ := h6.read
          have hblk6 := (h6.2.2.block _ HBK5.out.2).trans HBK5.out.1
          have d0 : w6.cell? ⟨wr.heap.size, 0, none⟩ = some (.int .i64 d.i) := by rw [cell_of_row w6 _ 0 _ _ (0, 0) hblk6]; rfl
          have d1 : w6.cell? ⟨wr.heap.size, 1, none⟩ = some (.int .i64 d.p) := by rw [cell_of_row w6 _ 1 _ _ (0, 0) hblk6]; rfl
          have d2 : w6.cell? ⟨wr.heap.size, 2, none⟩ = some (.int .i64 d.e) := by rw [cell_of_row w6 _ 2 _ _ (0, 0) hblk6]; rfl
          have d3 : w6.cell? ⟨wr.heap.size, 3, none⟩ = some (.int .i64 d.q) := by rw [cell_of_row w6 _ 3 _ _ (0, 0) hblk6]; rfl
          have hv6 := HV5.out.below h6.2.2
          have hlc : S.commit.C.length ≤ 1000000 := by show 0 ≤ 1000000; omega
          have HCH := charge_any hv6 2020 d.i d.p d.e d.q (by unfold Nd64; omega) (HDO.out _ (by simp)) (HDO.out _ (by simp)) (HDO.out _ (by simp)) (HDO.out _ (by simp)) hlc
          have hmc := many_charge HFS.out 2020 d.i d.p d.e d.q
          have hhold := fun (wn : Bool) (S' : VS) (h : chargeR S.commit 2020 d.i d.p d.e d.q = ((wn, 0), S')) => charge_holds (S := S.commit) hv6.ok (y := 2020) (fun n i h => hv6.nodeOk h) h
          have HR6 := Lib.hid (And.intro h6.1 (And.intro h6.2.1 (HV5.out.lt c HV5.out.xc)))
          have HB6 := Lib.hid (HB5.out.trans (h6.2.2.mono HB5.out.size))
          generalize chargeR S.commit 2020 d.i d.p d.e d.q = R at HCH hmc hhold
          obtain ⟨⟨wn, er⟩, S'⟩ := R
          generalize allN S.commit 2020 = L1 at HR6 hhold hk6 ⊢
          simp only at HCH hmc
          have HCH := Lib.hid HCH
          have HMC := Lib.hid hmc
          have HHOLD := Lib.hid hhold
          have HC6 := Lib.hid (And.intro (hv6.lt m hv6.xm) (hv6.lt c hv6.xc))
          clear h6 hr6 hblk6 hv6 hmc hhold HAL HV5 HB5 HBK5 HFS hlc
          go_wp2_with fail
          refine HCH.out.mono ?_
          rintro e w7 ⟨rfl, h7, t7⟩
          have hb67 : Below w6.heap.size w6 w6 := Below.refl _ _
          have hb7 : Below w.heap.size w w7 := HB6.out.trans (t7.below (fun k hk => by rw [hk]; exact HC.out.2) HB6.out.size)
          clear HCH d0 d1 d2 d3 hb67
          by_cases h0 : er = 0
          · subst h0
            obtain ⟨_, hlen, hold⟩ := HHOLD.out wn S' rfl
            have HAL := Lib.hid (scansM h7 HMC.out (by omega) 2020 (by unfold Nd64; omega))
            have ho7 : NdE.Own 23 w7 w5.heap.size (.slice A6 L1.length k6) L1 := HR6.out.1.stays fun g hg => t7.block g (HR6.out.1.at_ g hg).2 (fun e => by have := (HR6.out.1.at_ g hg).1; have := HR6.out.2.2; omega)
            obtain ⟨_, _, hr7⟩ := ho7.read HR6.out.2.1
            have HR7 := Lib.hid hr7
            have HV7 := Lib.hid (And.intro h7 HMC.out)
            have HB7 := Lib.hid hb7
            have HLEN := Lib.hid hlen
            have HOLD := Lib.hid hold
            clear ho7 hr7 h7 t7 hb7 hlen hold HHOLD HMC HR6 HC6
            have hl2 : (allN S' 2020).length ≤ 1000 := Nat.le_trans (many_all HV7.out.2 2020) (by omega)
            generalize allN S' 2020 = L2 at HAL HLEN HOLD hl2
            go_wp2_with fail
            refine HAL.out.mono ?_
            rintro e w8 ⟨u, rfl, h8⟩
            obtain ⟨A8, k8, rfl, hk8, hr8⟩ := h8.read
            have HR8 := Lib.hid hr8
            have HRW := Lib.hid ((HR7.out.below h8.2.2).more h8.2.2.size)
            have HV8 := Lib.hid (show ViewAt w8 X v m c S' ∧ ManyS S' (30 + 8 * (j + 1)) ∧ Below w.heap.size w w8 from ⟨HV7.out.1.below h8.2.2, HV7.out.2.more (by omega), HB7.out.trans (h8.2.2.mono HB7.out.size)⟩)
            clear h8 hr8 HAL HR7 HV7 HB7
            go_wp2_with fail
            obtain ⟨wo, hwo⟩ : ∃ wo, wo = wr := ⟨_, rfl⟩
            subst hwo
            go_loopw [71] (fun iv wr => ∃ i : Nat, i ≤ L2.length ∧ iv = .int .i64 i ∧ Hid (Below w8.heap.size w8 wr)) (fun iv _ => L2.length - (intOf iv).toNat)
            case atStart => exact ⟨0, Nat.zero_le _, rfl, Lib.hid (Below.refl _ _)⟩
            case round =>
              obtain ⟨i, hi, rfl, hbi⟩ := hrel
              by_cases hil : i < L2.length
              · have hil' : (i : Int) < (L2.length : Int) := by omega
                have hil2 : (i : Int) < (L1.length : Int) := by have := HLEN.out; omega
                have hi0 : (0 : Int) ≤ (i : Int) := by omega
                have HIL := Lib.hid (show i + 1 ≤ L2.length from hil)
                obtain ⟨b, hb⟩ : ∃ x, L2[i]? = some x := ⟨_, List.getElem?_eq_getElem hil⟩
                obtain ⟨a, ha⟩ : ∃ x, L1[i]? = some x := ⟨_, List.getElem?_eq_getElem (by have := HLEN.out; omega)⟩
                have HHO := Lib.hid (HOLD.out i a b ha hb)
                obtain ⟨b8, off8, rfl, hb8, hat8⟩ := nd_at (HR8.out.below hbi.out) hb
                obtain ⟨c0, c1, c2, c3, c4, c5, c6, c7, c8, c9, c10, c11⟩ := ndAt hat8
                obtain ⟨b6, off6, rfl, hb6, hat6⟩ := nd_at HRW.out ha
                obtain ⟨wb, hwb⟩ : ∃ wb, wb = wr.alloc (.cells #[.int .i64 b.y, .int .i64 b.i, .int .i64 b.p, .int .i64 b.f, .int .i64 b.o, .bool b.ab, .int .i64 b.li, .int .i64 b.pr, .int .i64 b.en, .int .i64 b.ex, .int .i64 b.la, .int .i64 b.ca] 23 (0, 0)) := ⟨_, rfl⟩
                have hbb : Below wr.heap.size wr wb := by rw [hwb]; exact (Below.refl _ _).alloc (Nat.le_refl _) _
                have hblk : wb.heap[wr.heap.size]? = some (.cells #[.int .i64 b.y, .int .i64 b.i, .int .i64 b.p, .int .i64 b.f, .int .i64 b.o, .bool b.ab, .int .i64 b.li, .int .i64 b.pr, .int .i64 b.en, .int .i64 b.ex, .int .i64 b.la, .int .i64 b.ca] 23 (0, 0)) := by rw [hwb]; exact heap_alloc_new wr _
                have hsz : wb.heap.size = wr.heap.size + 1 := by rw [hwb]; simp
                have H1 := Lib.hid (show ∀ W, Below wb.heap.size wb W → W.cell? ⟨wr.heap.size, 0, none⟩ = some (.int .i64 b.y) ∧ W.cell? ⟨wr.heap.size, 1, none⟩ = some (.int .i64 b.i) ∧ W.cell? ⟨wr.heap.size, 2, none⟩ = some (.int .i64 b.p) ∧ W.cell? ⟨wr.heap.size, 3, none⟩ = some (.int .i64 b.f) ∧ W.cell? ⟨wr.heap.size, 4, none⟩ = some (.int .i64 b.o) ∧ W.cell? ⟨wr.heap.size, 5, none⟩ = some (.bool b.ab) ∧ W.cell? ⟨wr.heap.size, 6, none⟩ = some (.int .i64 b.li) ∧ W.cell? ⟨wr.heap.size, 7, none⟩ = some (.int .i64 b.pr) ∧ W.cell? ⟨wr.heap.size, 8, none⟩ = some (.int .i64 b.en) ∧ W.cell? ⟨wr.heap.size, 9, none⟩ = some (.int .i64 b.ex) ∧ W.cell? ⟨wr.heap.size, 10, none⟩ = some (.int .i64 b.la) ∧ W.cell? ⟨wr.heap.size, 11, none⟩ = some (.int .i64 b.ca) from fun W hW => node_cells ((hW.block wr.heap.size (by omega)).trans hblk))
                have H2 := Lib.hid (show ∀ W, Below wb.heap.size wb W → W.cell? ⟨b6, off6 + i * 12, none⟩ = some (.int .i64 a.y) ∧ W.cell? ⟨b6, off6 + i * 12 + 1, none⟩ = some (.int .i64 a.i) ∧ W.cell? ⟨b6, off6 + i * 12 + 2, none⟩ = some (.int .i64 a.p) ∧ W.cell? ⟨b6, off6 + i * 12 + 3, none⟩ = some (.int .i64 a.f) ∧ W.cell? ⟨b6, off6 + i * 12 + 4, none⟩ = some (.int .i64 a.o) ∧ W.cell? ⟨b6, off6 + i * 12 + 5, none⟩ = some (.bool a.ab) ∧ W.cell? ⟨b6, off6 + i * 12 + 6, none⟩ = some (.int .i64 a.li) ∧ W.cell? ⟨b6, off6 + i * 12 + 7, none⟩ = some (.int .i64 a.pr) ∧ W.cell? ⟨b6, off6 + i * 12 + 8, none⟩ = some (.int .i64 a.en) ∧ W.cell? ⟨b6, off6 + i * 12 + 9, none⟩ = some (.int .i64 a.ex) ∧ W.cell? ⟨b6, off6 + i * 12 + 10, none⟩ = some (.int .i64 a.la) ∧ W.cell? ⟨b6, off6 + i * 12 + 11, none⟩ = some (.int .i64 a.ca) from fun W hW => by
                  have hbw : Below w8.heap.size w8 W := hbi.out.trans ((hbb.trans (hW.mono hbb.size)).mono hbi.out.size)
                  exact ndAt (fun k hk => (hbw.cell (p := ⟨b6, off6 + i * 12 + k, none⟩) hb6).trans (hat6 k hk)))
                have HBW := Lib.hid (show ∀ W, Below wb.heap.size wb W → Below w8.heap.size w8 W from fun W hW => hbi.out.trans ((hbb.trans (hW.mono hbb.size)).mono hbi.out.size))
                have HUB := Lib.hid (fun W => used_any b W)
                have HUA := Lib.hid (fun W => used_any a W)
                clear hat8 hat6 hb8 hb6 ha hb hblk hsz hbb hbi
                go_wp2_with fail
                rw [← hwb]
                clear hwb c0 c1 c2 c3 c4 c5 c6 c7 c8 c9 c10 c11
                have c5 := H1.out _ ((Below.refl wb.heap.size wb).drew)
                go_region_held3 (fun W => W.cell? ⟨wr.heap.size, 0, none⟩ = some (.int .i64 b.y) ∧ W.cell? ⟨wr.heap.size, 1, none⟩ = some (.int .i64 b.i) ∧ W.cell? ⟨wr.heap.size, 2, none⟩ = some (.int .i64 b.p) ∧ W.cell? ⟨wr.heap.size, 3, none⟩ = some (.int .i64 b.f) ∧ W.cell? ⟨wr.heap.size, 4, none⟩ = some (.int .i64 b.o) ∧ W.cell? ⟨wr.heap.size, 5, none⟩ = some (.bool b.ab) ∧ W.cell? ⟨wr.heap.size, 6, none⟩ = some (.int .i64 b.li) ∧ W.cell? ⟨wr.heap.size, 7, none⟩ = some (.int .i64 b.pr) ∧ W.cell? ⟨wr.heap.size, 8, none⟩ = some (.int .i64 b.en) ∧ W.cell? ⟨wr.heap.size, 9, none⟩ = some (.int .i64 b.ex) ∧ W.cell? ⟨wr.heap.size, 10, none⟩ = some (.int .i64 b.la) ∧ W.cell? ⟨wr.heap.size, 11, none⟩ = some (.int .i64 b.ca))
                  (first | with_reducible exact c5 | exact c5)
                  (first | (go_at_call 15; refine Calls.mono (HUB.out _) ?_; rintro e wk ⟨rfl, hbk⟩; have hbk := ((Below.refl wb.heap.size wb).drew).trans hbk; have c5 := H1.out _ hbk))
                have HBK := Lib.hid hbk
                obtain ⟨Bb, hBb⟩ : ∃ B, B = decide (b.li < usedN b) := ⟨_, rfl⟩
                rw [← hBb]
                have HBb := Lib.hid hBb
                clear hBb c5
                have c6 := H2.out _ hbk.drew
                clear hbk
                go_wp2_with fail
                go_region_held3 (fun W => W.cell? ⟨b6, off6 + i * 12, none⟩ = some (.int .i64 a.y) ∧ W.cell? ⟨b6, off6 + i * 12 + 1, none⟩ = some (.int .i64 a.i) ∧ W.cell? ⟨b6, off6 + i * 12 + 2, none⟩ = some (.int .i64 a.p) ∧ W.cell? ⟨b6, off6 + i * 12 + 3, none⟩ = some (.int .i64 a.f) ∧ W.cell? ⟨b6, off6 + i * 12 + 4, none⟩ = some (.int .i64 a.o) ∧ W.cell? ⟨b6, off6 + i * 12 + 5, none⟩ = some (.bool a.ab) ∧ W.cell? ⟨b6, off6 + i * 12 + 6, none⟩ = some (.int .i64 a.li) ∧ W.cell? ⟨b6, off6 + i * 12 + 7, none⟩ = some (.int .i64 a.pr) ∧ W.cell? ⟨b6, off6 + i * 12 + 8, none⟩ = some (.int .i64 a.en) ∧ W.cell? ⟨b6, off6 + i * 12 + 9, none⟩ = some (.int .i64 a.ex) ∧ W.cell? ⟨b6, off6 + i * 12 + 10, none⟩ = some (.int .i64 a.la) ∧ W.cell? ⟨b6, off6 + i * 12 + 11, none⟩ = some (.int .i64 a.ca))
                  (first | with_reducible exact c6 | exact c6)
                  (first | (go_at_call 15; refine Calls.mono (HUA.out _) ?_; rintro e wl ⟨rfl, hbl⟩; have hbl := HBK.out.trans ((((Below.refl wk.heap.size wk).drew).trans hbl).mono HBK.out.size); have c6 := H2.out _ hbl))
                have HBL := Lib.hid hbl
                obtain ⟨Ba, hBa⟩ : ∃ B, B = decide (a.li < usedN a) := ⟨_, rfl⟩
                rw [← hBa]
                have HK := Lib.hid (show Bb = true → Ba = false → b.ab = false ∧ wn = true from fun h g => HHO.out (by have := HBb.out; rw [h] at this; exact of_decide_eq_true this.symm) (by rw [g] at hBa; have := of_decide_eq_false hBa.symm; exact this))
                obtain ⟨_, _, _, _, _, c5, _⟩ := H1.out _ hbl
                have HJ := Lib.hid (HBW.out _ hbl)
                clear hBa c6 hbl HHO HBb HBK HBL HUA HUB H1 H2 HBW
                generalize b.ab = ab at c5 HK
                cases Bb with
                | false =>
                  clear HK
                  cases ab with
                  | false =>
                    go_wp2_with fail
                    go_roundw
                    case rel => exact ⟨i + 1, HIL.out, by go_num, HJ⟩
                    case measure => (simp [intOf]; have := HIL.out; omega)
                  | true =>
                    go_wp2_with fail
                    go_roundw
                    case rel => exact ⟨i + 1, HIL.out, by go_num, HJ⟩
                    case measure => (simp [intOf]; have := HIL.out; omega)
                | true =>
                  cases Ba with
                  | true =>
                    clear HK
                    cases ab with
                    | false =>
                      go_wp2_with fail
                      go_roundw
                      case rel => exact ⟨i + 1, HIL.out, by go_num, HJ⟩
                      case measure => (simp [intOf]; have := HIL.out; omega)
                    | true =>
                      go_wp2_with fail
                      go_roundw
                      case rel => exact ⟨i + 1, HIL.out, by go_num, HJ⟩
                      case measure => (simp [intOf]; have := HIL.out; omega)
                  | false =>
                    obtain ⟨rfl, rfl⟩ := HK.out rfl rfl
                    go_wp2_with fail
                    go_roundw
                    case rel => exact ⟨i + 1, HIL.out, by go_num, HJ⟩
                    case measure => (simp [intOf]; have := HIL.out; omega)
              · obtain rfl : i = L2.length := by omega
                have HJ := Lib.hid (show ∃ S, ViewAt wr X v m c S ∧ ManyS S (30 + 8 * (j + 1)) ∧ Below w.heap.size w wr from ⟨_, HV8.out.1.below hbi.out, HV8.out.2.1, HV8.out.2.2.trans (hbi.out.mono HV8.out.2.2.size)⟩)
                go_wp2_with fail
                go_roundw
                case rel => exact ⟨j + 1, by omega, by go_num, HJ⟩
                case measure => simp [intOf]; omega
          · have k1 : (er != 0) = true := by simp [h0]
            have HAB := Lib.hid (vAbort_any h7)
            have HMA := Lib.hid HMC.out.abort
            have HB7 := Lib.hid hb7
            clear h7 t7 hb7 h0 HHOLD HMC
            go_wp2_with fail
            refine HAB.out.mono ?_
            rintro e w8 ⟨rfl, h8, t8⟩
            have HJ := Lib.hid (show ∃ S, ViewAt w8 X v m c S ∧ ManyS S (30 + 8 * (j + 1)) ∧ Below w.heap.size w w8 from ⟨_, h8, HMA.out.more (by omega), HB7.out.trans (t8.below (fun k hk => by rw [hk]; exact HC.out.2) HB7.out.size)⟩)
            clear h8 t8 HAB HMA
            go_wp2_with fail
            go_roundw
            case rel => exact ⟨j + 1, by omega, by go_num, HJ⟩
            case measure => simp [intOf]; omega
        · obtain rfl : j = n' := by omega
          obtain ⟨S, hvw, hfs, hbw⟩ := HM.out
          have HA := Lib.hid (ctlAwake_any wr)
          have HB := Lib.hid hbw
          clear hvw hfs hbw HM
          go_wp2_with fail
          refine HA.out.mono ?_
          rintro e w' ⟨rfl, hb⟩
          have HE := Lib.hid (HB.out.trans (hb.mono HB.out.size))
          clear hb
          go_wp2_with fail
          go_ret
          exact ⟨rfl, HE.out⟩
end Go.Proofs.YtlpjggilkfpleaaGreat
