/-
  The texts RunA, PreE, PreF, PreG joined. Conditions: those that each part says at its head.
-/
import Derived.Test.YtlcbmobdokicaaaGreatBase
import Derived.Lib.AppendZeros
import Derived.Test.YtlcbmobdokicaaaGreatCtlR
import Derived.Test.YtlcbmobdokicaaaGreatPreD

/-
  append in a region that draws, by its run. No condition.
-/
namespace Go.Proofs.YtlcbmobdokicaaaGreat
open Go.RowKit
set_option maxRecDepth 100000
set_option linter.unusedVariables false

theorem step_runA {P : Program} {ops : Array Oper} {o : Oper} {a : Act} {w : World} {K : Act → World → Prop} {Q : Exit → Act → World → Prop} {E : Prop} (hgd : o.guard = none) (s x : Operand) (t tn : TypeId)
    (ho : o.op = .call { callee := .builtin .append, args := #[s, x], argTypes := #[t, tn] }) (v u : Value) (hs : a.eval s = v) (hx : a.eval x = u) {v' : Value} {w' : World}
    (hrun : (Builtin.append_ #[t, tn] o.type #[v, u]).run P w = .ok v' w') (h : K (a.put o.dst v') w') :
    if Region.wanted o (yielded ops a.tmps) = true then Oper.wp P o a w K Q else E := by
  have hw : Region.wanted o (yielded ops a.tmps) = true := by simp [Region.wanted, hgd]
  rw [if_pos hw]
  exact Lib.wp_append_run w s x t tn ho v u hs hx _ _ hrun h

end Go.Proofs.YtlcbmobdokicaaaGreat

/-
  The document's pre-encumbrances by contract over its own view: Check, First, Lines, Charge, New. What an error leaves is not said, but that nothing is committed. Condition: which numbers are ints.
-/
namespace Go.Proofs.YtlcbmobdokicaaaGreat
open Go.RowKit Go.Maps
set_option maxRecDepth 100000
set_option linter.unusedVariables false

set_option maxHeartbeats 3200000 in
theorem rPreCheck_any {w : World} {B n : Nat} {A : Option Addr} {ps : List Ln} (c : Nat) (hr : RL w B A n ps) (hm : n ≤ maxLen) :
    Calls Tryz.prog 13 #[.slice A n c] w fun e w' => e = .returned (.int .i64 (preChk ps)) ∧ w = w' := by
  have hs : preChk ps = if n < 1 ∨ n > 6 ∨ ps.any badA = true then 1 else 0 := by unfold preChk; rw [hr.1]; rfl
  have HR := Lib.hid hr
  obtain ⟨pc, hpc⟩ : ∃ pc, pc = preChk ps := ⟨_, rfl⟩
  rw [← hpc] at hs ⊢
  clear hpc hr
  have E := Lib.hid hs
  clear hs
  unfold maxLen at hm
  by_cases h : n < 1
  · have k0 : decide ((n : Int) < 1) = true := decide_eq_true (by omega)
    obtain rfl := E.out.trans (if_pos (.inl h))
    clear h E
    go_enter Tryz.func13, Tryz.ntmps13
    go_wp2_with fail
    go_ret
    exact ⟨rfl, rfl⟩
  · have k0 : decide ((n : Int) < 1) = false := decide_eq_false (by omega)
    by_cases h6 : n > 6
    · have k1 : decide ((n : Int) > 6) = true := decide_eq_true (by omega)
      obtain rfl := E.out.trans (if_pos (.inr (.inl h6)))
      clear h h6 E
      go_enter Tryz.func13, Tryz.ntmps13
      go_wp2_with fail
      go_ret
      exact ⟨rfl, rfl⟩
    · have k1 : decide ((n : Int) > 6) = false := decide_eq_false (by omega)
      have E1 := Lib.hid (fun hb : ps.any badA = true => E.out.trans (if_pos (.inr (.inr hb))))
      have E2 := Lib.hid (fun hb : ps.any badA = false => E.out.trans (if_neg (by rintro (a | a | a); exact h a; exact h6 a; rw [hb] at a; cases a)))
      have H6 := Lib.hid (show n ≤ 6 by omega)
      clear E h h6
      go_enter Tryz.func13, Tryz.ntmps13
      go_wp2_with fail
      go_loop [3] (fun i => ∃ j : Nat, j ≤ n ∧ i = .int .i64 j ∧ Hid (∀ (m : Nat) (y : Ln), m < j → ps[m]? = some y → badA y = false)) (fun i => n - (intOf i).toNat)
      case atStart => exact ⟨0, Nat.zero_le _, rfl, Lib.hid (fun m y hm => absurd hm (by omega))⟩
      case round =>
        obtain ⟨j, hj, rfl, hbef⟩ := hrel
        by_cases hlt : j < n
        · have hlt' : (j : Int) < (n : Int) := by omega
          obtain ⟨b, off, rfl, hb, hat⟩ := HR.out.2.2 (by omega)
          obtain ⟨y, hy⟩ : ∃ y, ps[j]? = some y := ⟨_, List.getElem?_eq_getElem (by rw [HR.out.1]; exact hlt)⟩
          obtain ⟨c0, c1, c2, c3⟩ := hat j y hy
          have HF := Lib.hid (ramtRight_any y.a w)
          have HY := Lib.hid hy
          have hbd : badA y = !amtRightB y.a := rfl
          cases hk : amtRightB y.a with
          | true =>
            rw [hk] at HF hbd
            have hn := Lib.hid (fun (m : Nat) (z : Ln) (hm : m < j + 1) => show ps[m]? = some z → badA z = false by
              intro hz
              rcases Nat.lt_or_ge m j with h | h
              · exact hbef.out m z h hz
              · obtain rfl : m = j := by omega
                rw [HY.out] at hz
                cases hz
                exact hbd)
            clear hk hbd hat hy
            go_wp2_with fail
            refine HF.out.mono ?_
            rintro e w' ⟨rfl, rfl⟩
            clear c0 c1 c2 c3
            go_wp2_with fail
            go_round
            case rel => exact ⟨j + 1, by omega, by go_num, hn⟩
            case measure => simp [intOf]; omega
          | false =>
            rw [hk] at HF hbd
            obtain rfl := E1.out (List.any_eq_true.2 ⟨y, List.mem_of_getElem? hy, hbd⟩)
            clear hk hbd hat hy
            go_wp2_with fail
            refine HF.out.mono ?_
            rintro e w' ⟨rfl, rfl⟩
            clear c0 c1 c2 c3
            go_wp2_with fail
            go_ret
            exact ⟨rfl, rfl⟩
        · obtain rfl : j = n := by omega
          obtain rfl := E2.out (List.any_eq_false.2 (fun y hy => by
            obtain ⟨k, hk, rfl⟩ := List.getElem_of_mem hy
            rw [hbef.out k _ (by rw [HR.out.1] at hk; exact hk) (List.getElem?_eq_getElem hk)]
            decide))
          go_wp2_with fail
          go_ret
          exact ⟨rfl, rfl⟩
set_option maxHeartbeats 6400000 in
theorem rLines_any {w : World} {B n : Nat} {A : Option Addr} {l : List Ln} (cap : Nat) (hr : RL w B A n l) (hB : B ≤ w.heap.size) (hm : n ≤ 1000) :
    Calls Tryz.prog 39 #[.slice A n cap] w fun e w' => ∃ u, e = .returned u ∧ DlE.Own 58 w' w.heap.size u (l.map lineD) ∧ Below w.heap.size w w' := by
  have HR := Lib.hid hr
  clear hr
  go_enter Tryz.func39, Tryz.ntmps39
  go_wp2_with fail
  go_loopw [3, 4] (fun uv iv wr => ∃ j : Nat, j ≤ n ∧ iv = .int .i64 j ∧ (∃ A' k', uv = .slice A' j k') ∧ Hid (DlE.Own 58 wr w.heap.size uv ((l.take j).map lineD) ∧ Below w.heap.size w wr)) (fun _ iv _ => n - (intOf iv).toNat)
  case atStart => exact ⟨0, Nat.zero_le _, rfl, ⟨none, 0, rfl⟩, Lib.hid ⟨Enc.Own.start _ _ _, Below.refl _ _⟩⟩
  case round =>
    obtain ⟨j, hj, rfl, ⟨A', k', rfl⟩, HJ⟩ := hrel
    by_cases hlt : j < n
    · have hlt' : (j : Int) < (n : Int) := by omega
      have hj0 : (0 : Int) ≤ (j : Int) := by omega
      obtain ⟨hown, hbw⟩ := HJ.out
      obtain ⟨x, hx⟩ : ∃ x, l[j]? = some x := ⟨_, List.getElem?_eq_getElem (by rw [HR.out.1]; exact hlt)⟩
      have hxok := HR.out.2.1 x (List.mem_of_getElem? hx)
      obtain ⟨b, off, rfl, hb, hat⟩ := (HR.out.below (hbw.mono hB)).2.2 (by omega)
      obtain ⟨c0, c1, c2, c3⟩ := hat j x hx
      have hd := (Below.refl wr.heap.size wr).drew
      have d2 : wr.drew.cell? ⟨b, off + j * 4 + 2, none⟩ = some (.int .i64 x.n) := c2
      have d3 : wr.drew.cell? ⟨b, off + j * 4 + 3, none⟩ = some (.int .i64 x.a) := c3
      have htk : ((l.take j).map lineD).length = j := by rw [List.length_map, List.length_take]; have := HR.out.1; omega
      have hb5 : Below wr.heap.size wr (wr.alloc (.cells #[.int .i64 x.n, .int .i64 x.a, .int .i64 0, .int .i64 0] 58)).drew := ((Below.refl _ _).alloc (Nat.le_refl _) _).drew
      obtain ⟨v', w6, hrun, hown6, hb6, hgr, hgn⟩ := (hown.below hb5).append1 DlT (x := ⟨x.n, x.a, 0, 0⟩) (heap_alloc_new wr _) rfl (lineD_ok hxok) (by omega) (Nat.le_trans hbw.size hb5.size) 52
      obtain ⟨A6, k6, rfl, hk6⟩ := hown6.shape
      have hl6 : ((l.take j).map lineD ++ [(⟨x.n, x.a, 0, 0⟩ : Dl)]).length = j + 1 := by rw [List.length_append, htk]; rfl
      rw [hl6] at hrun hown6
      have HRUN := Lib.hid hrun
      have HJ2 := Lib.hid (show DlE.Own 58 w6 w.heap.size (.slice A6 (j + 1) k6) ((l.take (j + 1)).map lineD) ∧ Below w.heap.size w w6 from ⟨by rw [snoc_map (f := lineD) hx]; exact hown6, (hbw.trans (hb5.mono hbw.size)).trans hb6⟩)
      clear hown hbw hx hxok hat hb htk hb5 hrun hown6 hk6 hl6 hb6 hgr hgn HJ hd
      go_wp2_with fail
      go_region_law (refine step_runA rfl (.tmp 11) (.tmp 23) _ _ rfl _ _ (by rfl) (by rfl) HRUN.out ?_)
      all_goals
        clear HRUN c0 c1 c2 c3 d2 d3
        go_wp2_with fail
        go_roundw
        case rel => exact ⟨j + 1, by omega, by go_num, ⟨A6, k6, rfl⟩, HJ2⟩
        case measure => simp [intOf]; omega
    · obtain rfl : j = n := by omega
      have htk : l.take j = l := List.take_of_length_le (by have := HR.out.1; omega)
      have hj := HJ.out
      rw [htk] at hj
      have HE := Lib.hid hj
      clear HJ hj htk
      go_wp2_with fail
      go_ret
      exact ⟨_, rfl, HE.out⟩
end Go.Proofs.YtlcbmobdokicaaaGreat

/-
  The document's pre-encumbrances by contract: First, Charge of lines, New. What an error leaves is not said, but that nothing is committed. Condition: which numbers are ints.
-/
namespace Go.Proofs.YtlcbmobdokicaaaGreat
open Go.RowKit Go.Maps
set_option maxRecDepth 100000
set_option linter.unusedVariables false

/-- A line's charge, so many times its amount. -/
def chgL (p e q : Int) (z : Dl) : Chg := ⟨z.nd, wrap64 (p * z.o), wrap64 (e * z.o), wrap64 (q * z.o)⟩
theorem wrap_int {a : Int} (h : Nd64 a) : wrap64 a = a := by unfold Nd64 at h; unfold wrap64; omega
theorem chgL_pre {x : Ln} (h : LnOk x) : chgL 1 0 0 (lineD x) = preC x := by
  unfold chgL preC lineD
  simp only [Int.one_mul, Int.zero_mul]
  rw [wrap_int h.2.2.2, wrap_int (a := 0) (by unfold Nd64; omega)]
theorem chgL_pres {l : List Ln} (h : ∀ x ∈ l, LnOk x) : (l.map lineD).map (chgL 1 0 0) = l.map preC := by
  rw [List.map_map]
  exact List.map_congr_left fun x hx => chgL_pre (h x hx)
/-- What charges of lines answer, and leave. -/
def ChgsDone (w w' : World) (X : Nat → Prop) (x p q r : Nat) (a : TL) (N : Nat) (S : VS) (R : (Bool × Int) × VS) (u : Ending) : Prop :=
  ∃ (b : Bool) (T : VS), u = .returned (.tuple #[.bool b, .int .i64 R.1.2]) ∧ (R.1.2 = 0 → b = R.1.1 ∧ T = R.2) ∧ RefS w' X x p q r a T N ∧ ManyS T N ∧ T.W = S.W ∧ Touch (fun k => k = q ∨ k = r) w w'
/-- What New answers, and leaves. -/
def NewDone (w w' : World) (X : Nat → Prop) (x p q r : Nat) (a : TL) (N : Nat) (S : VS) (R : (Int × Bool × Int) × VS) (u : Ending) : Prop :=
  ∃ T : VS, u = .returned (.tuple #[.int .i64 R.1.1, .bool R.1.2.1, .int .i64 R.1.2.2]) ∧ (R.1.2.2 = 0 → T = R.2) ∧ RefS w' X x p q r a T N ∧ ManyS T N ∧ T.W = S.W ∧ Touch (fun k => k = q ∨ k = r) w w'
section
variable {w w' : World} {X : Nat → Prop} {x p q r N : Nat} {a : TL} {S : VS}
theorem ryCheckS_any (h : RefS w X x p q r a S N) (hN : N ≤ 1000000000) (y : Int) (hy : Nd64 y) :
    Calls Tryz.prog 77 #[.pointer (some ⟨x, 0, none⟩), .int .i64 y] w fun e w' => e = .returned (.int .i64 (yChk S y)) ∧ Below w.heap.size w w' := by
  obtain ⟨b, d, h1, h2, h3, h4⟩ := h
  have := ryCheck_any h1 (Nat.le_trans h3 (by omega)) y hy
  rwa [h2.now] at this
theorem rFirst_any (h : RefS w X x p q r a S N) (hN : N ≤ 1000000000) (y : Int) (hy : Nd64 y) {A : Option Addr} {n cap : Nat} {l : List Ln} (hl : ∀ W, Below w.heap.size w W → RL W W.heap.size A n l) (hn : n ≤ maxLen) :
    Calls Tryz.prog 38 #[.pointer (some ⟨x, 0, none⟩), .int .i64 y, .slice A n cap] w fun e w' => e = .returned (.int .i64 (if yChk S y = 0 then preChk l else yChk S y)) ∧ Below w.heap.size w w' := by
  have HY := Lib.hid (ryCheckS_any h hN y hy)
  have HC := Lib.hid (fun W (hW : Below w.heap.size w W) => rPreCheck_any cap (hl W hW) hn)
  clear h hl
  generalize yChk S y = yc at HY ⊢
  generalize preChk l = pc at HC ⊢
  by_cases h0 : yc = 0
  · subst h0
    rw [if_pos rfl]
    go_enter Tryz.func38, Tryz.ntmps38
    go_wp2_with fail
    refine HY.out.mono ?_
    rintro e w2 ⟨rfl, h2⟩
    have HC2 := Lib.hid (HC.out w2 h2)
    have H2 := Lib.hid h2
    clear h2 HC HY
    go_wp2_with fail
    refine HC2.out.mono ?_
    rintro e w' ⟨rfl, rfl⟩
    go_wp2_with fail
    go_ret
    exact ⟨rfl, H2.out⟩
  · rw [if_neg h0]
    have k1 : (yc != 0) = true := by simp [h0]
    clear h0 HC
    go_enter Tryz.func38, Tryz.ntmps38
    go_wp2_with fail
    refine HY.out.mono ?_
    rintro e w2 ⟨rfl, h2⟩
    have H2 := Lib.hid h2
    clear h2 HY
    go_wp2_with fail
    go_ret
    exact ⟨rfl, H2.out⟩
theorem dlq_at {w : World} {B : Nat} {A : Option Addr} {n : Nat} {l : List Dl} (h : DlE.R w B A n l) {j : Nat} {z : Dl} (hz : l[j]? = some z) : ∃ b off, A = some ⟨b, off, none⟩ ∧ b < B ∧ w.cell? ⟨b, off + j * 4, none⟩ = some (.int .i64 z.nd) ∧ w.cell? ⟨b, off + j * 4 + 1, none⟩ = some (.int .i64 z.o) ∧ w.cell? ⟨b, off + j * 4 + 2, none⟩ = some (.int .i64 z.l) ∧ w.cell? ⟨b, off + j * 4 + 3, none⟩ = some (.int .i64 z.c) := by
  have hj := (List.getElem?_eq_some_iff.1 hz).1
  obtain ⟨b, off, rfl, hb, hc⟩ := h.2.2 (by rw [← h.len]; omega)
  have h2 := hc j z hz
  exact ⟨b, off, rfl, hb, h2 0 (by decide), h2 1 (by decide), h2 2 (by decide), h2 3 (by decide)⟩
set_option maxHeartbeats 6400000 in
theorem rChgs_any (h : RefS w X x p q r a S N) (hm : ManyS S N) (hN : N ≤ 100000) (y : Int) (hy : Nd64 y) {A : Option Addr} {n cap : Nat} {l : List Dl} (hl : ∀ W, Touch (fun k => k = q ∨ k = r) w W → DlE.R W W.heap.size A n l) (hn : n ≤ 1000) (pp ee xx : Int) :
    Calls Tryz.prog 40 #[.pointer (some ⟨x, 0, none⟩), .int .i64 y, .slice A n cap, .int .i64 pp, .int .i64 ee, .int .i64 xx] w fun u w' => ChgsDone w w' X x p q r a (N + 8 * n) S (runC y S false (l.map (chgL pp ee xx))) u := by
  have HL := Lib.hid hl
  have hlen := (hl w (Touch.refl _ _)).len
  have hlok := (hl w (Touch.refl _ _)).ok
  have HLEN := Lib.hid (And.intro hlen hlok)
  have H0 := Lib.hid (show RefS w X x p q r a (runC y S false ((l.map (chgL pp ee xx)).take 0)).2 (N + 8 * 0) ∧ ManyS (runC y S false ((l.map (chgL pp ee xx)).take 0)).2 (N + 8 * 0) ∧ (runC y S false ((l.map (chgL pp ee xx)).take 0)).1.2 = 0 ∧ Touch (fun k => k = q ∨ k = r) w w from ⟨h, hm, rfl, Touch.refl _ _⟩)
  clear h hm hl hlen hlok
  obtain ⟨cs, hcs⟩ : ∃ cs, cs = l.map (chgL pp ee xx) := ⟨_, rfl⟩
  rw [← hcs] at H0 ⊢
  have HCS := Lib.hid hcs
  clear hcs
  go_enter Tryz.func40, Tryz.ntmps40
  go_wp2_with fail
  go_loopw [14, 15] (fun uv iv wr => ∃ j : Nat, j ≤ n ∧ iv = .int .i64 j ∧ uv = .bool (runC y S false (cs.take j)).1.1 ∧ Hid (RefS wr X x p q r a (runC y S false (cs.take j)).2 (N + 8 * j) ∧ ManyS (runC y S false (cs.take j)).2 (N + 8 * j) ∧ (runC y S false (cs.take j)).1.2 = 0 ∧ Touch (fun k => k = q ∨ k = r) w wr)) (fun _ iv _ => n - (intOf iv).toNat)
  case atStart => exact ⟨0, Nat.zero_le _, rfl, rfl, H0⟩
  case round =>
    clear H0
    obtain ⟨j, hj, rfl, rfl, HJ⟩ := hrel
    by_cases hlt : j < n
    · have hlt' : (j : Int) < (n : Int) := by omega
      have hj0 : (0 : Int) ≤ (j : Int) := by omega
      obtain ⟨hrs, hms, hz, ht⟩ := HJ.out
      obtain ⟨z, hz1⟩ : ∃ z, l[j]? = some z := ⟨_, List.getElem?_eq_getElem (by rw [HLEN.out.1]; exact hlt)⟩
      have hzok := HLEN.out.2 z (List.mem_of_getElem? hz1)
      obtain ⟨b, off, rfl, hb, c0, c1, c2, c3⟩ := dlq_at (HL.out wr ht) hz1
      have hcm : cs[j]? = some (chgL pp ee xx z) := by rw [HCS.out, List.getElem?_map, hz1]; rfl
      have hW := runC_W y (cs.take j) S false
      have HCH := Lib.hid (rCharge_any hrs hms (by omega) y z.nd (wrap64 (pp * z.o)) (wrap64 (ee * z.o)) (wrap64 (xx * z.o)) hy (hzok _ (by simp)) (wrapC_in _) (wrapC_in _) (wrapC_in _))
      have HOK := Lib.hid (show (chargeR (runC y S false (cs.take j)).2 y z.nd (wrap64 (pp * z.o)) (wrap64 (ee * z.o)) (wrap64 (xx * z.o))).1.2 = 0 → runC y S false (cs.take (j + 1)) = (((runC y S false (cs.take j)).1.1 || (chargeR (runC y S false (cs.take j)).2 y z.nd (wrap64 (pp * z.o)) (wrap64 (ee * z.o)) (wrap64 (xx * z.o))).1.1, 0), (chargeR (runC y S false (cs.take j)).2 y z.nd (wrap64 (pp * z.o)) (wrap64 (ee * z.o)) (wrap64 (xx * z.o))).2) from fun h2 => runC_pref hcm hz h2)
      have HBAD := Lib.hid (show (chargeR (runC y S false (cs.take j)).2 y z.nd (wrap64 (pp * z.o)) (wrap64 (ee * z.o)) (wrap64 (xx * z.o))).1.2 ≠ 0 → runC y S false cs = (((runC y S false (cs.take j)).1.1, (chargeR (runC y S false (cs.take j)).2 y z.nd (wrap64 (pp * z.o)) (wrap64 (ee * z.o)) (wrap64 (xx * z.o))).1.2), (chargeR (runC y S false (cs.take j)).2 y z.nd (wrap64 (pp * z.o)) (wrap64 (ee * z.o)) (wrap64 (xx * z.o))).2) from fun h2 => runC_bad hcm hz h2)
      have HT := Lib.hid (And.intro ht hW)
      clear hrs hms hz ht hz1 hzok hb hcm hW HJ
      obtain ⟨zn, zo, zl, zc⟩ := z
      simp only at HCH HOK HBAD c0 c1 c2 c3
      have d7 : IntKind.i64.wrap (pp * zo) = wrap64 (pp * zo) := wrapI_is _
      have d8 : IntKind.i64.wrap (ee * zo) = wrap64 (ee * zo) := wrapI_is _
      have d9 : IntKind.i64.wrap (xx * zo) = wrap64 (xx * zo) := wrapI_is _
      generalize wrap64 (pp * zo) = g7 at HCH HOK HBAD d7
      generalize wrap64 (ee * zo) = g8 at HCH HOK HBAD d8
      generalize wrap64 (xx * zo) = g9 at HCH HOK HBAD d9
      generalize runC y S false (cs.take j) = Rj at HCH HOK HBAD HT ⊢
      obtain ⟨⟨bj, ej⟩, Sj⟩ := Rj
      simp only at HCH HOK HBAD HT ⊢
      generalize chargeR Sj y zn g7 g8 g9 = R2 at HCH HOK HBAD
      obtain ⟨⟨r1, r2⟩, S2⟩ := R2
      simp only at HCH HOK HBAD
      go_wp2_with fail
      refine HCH.out.mono ?_
      rintro u w4 ⟨T, rfl, hT, h4, m4, tw4, t4⟩
      clear HCH c0 c1 c2 c3 d7 d8 d9
      by_cases hr2 : r2 = 0
      · subst hr2
        obtain rfl := hT (by first | rfl | trivial)
        have hR := HOK.out (by first | rfl | trivial)
        have HJ := Lib.hid (show RefS w4 X x p q r a (runC y S false (cs.take (j + 1))).2 (N + 8 * (j + 1)) ∧ ManyS (runC y S false (cs.take (j + 1))).2 (N + 8 * (j + 1)) ∧ (runC y S false (cs.take (j + 1))).1.2 = 0 ∧ Touch (fun k => k = q ∨ k = r) w w4 from by
          rw [hR]
          exact ⟨h4.more (by omega), m4.more (by omega), rfl, HT.out.1.trans t4⟩)
        have HW := Lib.hid (show (runC y S false (cs.take (j + 1))).1.1 = (bj || r1) from by rw [hR])
        clear hR h4 m4 tw4 t4 hT HOK HBAD HT
        cases bj with
        | true =>
          rw [Bool.true_or] at HW
          go_wp2_with fail
          go_roundw
          case rel => exact ⟨j + 1, by omega, by go_num, by rw [HW.out], HJ⟩
          case measure => simp [intOf]; omega
        | false =>
          rw [Bool.false_or] at HW
          go_wp2_with fail
          go_roundw
          case rel => exact ⟨j + 1, by omega, by go_num, by rw [HW.out], HJ⟩
          case measure => simp [intOf]; omega
      · have k1 : (r2 != 0) = true := by simp [hr2]
        have hR := HBAD.out hr2
        have HE := Lib.hid (show ChgsDone w w4 X x p q r a (N + 8 * n) S (runC y S false cs) (.returned (.tuple #[.bool false, .int .i64 r2])) from by
          rw [hR]
          exact ⟨false, T, rfl, fun h => absurd h hr2, h4.more (by omega), m4.more (by omega), tw4.trans HT.out.2, HT.out.1.trans t4⟩)
        clear hR h4 m4 tw4 t4 hT HOK HBAD HT hr2
        go_wp2_with fail
        go_ret2
        exact HE.out
    · obtain rfl : j = n := by omega
      have htk : cs.take j = cs := List.take_of_length_le (by rw [HCS.out, List.length_map, HLEN.out.1]; exact Nat.le_refl _)
      obtain ⟨hrs, hms, hz, ht⟩ := HJ.out
      rw [htk] at hrs hms hz ⊢
      have HE := Lib.hid (show ChgsDone w wr X x p q r a (N + 8 * j) S (runC y S false cs) (.returned (.tuple #[.bool (runC y S false cs).1.1, .int .i64 0])) from
        ⟨_, _, by rw [hz], fun _ => ⟨rfl, rfl⟩, hrs, hms, runC_W y cs S false, ht⟩)
      clear hrs hms hz ht htk HJ
      obtain ⟨bw, hbw⟩ : ∃ bw, bw = (runC y S false cs).1.1 := ⟨_, rfl⟩
      rw [← hbw] at HE ⊢
      clear hbw
      go_wp2_with fail
      go_ret2
      exact HE.out
end
end Go.Proofs.YtlcbmobdokicaaaGreat

/-
  The document's New of a pre-encumbrance by contract. What an error leaves is not said, but that nothing is committed. Condition: which numbers are ints.
-/
namespace Go.Proofs.YtlcbmobdokicaaaGreat
open Go.RowKit Go.Maps
set_option maxRecDepth 100000
set_option linter.unusedVariables false

section
variable {w w' : World} {X : Nat → Prop} {x p q r N : Nat} {a : TL} {S : VS}
set_option maxHeartbeats 6400000 in
theorem rPreNew_any (h : RefS w X x p q r a S N) (hm : ManyS S N) (hN : N ≤ 100000) (y : Int) (hy : Nd64 y) {A : Option Addr} {n cap : Nat} {l : List Ln} (hl : ∀ W, Touch (fun k => k = q ∨ k = r) w W → RL W W.heap.size A n l) (hn : n ≤ maxLen) :
    Calls Tryz.prog 11 #[.pointer (some ⟨x, 0, none⟩), .int .i64 y, .slice A n cap] w fun u w' => NewDone w w' X x p q r a (N + 56) S (preNew S y l) u := by
  have HF := Lib.hid (rFirst_any (cap := cap) h (by omega) y hy (fun W hW => hl W (Touch.of_below hW)) hn)
  have hlen := (hl w (Touch.refl _ _)).len
  have hlok := (hl w (Touch.refl _ _)).ok
  have hown := h.own
  have hqr := And.intro (h.old _ hown.1) (h.old _ hown.2)
  have HLI := Lib.hid (show ∀ W, Below w.heap.size w W → n ≤ 6 → Calls Tryz.prog 39 #[.slice A n cap] W fun e w' => ∃ u, e = .returned u ∧ DlE.Own 58 w' W.heap.size u (l.map lineD) ∧ Below W.heap.size W w' from fun W hW h6 => rLines_any cap (hl W (Touch.of_below hW)) (Nat.le_refl _) (by omega))
  have e1 : yChk S y ≠ 0 → preNew S y l = ((0, false, yChk S y), S) := fun h => by unfold preNew; rw [if_neg h]
  have e2 : yChk S y = 0 → preChk l ≠ 0 → preNew S y l = ((0, false, 1), S) := fun h g => by unfold preNew; rw [if_pos h, if_neg g]
  have e3 : yChk S y = 0 → preChk l = 0 → preNew S y l = orderR S y 1 0 (l.map preC) (l.map lineD) := fun h g => by unfold preNew; rw [if_pos h, if_pos g]
  have hp01 : preChk l = 0 ∨ preChk l = 1 := by unfold preChk; split; exact .inr rfl; exact .inl rfl
  have HP6 := Lib.hid (fun h => preChk_len (l := l) h)
  have E := Lib.hid (And.intro e1 (And.intro e2 e3))
  have HV := Lib.hid (show ∀ W, Below w.heap.size w W → RefS W X x p q r a S N ∧ Touch (fun k => k = q ∨ k = r) w W from fun W hW => ⟨h.below hW, Touch.of_below hW⟩)
  have HM := Lib.hid hm
  have HLEN := Lib.hid (And.intro hlen hlok)
  have HYY := Lib.hid hy
  clear h hm hl hlen hlok e1 e2 e3 hown
  obtain ⟨R, hR⟩ : ∃ R, R = preNew S y l := ⟨_, rfl⟩
  rw [← hR] at E ⊢
  clear hR
  obtain ⟨yc, hyc⟩ : ∃ yc, yc = yChk S y := ⟨_, rfl⟩
  rw [← hyc] at HF E
  clear hyc
  obtain ⟨pc, hpc⟩ : ∃ pc, pc = preChk l := ⟨_, rfl⟩
  rw [← hpc] at E HF hp01 HP6
  clear hpc
  have HBAD := Lib.hid (show ∀ (v : Int) W, v ≠ 0 → R = ((0, false, v), S) → Below w.heap.size w W → NewDone w W X x p q r a (N + 56) S R (.returned (.tuple #[.int .i64 0, .bool false, .int .i64 v])) from fun v W hv hR hW => by
    rw [hR]
    exact ⟨S, rfl, fun h => absurd h hv, (HV.out W hW).1.more (by omega), HM.out.more (by omega), rfl, (HV.out W hW).2⟩)
  go_enter Tryz.func11, Tryz.ntmps11
  go_wp2_with fail
  refine HF.out.mono ?_
  rintro e w2 ⟨rfl, h2⟩
  have H2 := Lib.hid h2
  clear h2 HF
  by_cases h0 : yc = 0
  · subst h0
    rw [if_pos rfl]
    rcases hp01 with rfl | rfl
    · have hER := E.out.2.2 (by first | rfl | trivial) (by first | rfl | trivial)
      obtain ⟨n1, n6, hra⟩ := HP6.out (by first | rfl | trivial)
      rw [HLEN.out.1] at n1 n6
      have HER := Lib.hid hER
      have HLI2 := Lib.hid (HLI.out w2 H2.out n6)
      clear E HP6 hER hra HBAD HLI
      go_wp2_with fail
      refine HLI2.out.mono ?_
      rintro e w3 ⟨u, rfl, hown, h3⟩
      obtain ⟨A', k', rfl, hk'⟩ := hown.shape
      have h13 := H2.out.trans (h3.mono H2.out.size)
      have hl3 : (l.map lineD).length = n := by rw [List.length_map]; exact HLEN.out.1
      rw [hl3] at hown hk' ⊢
      have hdok := dl_lines_ok HLEN.out.2
      have hs2 := H2.out.size
      have hs3 := h3.size
      have HROW := Lib.hid (show ∀ W, Touch (fun k => k = q ∨ k = r) w3 W → DlE.R W W.heap.size A' n (l.map lineD) from fun W hW => by
        have ho := hown.stays (w' := W) fun g hg => hW.block g (hown.at_ g hg).2 (fun e => by have := (hown.at_ g hg).1; omega)
        exact (ho.read hdok).2.2)
      have HCH := Lib.hid (rChgs_any (cap := k') (HV.out w3 h13).1 HM.out hN y HYY.out HROW.out (by omega) 1 0 0)
      have HT3 := Lib.hid (And.intro (HV.out w3 h13).2 (And.intro hk' (And.intro hl3 hdok)))
      clear hown h3 h13 hl3 hdok hk' HLI2 hs2 hs3
      rw [chgL_pres HLEN.out.2] at HCH
      have HLEN2 := Lib.hid (show (l.map lineD).length = n from HT3.out.2.2.1)
      obtain ⟨Rj, hRj⟩ : ∃ Rj, Rj = runC y S false (l.map preC) := ⟨_, rfl⟩
      rw [← hRj] at HCH
      obtain ⟨⟨bj, ej⟩, Sj⟩ := Rj
      go_wp2_with fail
      refine HCH.out.mono ?_
      rintro u w4 ⟨b, T, rfl, hT, h4, m4, tw4, t4⟩
      simp only at hT ⊢
      clear HCH
      by_cases he : ej = 0
      · subst he
        obtain ⟨rfl, rfl⟩ := hT (by first | rfl | trivial)
        have hER := HER.out
        rw [orderR_put hRj.symm] at hER
        have hDOK : DcOk ⟨0, 1, y, 0, 0⟩ := by
          intro z hz
          simp only [List.mem_cons, List.not_mem_nil, or_false] at hz
          rcases hz with rfl | rfl | rfl | rfl | rfl
          · omega
          · omega
          · exact HYY.out
          · omega
          · omega
        have HPUT := Lib.hid (rDocsPut_any h4 (by omega) ⟨0, 1, y, 0, 0⟩ hDOK (HROW.out w4 t4) HT3.out.2.1 (by unfold maxLen; omega))
        have HMP := Lib.hid (many_putDoc m4 ⟨0, 1, y, 0, 0⟩ (l.map lineD))
        have HWP := Lib.hid ((putDoc_W_ T ⟨0, 1, y, 0, 0⟩ (l.map lineD)).trans tw4)
        have HT4 := Lib.hid (HT3.out.1.trans t4)
        have HER2 := Lib.hid hER
        clear hT h4 m4 tw4 t4 hRj hER HER hDOK HROW HT3
        generalize putDoc T ⟨0, 1, y, 0, 0⟩ (l.map lineD) = PD at HPUT HER2 HMP HWP
        obtain ⟨⟨pa, pb⟩, PS⟩ := PD
        simp only at HPUT HER2 HMP HWP
        go_wp2_with fail
        refine HPUT.out.mono ?_
        rintro u w5 ⟨rfl, h5, t5⟩
        by_cases hb : pb = 0
        · subst hb
          have hR := HER2.out.trans (if_pos rfl)
          have HE := Lib.hid (show NewDone w w5 X x p q r a (N + 56) S R (.returned (.tuple #[.int .i64 pa, .bool b, .int .i64 0])) from by
            rw [hR]
            exact ⟨PS, rfl, fun _ => rfl, h5.more (by omega), HMP.out.more (by omega), HWP.out, HT4.out.trans t5⟩)
          clear h5 t5 hR HPUT HER2 HMP HWP HT4
          go_wp2_with fail
          go_ret3
          exact HE.out
        · have k1 : (pb != 0) = true := by simp [hb]
          have hR := HER2.out.trans (if_neg hb)
          have HE := Lib.hid (show NewDone w w5 X x p q r a (N + 56) S R (.returned (.tuple #[.int .i64 0, .bool false, .int .i64 pb])) from by
            rw [hR]
            exact ⟨PS, rfl, fun h => absurd h hb, h5.more (by omega), HMP.out.more (by omega), HWP.out, HT4.out.trans t5⟩)
          clear h5 t5 hR HPUT HER2 HMP HWP HT4 hb
          go_wp2_with fail
          go_ret3
          exact HE.out
      · have k1 : (ej != 0) = true := by simp [he]
        have hR := HER.out.trans (orderR_bad hRj.symm he)
        have HE := Lib.hid (show NewDone w w4 X x p q r a (N + 56) S R (.returned (.tuple #[.int .i64 0, .bool false, .int .i64 ej])) from by
          rw [hR]
          exact ⟨T, rfl, fun h => absurd h he, h4.more (by omega), m4.more (by omega), tw4, HT3.out.1.trans t4⟩)
        clear hR h4 m4 tw4 t4 hT HER HROW HT3 he hRj
        go_wp2_with fail
        go_ret3
        exact HE.out
    · have HE := Lib.hid (HBAD.out 1 w2 (by decide) (E.out.2.1 (by first | rfl | trivial) (by decide)) H2.out)
      clear E HP6 HBAD HLI
      go_wp2_with fail
      go_ret3
      exact HE.out
  · have k1 : (yc != 0) = true := by simp [h0]
    rw [if_neg h0]
    have HE := Lib.hid (HBAD.out yc w2 h0 (E.out.1 h0) H2.out)
    clear E HP6 HBAD HLI h0
    go_wp2_with fail
    go_ret3
    exact HE.out
end
end Go.Proofs.YtlcbmobdokicaaaGreat
