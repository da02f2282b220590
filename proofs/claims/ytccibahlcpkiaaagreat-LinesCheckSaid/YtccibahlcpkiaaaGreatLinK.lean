/-
  Contracts of lines.wrong, there, level and Check over a view in memory. Conditions: fewer than 2^31 lines.
-/
import Derived.Test.YtccibahlcpkiaaaGreatLinD
import Derived.Test.YtccibahlcpkiaaaGreatAmtV
import Derived.Test.YtccibahlcpkiaaaGreatChaD
import Derived.Test.YtccibahlcpkiaaaGreatConL
import Derived.Test.YtccibahlcpkiaaaGreatIntApp
import Derived.Maps.AppendAt
namespace Go.Proofs.YtccibahlcpkiaaaGreat
open Go.RowKit Go.Maps Go.Shelf
set_option maxRecDepth 100000
set_option linter.unusedVariables false

/-- May no entry have the line? -/
def wrongB (x : Ln) : Bool := !(amtRightB x.a || amtRightB (IntKind.i64.wrap (-x.a))) || x.n != 0 || x.o == 1900 || x.o == 2900
set_option maxHeartbeats 6400000 in
theorem wrong_any (x : Ln) (w : World) : Calls Tryz.prog 36 #[.agg #[.int .i64 x.f, .int .i64 x.o, .int .i64 x.n, .int .i64 x.a]] w fun e w' => e = .returned (.bool (wrongB x)) ∧ Below w.heap.size w w' := by
  obtain ⟨xf, xo, xn, xa⟩ := x
  have HX := Lib.hid (show Below w.heap.size w (w.alloc (.cells #[.int .i64 xf, .int .i64 xo, .int .i64 xn, .int .i64 xa] 37 (0, 0))) from (Below.refl _ _).alloc (Nat.le_refl _) _)
  have HR1 := Lib.hid (amtRight_any xa)
  obtain ⟨z, hz⟩ : ∃ z, IntKind.i64.wrap (-xa) = z := ⟨_, rfl⟩
  have HR2 := Lib.hid (amtRight_any z)
  unfold wrongB
  simp only
  rw [hz]
  generalize amtRightB xa = r1 at HR1 ⊢
  generalize amtRightB z = r2 at HR2 ⊢
  generalize hb1 : (xn != 0) = b1
  generalize hb2 : (xo == 1900) = b2
  generalize hb3 : (xo == 2900) = b3
  cases r1 with
  | true =>
    cases b1 <;> cases b2 <;> cases b3
    all_goals
      go_enter Tryz.func36, Tryz.ntmps36
      go_wp2_with fail
      refine (HR1.out _).mono ?_
      rintro e w1 ⟨rfl, rfl⟩
      go_wp2
      go_ret
      exact ⟨rfl, HX.out⟩
  | false =>
    cases r2 <;> cases b1 <;> cases b2 <;> cases b3
    all_goals
      go_enter Tryz.func36, Tryz.ntmps36
      go_wp2_with fail
      refine (HR1.out _).mono ?_
      rintro e w1 ⟨rfl, rfl⟩
      go_wp2_with fail
      refine (HR2.out _).mono ?_
      rintro e w1 ⟨rfl, rfl⟩
      go_wp2
      go_ret
      exact ⟨rfl, HX.out⟩

section
variable {w w' : World} {X : Nat → Prop} {v m c : Nat} {S : VS} {A : Option Addr} {n k B : Nat} {l : List Ln}
/-- Are a line's fund and object there? -/
def thereB (S : VS) (x : Ln) : Bool := (S.now (tx (keyL 70 [x.f]))).isSome && (fixedB x.o || (S.now (tx (keyL 79 [x.o]))).isSome)
set_option maxHeartbeats 1600000 in
theorem there_any (h : ViewAt w X v m c S) (x : Ln) (hx : LnOk x) : Calls Tryz.prog 38 #[.pointer (some ⟨v, 0, none⟩), .agg #[.int .i64 x.f, .int .i64 x.o, .int .i64 x.n, .int .i64 x.a]] w fun e w' => e = .returned (.bool (thereB S x)) ∧ Below w.heap.size w w' := by
  obtain ⟨xf, xo, xn, xa⟩ := x
  obtain ⟨w1, hw1⟩ : ∃ w1, w1 = w.alloc (.cells #[.int .i64 xf, .int .i64 xo, .int .i64 xn, .int .i64 xa] 37 (0, 0)) := ⟨_, rfl⟩
  have hb1 : Below w.heap.size w w1 := by rw [hw1]; exact (Below.refl _ _).alloc (Nat.le_refl _) _
  have hblk : w1.heap[w.heap.size]? = some (.cells #[.int .i64 xf, .int .i64 xo, .int .i64 xn, .int .i64 xa] 37 (0, 0)) := by rw [hw1]; exact heap_alloc_new w _
  have hlt := (Array.getElem?_eq_some_iff.1 hblk).1
  have HF := Lib.hid (cFund_any (h.below hb1) xf hx.1)
  have HO := Lib.hid (show ∀ W, Below w1.heap.size w1 W → Calls Tryz.prog 60 #[.pointer (some ⟨v, 0, none⟩), .int .i64 xo] W fun e w' => e = .returned (.bool (fixedB xo || (S.now (tx (keyL 79 [xo]))).isSome)) ∧ Below W.heap.size W w' from fun W hb => cObject_any ((h.below hb1).below hb) xo hx.2.1)
  have HC := Lib.hid (show ∀ W, Below w1.heap.size w1 W → W.cell? ⟨w.heap.size, 1, none⟩ = some (.int .i64 xo) from fun W hb => (hb.cell (p := ⟨w.heap.size, 1, none⟩) hlt).trans (cell_of_row w1 _ 1 _ _ (0, 0) hblk))
  have HB1 := Lib.hid hb1
  unfold thereB
  simp only
  generalize (fixedB xo || (S.now (tx (keyL 79 [xo]))).isSome) = ob at HO ⊢
  generalize strOfNums ((S.now (tx (keyL 70 [xf]))).getD []) = nm at HF
  generalize (S.now (tx (keyL 70 [xf]))).isSome = fb at HF ⊢
  clear h hx hb1 hblk hlt
  rw [hw1] at HF
  cases fb with
  | false =>
    go_enter Tryz.func38, Tryz.ntmps38
    go_wp2_with fail
    refine HF.out.mono ?_
    rintro e w2 ⟨rfl, hb2⟩
    have HE := Lib.hid (HB1.out.trans ((by rw [hw1]; exact hb2 : Below w1.heap.size w1 w2).mono HB1.out.size))
    clear hb2
    go_wp2
    go_ret
    exact ⟨rfl, HE.out⟩
  | true =>
    go_enter Tryz.func38, Tryz.ntmps38
    go_wp2_with fail
    refine HF.out.mono ?_
    rintro e w2 ⟨rfl, hb2⟩
    rw [← hw1] at hb2
    have HO2 := Lib.hid (HO.out w2 hb2)
    have hc := HC.out w2 hb2
    have HE := Lib.hid (HB1.out.trans (hb2.mono HB1.out.size))
    clear hb2 HO
    go_wp2_with fail
    refine HO2.out.mono ?_
    rintro e w3 ⟨rfl, hb3⟩
    have HE3 := Lib.hid (HE.out.trans (hb3.mono HE.out.size))
    clear hb3
    go_wp2
    go_ret
    exact ⟨rfl, HE3.out⟩

theorem amtSumR_small : ∀ (l : List Int) (s : Int), (∀ x ∈ l, -9007199254740992 ≤ x ∧ x ≤ 9007199254740992) → -4503599627370496000 ≤ s - l.length * 9007199254740992 → s + l.length * 9007199254740992 ≤ 4503599627370496000 → amtSumR s l = (s + l.sum, 0)
  | [], s, _, _, _ => by unfold amtSumR; simp
  | x :: r, s, h, h1, h2 => by
    have hx := h x (List.mem_cons_self ..)
    rw [List.length_cons] at h1 h2
    have e : amtAddR s x = (s + x, 0) := by
      unfold amtAddR amtFitsB
      rw [if_pos]
      simp only [Bool.and_eq_true, decide_eq_true_eq]
      omega
    unfold amtSumR
    rw [e, if_pos rfl, amtSumR_small r (s + x) (fun y hy => h y (List.mem_cons_of_mem _ hy)) (by omega) (by omega), List.sum_cons]
    simp only [Prod.mk.injEq, and_true]
    omega
/-- append of an int, its cell in block b, as an equation. -/
theorem run_append_int1 {w : World} {base j : Nat} {u : Value} {xs : List Int} (h : w.ownsRow base 3 1 u j (xs.map (Value.int .i64))) {b : Nat} {z : Int} {T : TypeId} (hb : w.heap[b]? = some (.cells #[.int .i64 z] T)) (hj : j ≤ 8796093022208) (hbase : base ≤ w.heap.size) (ty : TypeId) :
    ∃ v' w', (Builtin.append_ #[22, 22] ty #[u, .slice (some ⟨b, 0, none⟩) 1 1]).run Tryz.prog w = .ok v' w' ∧ w'.ownsRow base 3 1 v' (j + 1) ((xs ++ [z]).map (Value.int .i64)) ∧ Below base w w' := by
  obtain ⟨i0, hi, hz0, hz1, hz2⟩ := info_parts info_int
  obtain ⟨v', w', hrun, h1, h2, _, h3⟩ := run_append_own_at (P := Tryz.prog) w base 22 ty 3 i0 (.int .i64 0) 1 8 Tryz.underlying22 hi hz0 hz1 hz2 rfl (by decide) u j _ h ⟨b, 0, none⟩ 1 1 [.int .i64 z] rfl (World.news_of_block (cs := #[.int .i64 z]) hb) (fun u hu => by obtain rfl := List.mem_singleton.1 hu; rfl) (by unfold maxLen; omega) (by omega) hbase
  exact ⟨v', w', hrun, by rw [List.map_append]; exact h1, (Below.refl _ _).grown h2 hbase (int_own_ge h)⟩
/-- What is wrong with what lines are together. -/
def levelE (l : List Ln) : Int := if sumAll l ≠ 0 then 10 else 0
set_option maxHeartbeats 1600000 in
theorem level_any (hr : RL w B A n l) (hB : B ≤ w.heap.size) (hn : n ≤ 6) (hs : ∀ x ∈ l, -9007199254740992 ≤ x.a ∧ x.a ≤ 9007199254740992) :
    Calls Tryz.prog 39 #[.slice A n k] w fun e w' => e = .returned (.int .i64 (levelE l)) ∧ Below w.heap.size w w' := by
  have HR := Lib.hid (And.intro hr (And.intro hB hs))
  have HSUM := Lib.hid (show amtSumR 0 (l.map Ln.a) = (sumAll l, 0) from by
    have hl : (l.map Ln.a).length ≤ 6 := by rw [List.length_map, hr.len]; exact hn
    have := amtSumR_small (l.map Ln.a) 0 (fun x hx => by obtain ⟨y, hy, rfl⟩ := List.mem_map.1 hx; exact hs y hy) (by omega) (by omega)
    rw [this, Int.zero_add]; rfl)
  have HIN := Lib.hid (show ∀ x ∈ l.map Ln.a, -9223372036854775808 ≤ x ∧ x ≤ 9223372036854775807 from fun x hx => by obtain ⟨y, hy, rfl⟩ := List.mem_map.1 hx; have := hs y hy; omega)
  clear hr hB hs
  go_enter Tryz.func39, Tryz.ntmps39
  go_wp2_with fail
  go_loopw [3, 10] (fun u i wr => ∃ j : Nat, j ≤ n ∧ i = .int .i64 j ∧ Hid (wr.ownsRow w.heap.size 3 1 u j (((l.take j).map Ln.a).map (Value.int .i64)) ∧ Below w.heap.size w wr)) (fun _ i _ => n - (intOf i).toNat)
  case atStart => exact ⟨0, Nat.zero_le _, rfl, Lib.hid ⟨by rw [List.take_zero]; exact World.ownsRow_nil _ _ _ _, Below.refl _ _⟩⟩
  case round =>
    obtain ⟨j, hj, rfl, HI⟩ := hrel
    obtain ⟨hown, hb⟩ := HI.out
    by_cases hlt : j < n
    · have hlt' : (j : Int) < (n : Int) := by omega
      obtain ⟨x, hx⟩ : ∃ x, l[j]? = some x := ⟨_, List.getElem?_eq_getElem (by rw [HR.out.1.len]; exact hlt)⟩
      obtain ⟨b, off, rfl, hbB, hat⟩ := HR.out.1.2.2 (by omega)
      obtain ⟨c0, c1', c2, c3⟩ := (hat j x hx).keep hbB (fun b o hbb => hb.cell (p := ⟨b, o, none⟩) (Nat.lt_of_lt_of_le hbb HR.out.2.1))
      have hstep : ((l.take (j + 1)).map Ln.a) = (l.take j).map Ln.a ++ [x.a] := by
        obtain ⟨hj', rfl⟩ := List.getElem?_eq_some_iff.1 hx
        rw [List.take_succ_eq_append_getElem hj', List.map_append]
        rfl
      obtain ⟨xf, xo, xn, xa⟩ := x
      simp only at c0 c1' c2 c3 hstep
      have hX : Below wr.heap.size wr (wr.alloc (.cells #[.int .i64 xf, .int .i64 xo, .int .i64 xn, .int .i64 xa] 37 (0, 0))) := (Below.refl _ _).alloc (Nat.le_refl _) _
      have hY : Below (wr.alloc (.cells #[.int .i64 xf, .int .i64 xo, .int .i64 xn, .int .i64 xa] 37 (0, 0))).heap.size (wr.alloc (.cells #[.int .i64 xf, .int .i64 xo, .int .i64 xn, .int .i64 xa] 37 (0, 0))) ((wr.alloc (.cells #[.int .i64 xf, .int .i64 xo, .int .i64 xn, .int .i64 xa] 37 (0, 0))).alloc (.cells #[.int .i64 xa] 3 (0, 0))) := (Below.refl _ _).alloc (Nat.le_refl _) _
      have hbY := hb.trans ((hX.trans (hY.mono hX.size)).mono hb.size)
      obtain ⟨v5, w5, hrun, hown5, hb5⟩ := run_append_int1 (own_later (own_later hown hX) hY) (heap_alloc_new _ _) (by omega) hbY.size 22
      rw [show (wr.alloc (.cells #[.int .i64 xf, .int .i64 xo, .int .i64 xn, .int .i64 xa] 37 (0, 0))).heap.size = wr.heap.size + 1 by simp] at hrun
      have HE := Lib.hid (show w5.ownsRow w.heap.size 3 1 v5 (j + 1) (((l.take (j + 1)).map Ln.a).map (Value.int .i64)) ∧ Below w.heap.size w w5 from ⟨by rw [hstep]; exact hown5, hbY.trans hb5⟩)
      have HRUN := Lib.hid hrun
      obtain ⟨PA, PC, rfl, _⟩ := int_own_shape hown
      clear hown hb hx hat hX hY hbY hown5 hb5 hrun HI hstep
      go_wp2_with (at_builtin; refine Lib.wpList_append_run _ rfl _ _ _ _ rfl _ _ rfl rfl _ _ HRUN.out ?_)
      go_roundw
      case rel => exact ⟨j + 1, by omega, by go_num, HE⟩
      case measure => simp [intOf]; omega
    · obtain rfl : j = n := by omega
      rw [List.take_of_length_le (by rw [HR.out.1.len]; exact Nat.le_refl _)] at hown
      have hlen : (l.map Ln.a).length = j := by rw [List.length_map, HR.out.1.len]
      obtain ⟨A1, c1, rfl, _⟩ := int_own_shape hown
      have hri := (RI.of_own hown HIN.out).1
      have HS := Lib.hid (amtSum_any c1 hri (by unfold maxLen; omega))
      rw [HSUM.out] at HS
      have HB := Lib.hid hb
      obtain ⟨s, hsum⟩ : ∃ s, sumAll l = s := ⟨_, rfl⟩
      rw [hsum] at HS
      have HLV := Lib.hid (show levelE l = if s ≠ 0 then 10 else 0 from by unfold levelE; rw [hsum])
      clear hown hri hb HI hlen HSUM hsum
      by_cases hs0 : s = 0
      · subst hs0
        rw [if_neg (by simp)] at HLV
        go_wp2_with fail
        refine HS.out.mono ?_
        rintro e w1 ⟨rfl, rfl⟩
        go_wp2
        go_ret
        rw [HLV.out]
        exact ⟨rfl, HB.out⟩
      · have hne : (s != 0) = true := by simpa using hs0
        rw [if_pos hs0] at HLV
        go_wp2_with fail
        refine HS.out.mono ?_
        rintro e w1 ⟨rfl, rfl⟩
        go_wp2
        go_ret
        rw [HLV.out]
        exact ⟨rfl, HB.out⟩

instance lnOkInh : Inhabited { x : Ln // LnOk x } := ⟨⟨⟨0, 0, 0, 0⟩, by unfold LnOk B64; simp only; omega⟩⟩
/-- The library's ContainsFunc over lines. -/
theorem containsL_any (hr : RL w B A n l) (hB : B ≤ w.heap.size) (h0 : 0 < n) (hn : n ≤ 2147483647) (p : Ln → Bool) (g : FuncId) (lb : Array Value) (eg : ∀ args w, (callFunc g args).run Tryz.prog w = .ok (.enter g args) w)
    (hp : ∀ (W : World) (x : Ln), LnOk x → Below w.heap.size w W → Calls Tryz.prog g (#[.agg #[.int .i64 x.f, .int .i64 x.o, .int .i64 x.n, .int .i64 x.a]] ++ lb) W fun e w' => e = .returned (.bool (p x)) ∧ Below w.heap.size w w') :
    Calls Tryz.prog 35 #[.slice A n k, .func (.func g) #[] lb] w fun e w' => e = .returned (.bool (l.any p)) ∧ Below w.heap.size w w' := by
  obtain ⟨b, off, rfl, hbB, hat⟩ := hr.2.2 h0
  have hzl : (l.attachWith LnOk hr.ok).length = n := by rw [List.length_attachWith, hr.len]
  have hcon := AnyQ.slices_ContainsFunc (α := { x : Ln // LnOk x }) Tryz.conL 4 Tryz.isAgg37 Tryz.sizeOf37 (fun x => lnV x.1) (fun _ => rfl) (fun x => p x.1) g lb eg b off n k (l.attachWith LnOk hr.ok) w
    (fun W x hb => hp W x.1 x.2 hb) (by rw [hzl]; exact Nat.le_refl _) (by omega) (Nat.lt_of_lt_of_le hbB hB) (fun j hj i v hv => by
      have hj' : j < l.length := by rw [hr.len, ← hzl]; exact hj
      have e : ((l.attachWith LnOk hr.ok)[j]!).1 = l[j] := by rw [getElem!_pos _ j hj, List.getElem_attachWith]
      obtain ⟨c0, c1, c2, c3⟩ := hat j l[j] (List.getElem?_eq_getElem hj')
      have hv' : (lnV ((l.attachWith LnOk hr.ok)[j]!).1)[i]? = some v := hv
      rw [e] at hv'
      have hi := (List.getElem?_eq_some_iff.1 hv').1
      have h4 : i = 0 ∨ i = 1 ∨ i = 2 ∨ i = 3 := by have : (lnV l[j]).length = 4 := rfl; omega
      rcases h4 with rfl | rfl | rfl | rfl
      · rw [show v = .int .i64 l[j].f from (Option.some.inj hv').symm]; exact c0
      · rw [show v = .int .i64 l[j].o from (Option.some.inj hv').symm]; exact c1
      · rw [show v = .int .i64 l[j].n from (Option.some.inj hv').symm]; exact c2
      · rw [show v = .int .i64 l[j].a from (Option.some.inj hv').symm]; exact c3)
  have he : ((l.attachWith LnOk hr.ok).take n).any (fun x => p x.1) = l.any p := by
    rw [List.take_of_length_le (by rw [hzl]; exact Nat.le_refl _)]
    have := List.any_map (f := Subtype.val) (l := l.attachWith LnOk hr.ok) (p := p)
    rw [show (l.attachWith LnOk hr.ok).map Subtype.val = l from List.attachWith_map_subtype_val _] at this
    exact this.symm
  rw [he] at hcon
  exact hcon

/-- What is wrong with lines. -/
def checkE (S : VS) (l : List Ln) : Int := if l.length < 2 ∨ 6 < l.length ∨ l.any wrongB = true then 1 else if l.any (fun x => !thereB S x) = true then 7 else levelE l
theorem wrong_small {x : Ln} (hx : LnOk x) (h : wrongB x = false) : -9007199254740992 ≤ x.a ∧ x.a ≤ 9007199254740992 := by
  unfold wrongB amtRightB at h
  simp only [Bool.or_eq_false_iff, Bool.not_eq_false', Bool.or_eq_true, Bool.and_eq_true, decide_eq_true_eq] at h
  have h1 := h.1.1.1
  have h2 := hx.2.2.2
  unfold B64 at h2
  simp only [IntKind.wrap_i64] at h1
  omega
set_option maxHeartbeats 800000 in
/-- Check's second closure, over a box that holds the view. -/
theorem chk1_any (h : ViewAt w X v m c S) (g : Nat) (hg : w.cell? ⟨g, 0, none⟩ = some (.pointer (some ⟨v, 0, none⟩))) (hgl : g < w.heap.size) (x : Ln) (hx : LnOk x) :
    Calls Tryz.prog 37 #[.agg #[.int .i64 x.f, .int .i64 x.o, .int .i64 x.n, .int .i64 x.a], .pointer (some ⟨g, 0, none⟩)] w fun e w' => e = .returned (.bool (!thereB S x)) ∧ Below w.heap.size w w' := by
  obtain ⟨xf, xo, xn, xa⟩ := x
  have hX : Below w.heap.size w (w.alloc (.cells #[.int .i64 xf, .int .i64 xo, .int .i64 xn, .int .i64 xa] 37 (0, 0))) := (Below.refl _ _).alloc (Nat.le_refl _) _
  have HT := Lib.hid (there_any (h.below hX) ⟨xf, xo, xn, xa⟩ hx)
  have hg1 := (hX.cell (p := ⟨g, 0, none⟩) hgl).trans hg
  have HX := Lib.hid hX
  generalize thereB S ⟨xf, xo, xn, xa⟩ = tb at HT ⊢
  clear h hx hX hg hgl
  go_enter Tryz.func37, Tryz.ntmps37
  go_wp2_with fail
  refine HT.out.mono ?_
  rintro e w2 ⟨rfl, hb2⟩
  have HE := Lib.hid (HX.out.trans (hb2.mono HX.out.size))
  clear hb2
  go_wp2
  go_ret
  exact ⟨rfl, HE.out⟩
set_option maxHeartbeats 3200000 in
theorem linesCheckP_any (h : ViewAt w X v m c S) (hr : RL w B A n l) (hB : B ≤ w.heap.size) (hn : n ≤ 2147483647) (hnk : n ≤ k) :
    Calls Tryz.prog 11 #[.pointer (some ⟨v, 0, none⟩), .slice A n k] w fun e w' => e = .returned (.int .i64 (checkE S l)) ∧ Below w.heap.size w w' := by
  obtain ⟨w1, hw1⟩ : ∃ w1, w1 = w.alloc (.cells #[.pointer (some ⟨v, 0, none⟩)] 26 (0, 0)) := ⟨_, rfl⟩
  have hb1 : Below w.heap.size w w1 := by rw [hw1]; exact (Below.refl _ _).alloc (Nat.le_refl _) _
  have hblk : w1.heap[w.heap.size]? = some (.cells #[.pointer (some ⟨v, 0, none⟩)] 26 (0, 0)) := by rw [hw1]; exact heap_alloc_new w _
  have hlt := (Array.getElem?_eq_some_iff.1 hblk).1
  have hcell : w1.cell? ⟨w.heap.size, 0, none⟩ = some (.pointer (some ⟨v, 0, none⟩)) := cell_of_row w1 _ 0 _ _ (0, 0) hblk
  have hlen := hr.len
  have HB1 := Lib.hid hb1
  by_cases hsz : n < 2 ∨ 6 < n
  · have HE := Lib.hid (show checkE S l = 1 from by unfold checkE; rw [hlen, if_pos (by omega)])
    clear h hr hblk hcell hlt hlen
    by_cases h2 : n < 2
    · have h2' : (n : Int) < 2 := by omega
      go_enter Tryz.func11, Tryz.ntmps11
      go_wp2
      go_ret
      rw [HE.out, ← hw1]
      exact ⟨rfl, HB1.out⟩
    · have h2' : ¬ (n : Int) < 2 := by omega
      have h6 : (n : Int) > 6 := by omega
      go_enter Tryz.func11, Tryz.ntmps11
      go_wp2
      go_ret
      rw [HE.out, ← hw1]
      exact ⟨rfl, HB1.out⟩
  · have h2' : ¬ (n : Int) < 2 := by omega
    have h6 : ¬ (n : Int) > 6 := by omega
    have egw : ∀ args w, (callFunc 36 args).run Tryz.prog w = .ok (.enter 36 args) w := enters_of Tryz.func36 (by kernel_rfl) rfl
    have egc : ∀ args w, (callFunc 37 args).run Tryz.prog w = .ok (.enter 37 args) w := enters_of Tryz.func37 (by kernel_rfl) rfl
    have hr1 := (hr.below (hb1.mono hB))
    have HW := Lib.hid (containsL_any (k := k) hr1 (Nat.le_trans hB hb1.size) (by omega) hn wrongB 36 #[] egw (fun W x hx hb => (wrong_any x W).mono fun e w' q => ⟨q.1, hb.trans (q.2.mono hb.size)⟩))
    cases hwr : l.any wrongB with
    | true =>
      have HE := Lib.hid (show checkE S l = 1 from by unfold checkE; rw [if_pos (.inr (.inr hwr))])
      rw [hwr, hw1] at HW
      clear h hr hblk hcell hlt hlen egw egc hr1 hwr
      go_enter Tryz.func11, Tryz.ntmps11
      go_wp2_with fail
      refine HW.out.mono ?_
      rintro e w2 ⟨rfl, hb2⟩
      rw [← hw1] at hb2
      have HE2 := Lib.hid (HB1.out.trans (hb2.mono HB1.out.size))
      clear hb2
      go_wp2
      go_ret
      rw [HE.out]
      exact ⟨rfl, HE2.out⟩
    | false =>
      have hsmall : ∀ x ∈ l, -9007199254740992 ≤ x.a ∧ x.a ≤ 9007199254740992 := fun x hx => wrong_small (hr.ok x hx) (by
        have := List.any_eq_false.1 hwr x hx
        simpa using this)
      have HV := Lib.hid (And.intro (h.below hb1) (And.intro hr1 (And.intro hcell hlt)))
      have HC2 := Lib.hid (show ∀ W, Below w1.heap.size w1 W → Calls Tryz.prog 35 #[.slice A n k, .func (.func 37) #[] #[.pointer (some ⟨w.heap.size, 0, none⟩)]] W fun e w' => e = .returned (.bool (l.any fun x => !thereB S x)) ∧ Below W.heap.size W w' from fun W hb =>
        containsL_any (k := k) (HV.out.2.1.below (hb.mono (Nat.le_trans hB hb1.size))) (Nat.le_trans (Nat.le_trans hB hb1.size) hb.size) (by omega) hn (fun x => !thereB S x) 37 #[.pointer (some ⟨w.heap.size, 0, none⟩)] egc
          (fun W2 x hx hb2 => (chk1_any ((HV.out.1.below hb).below hb2) w.heap.size (((hb.trans (hb2.mono hb.size)).cell (p := ⟨w.heap.size, 0, none⟩) HV.out.2.2.2).trans HV.out.2.2.1) (Nat.lt_of_lt_of_le HV.out.2.2.2 (Nat.le_trans hb.size hb2.size)) x hx).mono fun e w' q => ⟨q.1, hb2.trans (q.2.mono hb2.size)⟩))
      rw [hwr, hw1] at HW
      have HNW := Lib.hid hwr
      cases hth : l.any (fun x => !thereB S x) with
      | true =>
        have HE := Lib.hid (show checkE S l = 7 from by unfold checkE; rw [hlen, if_neg (by rw [hwr]; simp; omega), if_pos hth])
        rw [hth] at HC2
        clear h hr hblk hcell hlt hlen egw egc hr1 hwr hsmall hth
        go_enter Tryz.func11, Tryz.ntmps11
        go_wp2_with fail
        refine HW.out.mono ?_
        rintro e w2 ⟨rfl, hb2⟩
        rw [← hw1] at hb2
        have HC3 := Lib.hid (HC2.out w2 hb2)
        have HE2 := Lib.hid (HB1.out.trans (hb2.mono HB1.out.size))
        clear hb2 HC2 HW
        go_wp2_with fail
        refine HC3.out.mono ?_
        rintro e w3 ⟨rfl, hb3⟩
        have HE3 := Lib.hid (HE2.out.trans (hb3.mono HE2.out.size))
        clear hb3
        go_wp2
        go_ret
        rw [HE.out]
        exact ⟨rfl, HE3.out⟩
      | false =>
        have HE := Lib.hid (show checkE S l = levelE l from by unfold checkE; rw [hlen, if_neg (by rw [hwr]; simp; omega), if_neg (by rw [hth]; simp)])
        rw [hth] at HC2
        have HLV := Lib.hid (show ∀ W, Below w1.heap.size w1 W → Calls Tryz.prog 39 #[.slice A n k] W fun e w' => e = .returned (.int .i64 (levelE l)) ∧ Below W.heap.size W w' from fun W hb => level_any (HV.out.2.1.below (hb.mono (Nat.le_trans hB hb1.size))) (Nat.le_trans (Nat.le_trans hB hb1.size) hb.size) (by omega) hsmall)
        generalize levelE l = lv at HE HLV
        clear h hr hblk hcell hlt hlen egw egc hr1 hwr hsmall hth
        go_enter Tryz.func11, Tryz.ntmps11
        go_wp2_with fail
        refine HW.out.mono ?_
        rintro e w2 ⟨rfl, hb2⟩
        rw [← hw1] at hb2
        have HC3 := Lib.hid (HC2.out w2 hb2)
        have HE2 := Lib.hid hb2
        clear hb2 HC2 HW
        go_wp2_with fail
        refine HC3.out.mono ?_
        rintro e w3 ⟨rfl, hb3⟩
        have hb13 := HE2.out.trans (hb3.mono HE2.out.size)
        have HL3 := Lib.hid (HLV.out w3 hb13)
        have HE3 := Lib.hid (HB1.out.trans (hb13.mono HB1.out.size))
        clear hb3 hb13
        go_wp2_with fail
        refine HL3.out.mono ?_
        rintro e w4 ⟨rfl, hb4⟩
        have HE4 := Lib.hid (HE3.out.trans (hb4.mono HE3.out.size))
        clear hb4
        go_wp2
        go_ret
        rw [HE.out]
        exact ⟨rfl, HE4.out⟩
end
end Go.Proofs.YtccibahlcpkiaaaGreat
