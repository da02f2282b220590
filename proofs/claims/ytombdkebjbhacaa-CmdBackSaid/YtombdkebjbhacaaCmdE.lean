/-
  Contracts of cmd.Decode and cmd.Same. Conditions: fewer than a million bytes; commands' numbers are ints.
-/
import Derived.Test.YtombdkebjbhacaaCmdD
import Derived.Test.YtombdkebjbhacaaLinEq
namespace Go.Proofs.Ytombdkebjbhacaa
open Go.RowKit Go.Maps
set_option maxRecDepth 100000
set_option linter.unusedVariables false

instance cmLs : DecidableEq (List Ln) := inferInstance
/-- Two commands are the same. -/
def sameC (x y : Cm) : Bool := decide (x.k = y.k ∧ x.y = y.y ∧ x.n = y.n ∧ x.f = y.f ∧ x.o = y.o ∧ x.d = y.d ∧ x.p = y.p ∧ x.c = y.c ∧ x.i = y.i ∧ x.a = y.a ∧ x.ab = y.ab) && decide (x.nm = y.nm) && decide (x.ls = y.ls)
theorem sameC_refl (x : Cm) : sameC x x = true := by unfold sameC; simp
theorem readP_lens (b : List Int) (hb : AllBytes b) : (readP b).ls.length ≤ 255 ∧ (readP b).nm.size ≤ 255 := by
  have h1 := rdN_1 b hb 27
  have h2 := rdN_1 b hb (28 + (rdN b 27 1).toNat)
  constructor
  · show (rdLines b _ _).length ≤ 255
    unfold rdLines
    rw [List.length_map, List.length_range]
    omega
  · show (strOfNums _).size ≤ 255
    rw [strOfNums_size, List.length_take]
    omega
theorem results_ct {fn : Func} {p u : Tmp} {ty : TypeId} {P : Program} {w : World} (h : fn.results = #[.cell p ty, .tmp u]) (tmps : Array Value) (g : Nat) (cs : Array Value)
    (hp : tmps.getD p undef = .pointer (some ⟨g, 0, none⟩)) (hr : (loadVar ty ⟨g, 0, none⟩).run P w = .ok (.agg cs) w) :
    (results fn tmps).run P w = .ok (.tuple #[.agg cs, tmps.getD u undef]) w := by
  have e : (results fn tmps).run P w = ((asAddr (tmps.getD p undef)).run P w).andThen fun a w₁ => ((loadVar ty a).run P w₁).andThen fun v w₂ => .ok (.tuple #[v, tmps.getD u undef]) w₂ := by
    simp only [results, h]
    simp [Sem.run_bind, Result.andThen]
  rw [e, hp]
  simp [asAddr, hr, Result.andThen]
set_option maxHeartbeats 3200000 in
theorem decode_any {w : World} {A : Option Addr} {n c B : Nat} {b : List Int} (hr : RB w B A n b) (hB : B ≤ w.heap.size) (hc : n ≤ c) (hm : n ≤ 1000000) :
    Calls Try.prog 17 #[.slice A n c] w fun e w' => Below w.heap.size w w' ∧ ∃ u, e = .returned (.tuple #[.agg (cmC (decP b).1 u), .int .i64 (decP b).2]) ∧ LOwn w' w.heap.size u (decP b).1.ls := by
  obtain ⟨w1, hw1⟩ : ∃ w1, w1 = w.alloc (.cells (cmC cm0 (.slice none 0 0)) 24) := ⟨_, rfl⟩
  have b1 : Below w.heap.size w w1 := by rw [hw1]; exact (Below.refl _ _).alloc (Nat.le_refl _) _
  have s1 : w1.heap.size = w.heap.size + 1 := by rw [hw1]; simp
  have m1 : CmAt w1 w.heap.size cm0 (.slice none 0 0) := by rw [hw1]; exact heap_alloc_new w _
  have HR := Lib.hid hr
  obtain ⟨D, hDD⟩ : ∃ D, D = decP b := ⟨_, rfl⟩
  rw [← hDD]
  have HDD := Lib.hid hDD
  clear hDD
  go_enter Try.func17, Try.ntmps17
  go_wp2_with fail
  rw [show w.alloc (.cells #[.int .i64 0, .int .i64 0, .int .i64 0, .int .i64 0, .int .i64 0, .int .i64 0, .int .i64 0, .int .i64 0, .int .i64 0, .int .i64 0, .bool false, .string ⟨#[]⟩, .slice none 0 0] 24) = w1 from hw1.symm]
  refine (read_any (hr.below (b1.mono hB)) (by omega) hc hm).mono ?_
  rintro e w2 ⟨b2, u, rfl, o2⟩
  obtain ⟨X, hX⟩ : ∃ X, X = readP b := ⟨_, rfl⟩
  have hXok : CmOk X := by rw [hX]; exact readP_ok b hr.bytes
  have hXl := readP_lens b hr.bytes
  have hD : decP b = if mayC X = true ∧ encL X = b then (X, 0) else (cm0, 14) := by rw [hX]; rfl
  rw [← hX] at o2 hXl ⊢
  rw [← HDD.out] at hD
  obtain ⟨Au, cu, rfl, hcu⟩ := o2.shape
  have hru := (o2.read hXok.2.2.2.2.2.2.2.2.2.2).2.2
  obtain ⟨W3, hW3⟩ : ∃ W3, W3 = w2.alloc (.cells (cmC X (.slice Au X.ls.length cu)) 24) := ⟨_, rfl⟩
  have b3 : Below w2.heap.size w2 W3 := by rw [hW3]; exact (Below.refl _ _).alloc (Nat.le_refl _) _
  have s3 : W3.heap.size = w2.heap.size + 1 := by rw [hW3]; simp
  have m3 : CmAt W3 w2.heap.size X (.slice Au X.ls.length cu) := by rw [hW3]; exact heap_alloc_new w2 _
  have c := m3.cells
  rw [hW3] at c
  obtain ⟨c0, c1, c2, c3, c4, c5, c6, c7, c8, c9, c10, c11, c12⟩ := c
  have HM := Lib.hid m3
  have HB := Lib.hid (And.intro b1 (And.intro b2 b3))
  have HO := Lib.hid o2
  have HX := Lib.hid (And.intro hX hD)
  have HM1 := Lib.hid m1
  clear hX hD m3 b1 b2 b3 o2 hr m1 hw1
  unfold cmC at hW3 c0 c1 c2 c3 c4 c5 c6 c7 c8 c9 c10 c11 c12 ⊢
  go_wp2_with fail
  rw [← hW3]
  refine (encode_any X hXok Au _ cu w2.heap.size W3 (hru.below HB.out.2.2) (by omega) hcu (by omega) (by omega)).mono ?_
  rintro e W4 ⟨b4, v, rfl, o4⟩
  have hB12 := HB.out.1.trans (HB.out.2.1.mono HB.out.1.size)
  have hB13 := hB12.trans (HB.out.2.2.mono hB12.size)
  have hB14 := hB13.trans (b4.mono hB13.size)
  have hw2 := HB.out.2.1.size
  have m4 : CmAt W4 w.heap.size cm0 (.slice none 0 0) := (b4.block _ (by omega)).trans ((HB.out.2.2.block _ (by omega)).trans ((HB.out.2.1.block _ (by omega)).trans HM1.out))
  have n4 : CmAt W4 w2.heap.size X (.slice Au X.ls.length cu) := (b4.block _ (by omega)).trans HM.out
  obtain ⟨z0, z1, z2, z3, z4, z5, z6, z7, z8, z9, z10, z11, z12⟩ := m4.cells
  have f0 := m4.free 0
  have f1 := m4.free 1
  have f2 := m4.free 2
  have f3 := m4.free 3
  have f4 := m4.free 4
  have f5 := m4.free 5
  have f6 := m4.free 6
  have f7 := m4.free 7
  have f8 := m4.free 8
  have f9 := m4.free 9
  have f10 := m4.free 10
  have f11 := m4.free 11
  have f12 := m4.free 12
  have HZ := Lib.hid (cm_box m4 hB14 (Nat.le_refl _) cm0 (.slice none 0 0))
  have HG := Lib.hid (cm_box m4 hB14 (Nat.le_refl _) X (.slice Au X.ls.length cu))
  have hO4 : LOwn W4 w.heap.size (.slice Au X.ls.length cu) X.ls := ((HO.out.below HB.out.2.2).below b4).base_le (by omega)
  have HO4 := Lib.hid (show LOwn _ w.heap.size (.slice Au X.ls.length cu) X.ls from hO4.stays fun g hg => cm_other (k := g) (g := w.heap.size) (by have := (HO.out.at_ g hg).1; show g ≠ w.heap.size; omega) X (.slice Au X.ls.length cu))
  have hrb : RB W4 B A n b := HR.out.below (hB14.mono hB)
  clear hB12 hB13 hB14 hw2 m4 hW3 b4 hO4 hru c0 c1 c2 c3 c4 c5 c6 c7 c8 c9 c10 c11 c12
  cases hm : mayC X with
  | false =>
    have hd0 : D = (cm0, 14) := by rw [HX.out.2, hm]; rfl
    subst hd0
    simp only [hm, Bool.false_eq_true, if_false] at o4 ⊢
    go_wp2_with fail
    refine bodyPost_ret (results_ct rfl _ w.heap.size _ rfl (run_loadVar_row _ _ _ _ _ (0, 0) _ HZ.out.1 Try.underlying24 rfl cm_size)) rfl ?_
    exact ⟨HZ.out.2, _, rfl, LOwn.start _ _⟩
  | true =>
    have hb4 : AllBytes (encL X) := encL_bytes X
    simp only [hm, if_true] at o4 ⊢
    obtain ⟨A4, c4, rfl, hc4, r4⟩ := read_own o4 hb4
    have HEQ := Lib.hid (Equal_any c4 c r4 hrb)
    by_cases hq : encL X = b
    · have hd0 : D = (X, 0) := by rw [HX.out.2, if_pos ⟨hm, hq⟩]
      subst hd0
      obtain ⟨c0, c1, c2, c3, c4', c5, c6, c7, c8, c9, c10, c11, c12⟩ := n4.cells
      rw [decide_eq_true hq] at HEQ
      clear n4 hrb r4 o4 hb4 hq
      go_wp2_with (go_at_call 10; refine HEQ.out.mono ?_; rintro e w' ⟨rfl, rfl⟩)
      refine bodyPost_ret (results_ct rfl _ w.heap.size _ rfl (run_loadVar_row _ _ _ _ _ (0, 0) _ HG.out.1 Try.underlying24 rfl cm_size)) rfl ?_
      exact ⟨HG.out.2, _, rfl, HO4.out⟩
    · have hd0 : D = (cm0, 14) := by rw [HX.out.2, if_neg (fun h => hq h.2)]
      subst hd0
      rw [decide_eq_false hq] at HEQ
      clear n4 hrb r4 o4 hb4 hq
      go_wp2_with (go_at_call 10; refine HEQ.out.mono ?_; rintro e w' ⟨rfl, rfl⟩)
      refine bodyPost_ret (results_ct rfl _ w.heap.size _ rfl (run_loadVar_row _ _ _ _ _ (0, 0) _ HZ.out.1 Try.underlying24 rfl cm_size)) rfl ?_
      exact ⟨HZ.out.2, _, rfl, LOwn.start _ _⟩
end Go.Proofs.Ytombdkebjbhacaa
