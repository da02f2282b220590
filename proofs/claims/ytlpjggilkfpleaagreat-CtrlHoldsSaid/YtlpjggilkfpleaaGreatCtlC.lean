/-
  The texts CtlB, CtlC joined. Conditions: those that each part says at its head.
-/
import Derived.Test.YtlpjggilkfpleaaGreatCtlA

/-
  Contracts of ctrl: Allows, grown, check. Condition: which numbers are ints.
-/
namespace Go.Proofs.YtlpjggilkfpleaaGreat
open Go.RowKit Go.Maps
set_option maxRecDepth 100000
set_option linter.unusedVariables false

theorem twoIn_any (a b : Int) (ha : Nd64 a) (hb : Nd64 b) (W : World) : Calls Tryz.prog 37 #[.int .i64 (-1152921504606846976), .int .i64 1152921504606846976, .slice (some ⟨W.heap.size, 0, none⟩) 2 2] (W.alloc (.cells #[.int .i64 a, .int .i64 b] 3)) fun e w' => e = .returned (.bool (inC (-1152921504606846976) 1152921504606846976 [a, b])) ∧ Below (W.alloc (.cells #[.int .i64 a, .int .i64 b] 3)).heap.size (W.alloc (.cells #[.int .i64 a, .int .i64 b] 3)) w' := by
  have hr := ri_lit W 3 [a, b] #[.int .i64 a, .int .i64 b] rfl (by
    intro v hv
    simp only [List.mem_cons, List.not_mem_nil, or_false] at hv
    rcases hv with rfl | rfl
    · exact ha
    · exact hb)
  have hs : W.heap.size + 1 ≤ (W.alloc (.cells #[.int .i64 a, .int .i64 b] 3)).heap.size := by simp
  exact within_any (n := 2) 2 hr hs (by decide) _ _
theorem usedN_in (x : Nd) : Nd64 (usedN x) := wrap_in _
set_option maxHeartbeats 3200000 in
theorem allows_any (x : Nd) (hx : NdOk x) (more : Int) (hm : Nd64 more) (w : World) : Calls Tryz.prog 7 #[.agg #[.int .i64 x.y, .int .i64 x.i, .int .i64 x.p, .int .i64 x.f, .int .i64 x.o, .bool x.ab, .int .i64 x.li, .int .i64 x.pr, .int .i64 x.en, .int .i64 x.ex, .int .i64 x.la, .int .i64 x.ca], .int .i64 more] w fun e w' => e = .returned (.tuple #[.bool (allowsN x more).1, .bool (allowsN x more).2]) ∧ Below w.heap.size w w' := by
  obtain ⟨w1, hw1⟩ : ∃ w1, w1 = w.alloc (.cells #[.int .i64 x.y, .int .i64 x.i, .int .i64 x.p, .int .i64 x.f, .int .i64 x.o, .bool x.ab, .int .i64 x.li, .int .i64 x.pr, .int .i64 x.en, .int .i64 x.ex, .int .i64 x.la, .int .i64 x.ca] 23) := ⟨_, rfl⟩
  have hb1 : Below w.heap.size w w1 := by rw [hw1]; exact (Below.refl _ _).alloc (Nat.le_refl _) _
  have hblk : w1.heap[w.heap.size]? = some (.cells #[.int .i64 x.y, .int .i64 x.i, .int .i64 x.p, .int .i64 x.f, .int .i64 x.o, .bool x.ab, .int .i64 x.li, .int .i64 x.pr, .int .i64 x.en, .int .i64 x.ex, .int .i64 x.la, .int .i64 x.ca] 23 (0, 0)) := by rw [hw1]; exact heap_alloc_new w _
  have hs1 : w1.heap.size = w.heap.size + 1 := by rw [hw1]; simp
  have HU := Lib.hid (used_any x w1)
  have HC := Lib.hid (show ∀ W, Below w1.heap.size w1 W → W.cell? ⟨w.heap.size, 5, none⟩ = some (.bool x.ab) ∧ W.cell? ⟨w.heap.size, 6, none⟩ = some (.int .i64 x.li) from fun W hW => by
    have hb := (hW.block w.heap.size (by omega)).trans hblk
    exact ⟨cell_of_row _ _ 5 _ _ (0, 0) hb, cell_of_row _ _ 6 _ _ (0, 0) hb⟩)
  have HB := Lib.hid hb1
  have hu := usedN_in x
  have hli : Nd64 x.li := hx _ (by simp)
  have HIN := Lib.hid (fun W => twoIn_any (usedN x) x.li hu hli W)
  have e1 : more > 1152921504606846976 → allowsN x more = (false, false) := fun h => by unfold allowsN; rw [if_pos (.inl h)]
  have e2 : inC (-1152921504606846976) 1152921504606846976 [usedN x, x.li] = false → allowsN x more = (false, false) := fun h => by unfold allowsN; rw [if_pos (.inr h)]
  have e3 : ¬ more > 1152921504606846976 → inC (-1152921504606846976) 1152921504606846976 [usedN x, x.li] = true → (more < 1 ∨ wrap64 (usedN x + more) ≤ x.li) → allowsN x more = (true, false) := fun h g k => by unfold allowsN; rw [if_neg (by rw [g]; simp; omega), if_pos k]
  have e4 : ¬ more > 1152921504606846976 → inC (-1152921504606846976) 1152921504606846976 [usedN x, x.li] = true → ¬ (more < 1 ∨ wrap64 (usedN x + more) ≤ x.li) → allowsN x more = (if x.ab = true then (false, false) else (true, true)) := fun h g k => by unfold allowsN; rw [if_neg (by rw [g]; simp; omega), if_neg k]
  have E := Lib.hid (And.intro e1 (And.intro e2 (And.intro e3 e4)))
  clear e1 e2 e3 e4
  generalize inC (-1152921504606846976) 1152921504606846976 [usedN x, x.li] = bb at HIN E
  generalize usedN x = us at HU HIN E hu
  generalize allowsN x more = res at E ⊢
  obtain ⟨y, i, p, f, o, ab, li, pr, en, ex, la, ca⟩ := x
  simp only at HU HC HIN E hw1 hli ⊢
  clear hblk hs1 hx hb1
  by_cases c1 : more > 1152921504606846976
  · have k1 : decide (more > 1152921504606846976) = true := decide_eq_true c1
    obtain rfl := E.out.1 c1
    clear c1 E HIN
    go_enter Tryz.func7, Tryz.ntmps7
    go_wp2_with fail
    rw [← hw1]
    clear hw1
    refine HU.out.mono ?_
    rintro e w2 ⟨rfl, hb2⟩
    have HE := Lib.hid (HB.out.trans (hb2.mono HB.out.size))
    clear hb2 HU HC HB
    go_wp2_with fail
    go_ret2
    exact ⟨rfl, HE.out⟩
  have k1 : decide (more > 1152921504606846976) = false := decide_eq_false c1
  go_enter Tryz.func7, Tryz.ntmps7
  go_wp2_with fail
  rw [← hw1]
  clear hw1
  refine HU.out.mono ?_
  rintro e w2 ⟨rfl, hb2⟩
  have HB2 := Lib.hid hb2
  obtain ⟨c5, c6⟩ := HC.out w2 hb2
  have HW := Lib.hid (HIN.out w2)
  have HX := Lib.hid c1
  clear hb2 HU HIN c1
  go_wp2_with fail
  refine HW.out.mono ?_
  rintro e w3 ⟨rfl, hb3⟩
  have hb23 : Below w2.heap.size w2 w3 := ((Below.refl _ _).alloc (Nat.le_refl _) _).trans (hb3.mono (by simp))
  have hb13 := HB2.out.trans (hb23.mono HB2.out.size)
  have HE := Lib.hid (HB.out.trans (hb13.mono HB.out.size))
  obtain ⟨d5, d6⟩ := HC.out w3 hb13
  clear hb3 hb23 hb13 HW HC HB HB2 c5 c6
  cases bb with
  | false =>
    obtain rfl := E.out.2.1 rfl
    clear E
    go_wp2_with fail
    go_ret2
    exact ⟨rfl, HE.out⟩
  | true =>
    have e3 := E.out.2.2.1 HX.out rfl
    have e4 := E.out.2.2.2 HX.out rfl
    have E3 := Lib.hid e3
    have E4 := Lib.hid e4
    clear E e3 e4
    by_cases c2 : more < 1
    · have k2 : decide (more < 1) = true := decide_eq_true c2
      obtain rfl := E3.out (.inl c2)
      clear E3 E4 c2
      go_wp2_with fail
      go_ret2
      exact ⟨rfl, HE.out⟩
    · have k2 : decide (more < 1) = false := decide_eq_false c2
      by_cases c3 : wrap64 (us + more) ≤ li
      · have k3 : decide (wrap64 (us + more) ≤ li) = true := decide_eq_true c3
        obtain rfl := E3.out (.inr c3)
        clear E3 E4 c2 c3
        go_wp2_with fail
        go_ret2
        exact ⟨rfl, HE.out⟩
      · have k3 : decide (wrap64 (us + more) ≤ li) = false := decide_eq_false c3
        have e4 := E4.out (by omega)
        clear E3 E4 c2 c3
        cases ab with
        | true =>
          obtain rfl := e4
          go_wp2_with fail
          go_ret2
          exact ⟨rfl, HE.out⟩
        | false =>
          obtain rfl := e4
          go_wp2_with fail
          go_ret2
          exact ⟨rfl, HE.out⟩
end Go.Proofs.YtlpjggilkfpleaaGreat

/-
  Contracts of ctrl: grown, check. Condition: which numbers are ints.
-/
namespace Go.Proofs.YtlpjggilkfpleaaGreat
open Go.RowKit Go.Maps
set_option maxRecDepth 100000
set_option linter.unusedVariables false

theorem growN_ok {x : Nd} (h : NdOk x) (p e q : Int) : NdOk (growN x p e q) := by
  intro v hv
  simp only [growN, List.mem_cons, List.not_mem_nil, or_false] at hv
  rcases hv with rfl | rfl | rfl | rfl | rfl | rfl | rfl | rfl | rfl | rfl | rfl
  · exact h _ (by simp)
  · exact h _ (by simp)
  · exact h _ (by simp)
  · exact h _ (by simp)
  · exact h _ (by simp)
  · exact h _ (by simp)
  · exact wrap_in _
  · exact wrap_in _
  · exact wrap_in _
  · exact h _ (by simp)
  · exact h _ (by simp)
set_option maxHeartbeats 3200000 in
theorem grown_any (x : Nd) (p e q : Int) (w : World) : Calls Tryz.prog 46 #[.agg #[.int .i64 x.y, .int .i64 x.i, .int .i64 x.p, .int .i64 x.f, .int .i64 x.o, .bool x.ab, .int .i64 x.li, .int .i64 x.pr, .int .i64 x.en, .int .i64 x.ex, .int .i64 x.la, .int .i64 x.ca], .int .i64 p, .int .i64 e, .int .i64 q] w fun r w' => r = .returned (.agg #[.int .i64 (growN x p e q).y, .int .i64 (growN x p e q).i, .int .i64 (growN x p e q).p, .int .i64 (growN x p e q).f, .int .i64 (growN x p e q).o, .bool (growN x p e q).ab, .int .i64 (growN x p e q).li, .int .i64 (growN x p e q).pr, .int .i64 (growN x p e q).en, .int .i64 (growN x p e q).ex, .int .i64 (growN x p e q).la, .int .i64 (growN x p e q).ca]) ∧ Below w.heap.size w w' := by
  unfold growN
  obtain ⟨y, i, pp, f, o, ab, li, pr, en, ex, la, ca⟩ := x
  simp only
  go_enter Tryz.func46, Tryz.ntmps46
  go_wp2_with fail
  refine bodyPost_ret (results_cell_row rfl _ _ (w.heap.size + 1) _ _ _ _ rfl (heap_alloc2_new w _ _) Tryz.underlying23 rfl node_size) rfl ?_
  exact ⟨rfl, ((Below.refl _ _).alloc (Nat.le_refl _) _).alloc (by simp) _⟩
set_option maxHeartbeats 3200000 in
theorem check_any (x : Nd) (hx : NdOk x) (p e q : Int) (w : World) : Calls Tryz.prog 45 #[.agg #[.int .i64 x.y, .int .i64 x.i, .int .i64 x.p, .int .i64 x.f, .int .i64 x.o, .bool x.ab, .int .i64 x.li, .int .i64 x.pr, .int .i64 x.en, .int .i64 x.ex, .int .i64 x.la, .int .i64 x.ca], .int .i64 p, .int .i64 e, .int .i64 q] w fun r w' => r = .returned (.tuple #[.bool (chkN x p e q).1, .int .i64 (chkN x p e q).2]) ∧ Below w.heap.size w w' := by
  obtain ⟨w1, hw1⟩ : ∃ w1, w1 = w.alloc (.cells #[.int .i64 x.y, .int .i64 x.i, .int .i64 x.p, .int .i64 x.f, .int .i64 x.o, .bool x.ab, .int .i64 x.li, .int .i64 x.pr, .int .i64 x.en, .int .i64 x.ex, .int .i64 x.la, .int .i64 x.ca] 23) := ⟨_, rfl⟩
  have hb1 : Below w.heap.size w w1 := by rw [hw1]; exact (Below.refl _ _).alloc (Nat.le_refl _) _
  have hblk : w1.heap[w.heap.size]? = some (.cells #[.int .i64 x.y, .int .i64 x.i, .int .i64 x.p, .int .i64 x.f, .int .i64 x.o, .bool x.ab, .int .i64 x.li, .int .i64 x.pr, .int .i64 x.en, .int .i64 x.ex, .int .i64 x.la, .int .i64 x.ca] 23 (0, 0)) := by rw [hw1]; exact heap_alloc_new w _
  have hs1 : w1.heap.size = w.heap.size + 1 := by rw [hw1]; simp
  have HR1 := Lib.hid (fun W => ctlRight_any x hx W)
  have HG := Lib.hid (fun W => grown_any x p e q W)
  have HR2 := Lib.hid (fun W => ctlRight_any (growN x p e q) (growN_ok hx p e q) W)
  have HAL := Lib.hid (fun W => allows_any x hx (wrap64 (wrap64 (p + e) + q)) (wrap_in _) W)
  have HC := Lib.hid (show ∀ W, Below w1.heap.size w1 W → W.heap[w.heap.size]? = some (.cells #[.int .i64 x.y, .int .i64 x.i, .int .i64 x.p, .int .i64 x.f, .int .i64 x.o, .bool x.ab, .int .i64 x.li, .int .i64 x.pr, .int .i64 x.en, .int .i64 x.ex, .int .i64 x.la, .int .i64 x.ca] 23 (0, 0)) from fun W hW => (hW.block w.heap.size (by omega)).trans hblk)
  have HB := Lib.hid hb1
  have e1 : rightN x = false → chkN x p e q = (false, 9) := fun h => by unfold chkN; rw [if_pos (.inl h)]
  have e2 : rightN (growN x p e q) = false → chkN x p e q = (false, 9) := fun h => by unfold chkN; rw [if_pos (.inr h)]
  have e3 : rightN x = true → rightN (growN x p e q) = true → (allowsN x (wrap64 (wrap64 (p + e) + q))).1 = true → chkN x p e q = ((allowsN x (wrap64 (wrap64 (p + e) + q))).2, 0) := fun h g k => by unfold chkN; rw [if_neg (by rw [h, g]; simp), if_pos k]
  have e4 : rightN x = true → rightN (growN x p e q) = true → (allowsN x (wrap64 (wrap64 (p + e) + q))).1 = false → chkN x p e q = (false, 11) := fun h g k => by unfold chkN; rw [if_neg (by rw [h, g]; simp), if_neg (by rw [k]; decide)]
  have E := Lib.hid (And.intro e1 (And.intro e2 (And.intro e3 e4)))
  clear e1 e2 e3 e4 hx hblk hs1 hb1
  generalize growN x p e q = G at HG HR2 E
  generalize rightN x = r1 at HR1 E
  generalize rightN G = r2 at HR2 E
  generalize allowsN x (wrap64 (wrap64 (p + e) + q)) = al at HAL E
  generalize chkN x p e q = res at E ⊢
  obtain ⟨al1, al2⟩ := al
  obtain ⟨y, i, pp, f, o, ab, li, pr, en, ex, la, ca⟩ := x
  simp only at HR1 HG HAL HC E hw1 ⊢
  go_enter Tryz.func45, Tryz.ntmps45
  go_wp2_with fail
  rw [← hw1]
  clear hw1
  refine (HR1.out _).mono ?_
  rintro r w2 ⟨rfl, hb2⟩
  obtain ⟨z0, z1, z2, z3, z4, z5, z6, z7, z8, z9, z10, z11⟩ := node_cells (HC.out w2 hb2)
  have HB2 := Lib.hid hb2
  clear hb2 HR1
  cases r1 with
  | false =>
    obtain rfl := E.out.1 rfl
    have HE := Lib.hid (HB.out.trans (HB2.out.mono HB.out.size))
    clear E HC HG HR2 HAL
    go_wp2_with fail
    go_ret2
    exact ⟨rfl, HE.out⟩
  | true =>
    go_wp2_with fail
    refine (HG.out _).mono ?_
    rintro r w3 ⟨rfl, hb3⟩
    have hb13 := HB2.out.trans (hb3.mono HB2.out.size)
    obtain ⟨y0, y1, y2, y3, y4, y5, y6, y7, y8, y9, y10, y11⟩ := node_cells (HC.out w3 hb13)
    have HB3 := Lib.hid hb13
    clear hb3 hb13 HG HB2 z0 z1 z2 z3 z4 z5 z6 z7 z8 z9 z10 z11
    go_wp2_with fail
    refine (HR2.out _).mono ?_
    rintro r w4 ⟨rfl, hb4⟩
    have hb14 := HB3.out.trans (hb4.mono HB3.out.size)
    obtain ⟨x0, x1, x2, x3, x4, x5, x6, x7, x8, x9, x10, x11⟩ := node_cells (HC.out w4 hb14)
    have HB4 := Lib.hid hb14
    clear hb4 hb14 HR2 HB3 y0 y1 y2 y3 y4 y5 y6 y7 y8 y9 y10 y11
    cases r2 with
    | false =>
      obtain rfl := E.out.2.1 rfl
      have HE := Lib.hid (HB.out.trans (HB4.out.mono HB.out.size))
      clear E HC HAL
      go_wp2_with fail
      go_ret2
      exact ⟨rfl, HE.out⟩
    | true =>
      go_wp2_with fail
      refine (HAL.out _).mono ?_
      rintro r w5 ⟨rfl, hb5⟩
      have HE := Lib.hid (HB.out.trans ((HB4.out.trans (hb5.mono HB4.out.size)).mono HB.out.size))
      clear hb5 HAL HB4 HC x0 x1 x2 x3 x4 x5 x6 x7 x8 x9 x10 x11
      cases al1 with
      | true =>
        obtain rfl := E.out.2.2.1 (by first | rfl | trivial) (by first | rfl | trivial) (by first | rfl | trivial)
        clear E
        go_wp2_with fail
        go_ret2
        exact ⟨rfl, HE.out⟩
      | false =>
        obtain rfl := E.out.2.2.2 (by first | rfl | trivial) (by first | rfl | trivial) (by first | rfl | trivial)
        clear E
        go_wp2_with fail
        go_ret2
        exact ⟨rfl, HE.out⟩
end Go.Proofs.YtlpjggilkfpleaaGreat
