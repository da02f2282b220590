/-
  The check of the law of ctrl: it returns true. CtrlLess: it returns true. No condition beyond those that the statement itself says.
-/
import Derived.Test.YtlpjggilkfpleaaGreatCtlD
import Derived.Test.YtlpjggilkfpleaaGreatTreD
namespace Go.Proofs.YtlpjggilkfpleaaGreat
open Go.RowKit Go.Maps
set_option maxRecDepth 100000
set_option linter.unusedVariables false

abbrev cN1 : Nd := ⟨2020, 1, 0, 0, 0, true, 9, 0, 0, 0, 0, 0⟩
abbrev cN2 : Nd := ⟨2020, 2, 1, 0, 0, false, 4, 0, 0, 0, 0, 0⟩
abbrev twoC : VS := ((⟨[], []⟩ : VS).putN ⟨2020, 1, 0, 0, 0, true, 9, 0, 0, 0, 0, 0⟩).putN ⟨2020, 2, 1, 0, 0, false, 4, 0, 0, 0, 0, 0⟩
theorem twoC_one : (chargeR twoC 2020 2 5 0 0).1 = (true, 0) := by decide +kernel
theorem twoC_two : (chargeR (chargeR twoC 2020 2 5 0 0).2 2020 2 5 0 0).1 = (false, 11) := by decide +kernel
theorem twoC_len : (chargeR twoC 2020 2 5 0 0).2.C.length ≤ 1000000 := by decide +kernel
theorem c1_ok : NdOk ⟨2020, 1, 0, 0, 0, true, 9, 0, 0, 0, 0, 0⟩ := by intro v hv; simp only [List.mem_cons, List.not_mem_nil, or_false] at hv; rcases hv with rfl | rfl | rfl | rfl | rfl | rfl | rfl | rfl | rfl | rfl | rfl <;> omega
theorem c2_ok : NdOk ⟨2020, 2, 1, 0, 0, false, 4, 0, 0, 0, 0, 0⟩ := by intro v hv; simp only [List.mem_cons, List.not_mem_nil, or_false] at hv; rcases hv with rfl | rfl | rfl | rfl | rfl | rfl | rfl | rfl | rfl | rfl | rfl <;> omega
theorem c3_ok : NdOk ⟨0, 0, 0, 0, 0, false, 5, 0, 0, 0, 0, 0⟩ := by intro v hv; simp only [List.mem_cons, List.not_mem_nil, or_false] at hv; rcases hv with rfl | rfl | rfl | rfl | rfl | rfl | rfl | rfl | rfl | rfl | rfl <;> omega
theorem c3_all : allowsN ⟨0, 0, 0, 0, 0, false, 5, 0, 0, 0, 0, 0⟩ 6 = (true, true) := by decide +kernel
set_option maxHeartbeats 6400000 in
theorem ctlAwake_any (w : World) : Calls Tryz.prog 8 #[] w fun e w' => e = .returned (.bool true) ∧ Below w.heap.size w w' := by
  have HN := Lib.hid (vNew_any w (fun _ => False) (fun k h => h.elim))
  go_enter Tryz.func8, Tryz.ntmps8
  go_wp2_with fail
  refine HN.out.mono ?_
  rintro e w1 ⟨v, m, c, rfl, h1, hb1, hv, hm, hc⟩
  obtain ⟨X, hX⟩ : ∃ X : Nat → Prop, X = fun k => False ∨ k = v ∨ k = m ∨ k = c := ⟨_, rfl⟩
  rw [← hX] at h1
  have H1 := Lib.hid (treePut_any h1 ⟨2020, 1, 0, 0, 0, true, 9, 0, 0, 0, 0, 0⟩ c1_ok (by decide))
  have HB := Lib.hid hb1
  have HC := Lib.hid hc
  clear HN h1 hb1 hv hm hc hX
  go_wp2_with fail
  refine H1.out.mono ?_
  rintro e w2 ⟨rfl, h2, t2⟩
  have H2 := Lib.hid (treePut_any h2 ⟨2020, 2, 1, 0, 0, false, 4, 0, 0, 0, 0, 0⟩ c2_ok (Nat.lt_of_le_of_lt (FewS.start.put (x := nKy 2020 1) (by rw [nKy_len]; omega) (ndVal ⟨2020, 1, 0, 0, 0, true, 9, 0, 0, 0, 0, 0⟩)).c (by decide)))
  have HB2 := Lib.hid (HB.out.trans (t2.below (fun k hk => by rw [hk]; exact HC.out) HB.out.size))
  clear h2 t2 H1 HB
  go_wp2_with fail
  refine H2.out.mono ?_
  rintro e w3 ⟨rfl, h3, t3⟩
  have HB3 := HB2.out.trans (t3.below (fun k hk => by rw [hk]; exact HC.out) HB2.out.size)
  have H3 := charge_any (S := twoC) h3 2020 2 5 0 0 (by unfold Nd64; omega) (by unfold Nd64; omega) (by unfold Nd64; omega) (by unfold Nd64; omega) (by unfold Nd64; omega) (by decide +kernel)
  have e1 := twoC_one
  have e2 := twoC_two
  have e3 := twoC_len
  generalize chargeR twoC 2020 2 5 0 0 = R at H3 e1 e2 e3
  obtain ⟨R1, S1⟩ := R
  simp only at e1 e2 e3 H3
  subst e1
  have H3 := Lib.hid H3
  have E2 := Lib.hid (And.intro e2 e3)
  have HB3 := Lib.hid HB3
  clear h3 t3 H2 HB2 e2 e3
  go_wp2_with fail
  refine H3.out.mono ?_
  rintro e w4 ⟨rfl, h4, t4⟩
  have HB4 := HB3.out.trans (t4.below (fun k hk => by rw [hk]; exact HC.out) HB3.out.size)
  have H4 := charge_any (S := S1) h4 2020 2 5 0 0 (by unfold Nd64; omega) (by unfold Nd64; omega) (by unfold Nd64; omega) (by unfold Nd64; omega) (by unfold Nd64; omega) E2.out.2
  rw [E2.out.1] at H4
  have H4 := Lib.hid H4
  have HB4 := Lib.hid HB4
  clear h4 t4 H3 HB3 E2
  go_wp2_with fail
  refine H4.out.mono ?_
  rintro e w5 ⟨rfl, h5, t5⟩
  have HB5 := HB4.out.trans (t5.below (fun k hk => by rw [hk]; exact HC.out) HB4.out.size)
  have H5 := allows_any ⟨0, 0, 0, 0, 0, false, 5, 0, 0, 0, 0, 0⟩ c3_ok 6 (by unfold Nd64; omega) w5
  rw [c3_all] at H5
  have H5 := Lib.hid H5
  have HB5 := Lib.hid HB5
  clear h5 t5 H4 HB4
  go_wp2_with fail
  refine H5.out.mono ?_
  rintro e w6 ⟨rfl, hb6⟩
  have HE := Lib.hid (HB5.out.trans (hb6.mono HB5.out.size))
  clear hb6 H5 HB5
  go_wp2_with fail
  go_ret
  exact ⟨rfl, HE.out⟩
theorem mask50 (x : Int) : 0 ≤ bits .and .i64 x 1125899906842623 ∧ bits .and .i64 x 1125899906842623 < 1125899906842624 := by
  have h : ((BitVec.ofInt 64 x) &&& (BitVec.ofInt 64 1125899906842623)).toNat ≤ 1125899906842623 := by
    rw [BitVec.toNat_and]
    exact Nat.le_trans Nat.and_le_right (by decide)
  show 0 ≤ IntKind.wrap .i64 ((((BitVec.ofInt 64 x) &&& (BitVec.ofInt 64 1125899906842623)).toNat : Nat) : Int) ∧ IntKind.wrap .i64 ((((BitVec.ofInt 64 x) &&& (BitVec.ofInt 64 1125899906842623)).toNat : Nat) : Int) < 1125899906842624
  rw [IntKind.wrap_i64]
  generalize ((BitVec.ofInt 64 x) &&& (BitVec.ofInt 64 1125899906842623)).toNat = z at h ⊢
  omega
abbrev In50 (n : Int) : Prop := 0 ≤ n ∧ n < 1125899906842624
theorem less_all {G : Nd} (hl : In50 G.li) (hp : In50 G.pr) (he : In50 G.en) (hq : In50 G.ex) {more : Int} (hm : -4294967296 < more ∧ more ≤ 4294967296) :
    allowsN G more = if more < 1 ∨ G.pr + G.en + G.ex + more ≤ G.li then (true, false) else if G.ab = true then (false, false) else (true, true) := by
  have hu : usedN G = G.pr + G.en + G.ex := by unfold usedN wrap64; omega
  have hin : inC (-1152921504606846976) 1152921504606846976 [usedN G, G.li] = true := by
    unfold inC
    rw [List.all_eq_true]
    intro z hz
    simp only [List.mem_cons, List.not_mem_nil, or_false] at hz
    unfold outC
    simp only [Bool.not_eq_true', Bool.or_eq_false_iff, decide_eq_false_iff_not]
    rw [hu] at hz
    rcases hz with rfl | rfl
    · omega
    · omega
  have hw : wrap64 (usedN G + more) = G.pr + G.en + G.ex + more := by rw [hu]; unfold wrap64; omega
  unfold allowsN
  rw [if_neg (by rw [hin]; simp; omega), hw]
set_option maxHeartbeats 12800000 in
theorem ctrlLess_any (x : Nd) (hx : NdOk x) (a b : Int) (ha : 0 ≤ a ∧ a < 4294967296) (hb : 0 ≤ b ∧ b < 4294967296) (w : World) :
    Calls Tryz.prog 3 #[.agg #[.int .i64 x.y, .int .i64 x.i, .int .i64 x.p, .int .i64 x.f, .int .i64 x.o, .bool x.ab, .int .i64 x.li, .int .i64 x.pr, .int .i64 x.en, .int .i64 x.ex, .int .i64 x.la, .int .i64 x.ca], .int .u32 a, .int .u32 b] w fun e w' => e = .returned (.bool true) ∧ Below w.heap.size w w' := by
  obtain ⟨y, i, pp, f, o, ab, li, pr, en, ex, la, ca⟩ := x
  simp only
  have m1 := mask50 li
  have m2 := mask50 pr
  have m3 := mask50 en
  have m4 := mask50 ex
  have hG : ∀ L P E Q, In50 L → In50 P → In50 E → In50 Q → NdOk ⟨y, i, pp, f, o, ab, L, P, E, Q, la, ca⟩ := by
    intro L P E Q h1 h2 h3 h4 v hv
    simp only [List.mem_cons, List.not_mem_nil, or_false] at hv
    rcases hv with rfl | rfl | rfl | rfl | rfl | rfl | rfl | rfl | rfl | rfl | rfl
    · exact hx _ (by simp)
    · exact hx _ (by simp)
    · exact hx _ (by simp)
    · exact hx _ (by simp)
    · exact hx _ (by simp)
    · omega
    · omega
    · omega
    · omega
    · exact hx _ (by simp)
    · exact hx _ (by simp)
  have HG := Lib.hid hG
  have HM := Lib.hid (And.intro m1 (And.intro m2 (And.intro m3 m4)))
  clear hx hG m1 m2 m3 m4
  go_enter Tryz.func3, Tryz.ntmps3
  go_wp2_with fail
  generalize bits BinOp.and IntKind.i64 li 1125899906842623 = L at HM ⊢
  generalize bits BinOp.and IntKind.i64 pr 1125899906842623 = P at HM ⊢
  generalize bits BinOp.and IntKind.i64 en 1125899906842623 = E at HM ⊢
  generalize bits BinOp.and IntKind.i64 ex 1125899906842623 = Q at HM ⊢
  obtain ⟨m1, m2, m3, m4⟩ := HM.out
  have hok := HG.out L P E Q m1 m2 m3 m4
  obtain ⟨w1, hw1⟩ : ∃ w1, w1 = w.alloc (.cells #[.int .i64 y, .int .i64 i, .int .i64 pp, .int .i64 f, .int .i64 o, .bool ab, .int .i64 L, .int .i64 P, .int .i64 E, .int .i64 Q, .int .i64 la, .int .i64 ca] 23) := ⟨_, rfl⟩
  have hb1 : Below w.heap.size w w1 := by rw [hw1]; exact (Below.refl _ _).alloc (Nat.le_refl _) _
  have hblk : w1.heap[w.heap.size]? = some (.cells #[.int .i64 y, .int .i64 i, .int .i64 pp, .int .i64 f, .int .i64 o, .bool ab, .int .i64 L, .int .i64 P, .int .i64 E, .int .i64 Q, .int .i64 la, .int .i64 ca] 23 (0, 0)) := by rw [hw1]; exact heap_alloc_new w _
  have hs1 : w1.heap.size = w.heap.size + 1 := by rw [hw1]; simp
  have HC := Lib.hid (show ∀ W, Below w1.heap.size w1 W → W.heap[w.heap.size]? = some (.cells #[.int .i64 y, .int .i64 i, .int .i64 pp, .int .i64 f, .int .i64 o, .bool ab, .int .i64 L, .int .i64 P, .int .i64 E, .int .i64 Q, .int .i64 la, .int .i64 ca] 23 (0, 0)) from fun W hW => (hW.block _ (by omega)).trans hblk)
  have hA1 := fun W => allows_any ⟨y, i, pp, f, o, ab, L, P, E, Q, la, ca⟩ hok (-a) (by unfold Nd64; omega) W
  have hA2 := fun W => allows_any ⟨y, i, pp, f, o, ab, L, P, E, Q, la, ca⟩ hok (1 + b) (by unfold Nd64; omega) W
  rw [less_all m1 m2 m3 m4 (by omega), if_pos (.inl (by omega))] at hA1
  rw [less_all m1 m2 m3 m4 (by omega)] at hA2
  simp only at hA1 hA2
  have HA1 := Lib.hid hA1
  have HB := Lib.hid hb1
  clear hA1 hok hb1 hblk hs1 HG HM
  rw [← hw1]
  clear hw1
  refine (HA1.out _).mono ?_
  rintro e w2 ⟨rfl, hb2⟩
  obtain ⟨z0, z1, z2, z3, z4, z5, z6, z7, z8, z9, z10, z11⟩ := node_cells (HC.out w2 hb2)
  have HB2 := Lib.hid hb2
  clear hb2 HA1
  by_cases hov : P + E + Q + (1 + b) ≤ L
  · rw [if_pos (.inr hov)] at hA2
    have HA2 := Lib.hid hA2
    clear hA2
    go_wp2_with fail
    refine (HA2.out _).mono ?_
    rintro e w3 ⟨rfl, hb3⟩
    have hb13 := HB2.out.trans (hb3.mono HB2.out.size)
    obtain ⟨y0, y1, y2, y3, y4, y5, y6, y7, y8, y9, y10, y11⟩ := node_cells (HC.out w3 hb13)
    have HE := Lib.hid (HB.out.trans (hb13.mono HB.out.size))
    have HW := Lib.hid (ctlAwake_any w3)
    have k1 : decide (P + E + Q + 1 + b > L) = false := decide_eq_false (by omega)
    clear hb3 hb13 HA2 HC HB HB2 z0 z1 z2 z3 z4 z5 z6 z7 z8 z9 z10 z11
    go_wp2_with fail
    refine HW.out.mono ?_
    rintro e w4 ⟨rfl, hb4⟩
    have HF := Lib.hid (HE.out.trans (hb4.mono HE.out.size))
    clear hb4
    go_wp2_with fail
    go_ret
    exact ⟨rfl, HF.out⟩
  · have hn1 : ¬ (1 + b < 1 ∨ P + E + Q + (1 + b) ≤ L) := by omega
    rw [if_neg hn1] at hA2
    cases ab with
    | true =>
      rw [if_pos rfl] at hA2
      have HA2 := Lib.hid hA2
      clear hA2
      go_wp2_with fail
      refine (HA2.out _).mono ?_
      rintro e w3 ⟨rfl, hb3⟩
      have hb13 := HB2.out.trans (hb3.mono HB2.out.size)
      obtain ⟨y0, y1, y2, y3, y4, y5, y6, y7, y8, y9, y10, y11⟩ := node_cells (HC.out w3 hb13)
      have HE := Lib.hid (HB.out.trans (hb13.mono HB.out.size))
      have HW := Lib.hid (ctlAwake_any w3)
      have k1 : decide (P + E + Q + 1 + b > L) = true := decide_eq_true (by omega)
      clear hb3 hb13 HA2 HC HB HB2 z0 z1 z2 z3 z4 z5 z6 z7 z8 z9 z10 z11
      go_wp2_with fail
      refine HW.out.mono ?_
      rintro e w4 ⟨rfl, hb4⟩
      have HF := Lib.hid (HE.out.trans (hb4.mono HE.out.size))
      clear hb4
      go_wp2_with fail
      go_ret
      exact ⟨rfl, HF.out⟩
    | false =>
      rw [if_neg (by decide)] at hA2
      have HA2 := Lib.hid hA2
      clear hA2
      go_wp2_with fail
      refine (HA2.out _).mono ?_
      rintro e w3 ⟨rfl, hb3⟩
      have hb13 := HB2.out.trans (hb3.mono HB2.out.size)
      obtain ⟨y0, y1, y2, y3, y4, y5, y6, y7, y8, y9, y10, y11⟩ := node_cells (HC.out w3 hb13)
      have HE := Lib.hid (HB.out.trans (hb13.mono HB.out.size))
      have HW := Lib.hid (ctlAwake_any w3)
      have k1 : decide (P + E + Q + 1 + b > L) = true := decide_eq_true (by omega)
      clear hb3 hb13 HA2 HC HB HB2 z0 z1 z2 z3 z4 z5 z6 z7 z8 z9 z10 z11
      go_wp2_with fail
      refine HW.out.mono ?_
      rintro e w4 ⟨rfl, hb4⟩
      have HF := Lib.hid (HE.out.trans (hb4.mono HE.out.size))
      clear hb4
      go_wp2_with fail
      go_ret
      exact ⟨rfl, HF.out⟩
end Go.Proofs.YtlpjggilkfpleaaGreat
