/-
  The texts DocT, DocU, DocV joined. Conditions: those that each part says at its head.
-/
import Derived.Test.YtlcbmobdokicaaaGreatDocS

/-
  The document's documents by contract over its own view: a line, Get. Conditions: which numbers are ints; fewer than 2^30 pairs.
-/
namespace Go.Proofs.YtlcbmobdokicaaaGreat
open Go.RowKit Go.Maps
set_option maxRecDepth 100000
set_option linter.unusedVariables false

theorem dlK_nil (K : List Int) : dlK (K, []) = none := by
  unfold dlK numsR
  rw [if_neg (fun h => absurd h.2 (show ¬ (unpackR ([] : List Int) ((4 : Nat) : Int)).2 = 0 by decide))]
  rfl
theorem dcK_nil (K : List Int) : dcK (K, []) = none := by
  unfold dcK numsR
  rw [if_neg (fun h => absurd h.2 (show ¬ (unpackR ([] : List Int) ((4 : Nat) : Int)).2 = 0 by decide))]
  rfl
theorem dc_split (i : Int) : splitK (keyL 68 [i]) = ([held4 i], 68, true) := by
  have hh : held4 (held4 i) = held4 i := by unfold held4; omega
  have e : keyL 68 [i] = keyL 68 [held4 i] := by
    show tagL 68 [held4 i] = tagL 68 [held4 (held4 i)]
    rw [hh]
  unfold splitK
  rw [e, split_key (fun x hx => by
    simp only [List.mem_cons, List.not_mem_nil, or_false] at hx
    subst hx
    exact held4_in _) (by simp)]
theorem dcK_key {i : Int} {b : List Int} {d : Dc} (h : dcK (keyL 68 [i], b) = some d) : d.i = held4 i := by
  unfold dcK numsR at h
  simp only [dc_split] at h
  split at h
  · have h := Option.some.inj (show some (dcOf _) = some d from h)
    subst h
    rfl
  · cases h
theorem docGet_held {S : VS} {i : Int} (h : ¬ held32 i = true) : docGet S i = none := by
  unfold docGet
  rw [if_neg h]
/-- What a call of line leaves. -/
def LineGot (w w' : World) (r : Ending) (o : Option Dl) : Prop := r = .returned (.tuple #[dlW o, .bool o.isSome]) ∧ (∀ y, o = some y → DlOk y) ∧ Below w.heap.size w w'
section
variable {w w' : World} {X : Nat → Prop} {x p q r N : Nat} {a : TL} {S : VS}
theorem rvGetS (h : RefS w X x p q r a S N) (hN : N ≤ 1000000000) {A : Option Addr} {n k B : Nat} {l : List Int} (hr : RB w B A n l) (hB : B ≤ w.heap.size) :
    Calls Tryz.prog 100 #[.pointer (some ⟨x, 0, none⟩), .slice A n k] w fun e w' => ∃ u, e = .returned (.tuple #[u, .bool (S.now (tx l)).isSome]) ∧ SV w' (fun k => k < w.heap.size) u ((S.now (tx l)).getD []) ∧ RowKit.Below w.heap.size w w' := by
  obtain ⟨b, d, h1, h2, h3, h4⟩ := h
  have := rvGet_any (k := k) h1 (Nat.le_trans h3 (by omega)) hr hB
  rw [h2.now] at this
  exact this
set_option maxHeartbeats 6400000 in
theorem rLine_any (h : RefS w X x p q r a S N) (hN : N ≤ 1000000000) (i j : Int) (hi : -9223372036854775808 ≤ i ∧ i ≤ 9223372036854775807) (hj : -9223372036854775808 ≤ j ∧ j ≤ 9223372036854775807) :
    Calls Tryz.prog 102 #[.pointer (some ⟨x, 0, none⟩), .int .i64 i, .int .i64 j] w fun e w' => LineGot w w' e (lineAt S i j) := by
  obtain ⟨w1, hw1⟩ : ∃ w1, w1 = w.alloc (.cells #[.int .i64 0, .int .i64 0, .int .i64 0, .int .i64 0] 58) := ⟨_, rfl⟩
  have hb1 : Below w.heap.size w w1 := by rw [hw1]; exact (Below.refl _ _).alloc (Nat.le_refl _) _
  have hs1 : w1.heap.size = w.heap.size + 1 := by rw [hw1]; simp
  have g1 : w1.heap[w.heap.size]? = some (.cells #[.int .i64 0, .int .i64 0, .int .i64 0, .int .i64 0] 58 (0, 0)) := by rw [hw1]; exact heap_alloc_new w _
  obtain ⟨w2, hw2⟩ : ∃ w2, w2 = w1.alloc (.cells #[.int .i64 i, .int .i64 j] 3) := ⟨_, rfl⟩
  have hb2 : Below w1.heap.size w1 w2 := by rw [hw2]; exact (Below.refl _ _).alloc (Nat.le_refl _) _
  have hb02 := hb1.trans (hb2.mono hb1.size)
  have hrow : RowN w2 (w.heap.size + 1) [i, j] := by rw [hw2, ← hs1]; exact RowN.a' (l := [i, j]) w1 3
  have HK := Lib.hid (rkey_at 76 [i, j] 2 9 (by omega) (fun z hz => by
    simp only [List.mem_cons, List.not_mem_nil, or_false] at hz
    rcases hz with rfl | rfl
    · exact hi
    · exact hj) rfl (by omega) rfl w2 (w.heap.size + 1) hrow)
  have HC := Lib.hid (show ∀ W, Below w2.heap.size w2 W → W.heap[w.heap.size]? = some (.cells #[.int .i64 0, .int .i64 0, .int .i64 0, .int .i64 0] 58 (0, 0)) ∧ Below w.heap.size w W ∧ RefS W X x p q r a S N from fun W hW =>
    ⟨(hW.block _ (by have := hb2.size; omega)).trans ((hb2.block _ (by omega)).trans g1), hb02.trans (hW.mono hb02.size), h.below (hb02.trans (hW.mono hb02.size))⟩)
  rw [hw1] at hw2
  clear hb1 hs1 g1 hb2 hb02 hrow h hw1 hi hj
  go_enter Tryz.func102, Tryz.ntmps102
  go_wp2_with fail
  rw [← hw2]
  clear hw2
  refine HK.out.mono ?_
  rintro e w3 ⟨A, k, rfl, ho⟩
  obtain ⟨A', k', e', hk', hr⟩ := ho.read (tagL_bytes (by omega) _)
  injection e' with e1 e2 e3
  subst e1 e3
  rw [lKyLen] at hr hk'
  have HGT := Lib.hid (rvGetS (k := k) (HC.out w3 ho.2).2.2 hN hr (Nat.le_refl _))
  have HR := Lib.hid (And.intro hr hk')
  have HB3 := Lib.hid ho.2
  clear ho hr HK hk' e2
  go_wp2_with fail
  refine HGT.out.mono ?_
  rintro e w4 ⟨u, rfl, hs, hb4⟩
  obtain ⟨Au, nu, ku, rfl, hu1, hu2, hu3, _⟩ := hs
  have HO := refDocLineOf_any A 9 k Au nu ku (keyL 76 [i, j], (S.now (tx (keyL 76 [i, j]))).getD []) _ w4 ((HR.out.1.below hb4).more hb4.size) hu3 (Nat.le_refl _) HR.out.2 hu1 (by decide) (Nat.le_trans hu2 (by unfold maxLen; omega))
  rw [docLineV_w, dlK_some] at HO
  have hLA : dlK (keyL 76 [i, j], (S.now (tx (keyL 76 [i, j]))).getD []) = lineAt S i j := rfl
  rw [hLA] at HO
  have hnn : S.now (tx (keyL 76 [i, j])) = none → lineAt S i j = none := fun q => by
    unfold lineAt
    rw [q, Option.getD_none, dlK_nil]
  have hlok : ∀ y, lineAt S i j = some y → DlOk y := fun y hy => dlK_ok (keyL_bytes (by omega) _) hu3.bytes hy
  obtain ⟨o, ho⟩ : ∃ o, o = lineAt S i j := ⟨_, rfl⟩
  rw [← ho] at HO hlok hnn
  have HO := Lib.hid HO
  have HLK := Lib.hid hlok
  have HNN := Lib.hid hnn
  have HOO := Lib.hid ho
  have HB4 := Lib.hid (HB3.out.trans (hb4.mono HB3.out.size))
  obtain ⟨sn, hsn⟩ : ∃ sn, sn = S.now (tx (keyL 76 [i, j])) := ⟨_, rfl⟩
  rw [← hsn] at HNN ⊢
  clear hu1 hu2 hu3 hb4 HGT HR HB3 hLA hnn hlok ho hsn
  go_wp2_with fail
  refine HO.out.mono ?_
  rintro e w5 ⟨rfl, hb5⟩
  have hb25 := HB4.out.trans (hb5.mono HB4.out.size)
  obtain ⟨y, hy⟩ : ∃ y, y = o.getD dlNil := ⟨_, rfl⟩
  obtain ⟨w6, hw6⟩ : ∃ w6, w6 = w5.alloc (.cells #[.int .i64 y.nd, .int .i64 y.o, .int .i64 y.l, .int .i64 y.c] 58 (0, 0)) := ⟨_, rfl⟩
  have hb6 : Below w5.heap.size w5 w6 := by rw [hw6]; exact (Below.refl _ _).alloc (Nat.le_refl _) _
  obtain ⟨q1, q3, _⟩ := HC.out w6 (hb25.trans (hb6.mono hb25.size))
  obtain ⟨z0, z1, z2, z3⟩ := docLine_cells q1
  have f0 := dcFree q1 0
  have f1 := dcFree q1 1
  have f2 := dcFree q1 2
  have f3 := dcFree q1 3
  have HG := Lib.hid (docLine_set (x0 := .int .i64 y.nd) (x1 := .int .i64 y.o) (x2 := .int .i64 y.l) (x3 := .int .i64 y.c) q1)
  have HE := Lib.hid (show ∀ b, b = o.isSome → LineGot w ((((w6.setCell ⟨w.heap.size, 0, none⟩ (.int .i64 y.nd)).setCell ⟨w.heap.size, 1, none⟩ (.int .i64 y.o)).setCell ⟨w.heap.size, 2, none⟩ (.int .i64 y.l)).setCell ⟨w.heap.size, 3, none⟩ (.int .i64 y.c)) (.returned (.tuple #[.agg #[.int .i64 y.nd, .int .i64 y.o, .int .i64 y.l, .int .i64 y.c], .bool b])) (lineAt S i j) from fun b hb => by
    rw [← HOO.out, hb, hy]
    refine ⟨rfl, HLK.out, ?_⟩
    rw [← hy]
    exact below_box (below_box (below_box (below_box q3 (Nat.le_refl _) 0 _) (Nat.le_refl _) 1 _) (Nat.le_refl _) 2 _) (Nat.le_refl _) 3 _)
  have HB2 := Lib.hid (show (sn.isSome && o.isSome) = o.isSome from by
    cases sn with
    | none => rw [HNN.out rfl]; rfl
    | some _ => rw [Option.isSome_some, Bool.true_and])
  unfold dlW
  rw [← hy]
  rw [hw6] at z0 z1 z2 z3 f0 f1 f2 f3
  obtain ⟨nd, oo, ll, cc⟩ := y
  simp only at hw6 z0 z1 z2 z3 HG HE ⊢
  obtain ⟨os, hos⟩ : ∃ os, os = o.isSome := ⟨_, rfl⟩
  rw [← hos] at HB2 HE ⊢
  obtain ⟨ss, hss⟩ : ∃ ss, ss = sn.isSome := ⟨_, rfl⟩
  rw [← hss] at HB2 ⊢
  clear hb25 hb6 q1 q3 HO HB4 HNN hy hos hss HOO HLK
  cases ss with
  | false =>
    have HB3 := Lib.hid (show false = os from by have := HB2.out; rwa [Bool.false_and] at this)
    clear HB2
    go_wp2_with fail
    rw [← hw6]
    refine bodyPost_ret (results_ct rfl _ w.heap.size _ rfl (run_loadVar_row _ _ _ _ _ (0, 0) _ HG.out Tryz.underlying58 rfl docLine_size)) rfl ?_
    exact HE.out _ HB3.out
  | true =>
    clear HB2
    cases os with
    | false =>
      go_wp2_with fail
      rw [← hw6]
      refine bodyPost_ret (results_ct rfl _ w.heap.size _ rfl (run_loadVar_row _ _ _ _ _ (0, 0) _ HG.out Tryz.underlying58 rfl docLine_size)) rfl ?_
      exact HE.out _ (by first | rfl | trivial)
    | true =>
      go_wp2_with fail
      rw [← hw6]
      refine bodyPost_ret (results_ct rfl _ w.heap.size _ rfl (run_loadVar_row _ _ _ _ _ (0, 0) _ HG.out Tryz.underlying58 rfl docLine_size)) rfl ?_
      exact HE.out _ (by first | rfl | trivial)
end
end Go.Proofs.YtlcbmobdokicaaaGreat

/-
  The document's documents by contract over its own view: Get. Conditions: which numbers are ints; fewer than 2^30 pairs.
-/
namespace Go.Proofs.YtlcbmobdokicaaaGreat
open Go.RowKit Go.Maps
set_option maxRecDepth 100000
set_option linter.unusedVariables false

section
variable {w w' : World} {X : Nat → Prop} {x p q r N : Nat} {a : TL} {S : VS}
set_option maxHeartbeats 12800000 in
theorem rDocsGet_any (h : RefS w X x p q r a S N) (hN : N ≤ 1000000000) (i : Int) (hi : -9223372036854775808 ≤ i ∧ i ≤ 9223372036854775807) :
    Calls Tryz.prog 55 #[.pointer (some ⟨x, 0, none⟩), .int .i64 i] w fun e w' => DocGot w w' e (docGet S i) := by
  have hEND : ∀ W, Below w.heap.size w W → docGet S i = none → DocGot w W (.returned (.tuple #[.agg #[.int .i64 0, .int .i64 0, .int .i64 0, .int .i64 0, .int .i64 0], .slice none 0 0, .bool false])) (docGet S i) := fun W hW hn => by
    rw [hn]
    exact ⟨none, 0, rfl, Enc.Own.start _ _ _, (fun x hx => by cases hx), (fun p hp => by cases hp), hW⟩
  have e0 : docAt S i = none → docGet S i = none := fun hq => by
    by_cases hh : held32 i = true
    · exact docGet_none hh hq
    · exact docGet_held hh
  have e1 : ∀ d, docAt S i = some d → d.i ≠ i → docGet S i = none := fun d hq hne => docGet_held fun hh => hne (by
    have h1 := dcK_key (b := (S.now (tx (keyL 68 [i]))).getD []) hq
    have h2 := (held32_iff _).1 hh
    rw [h1]
    unfold held4
    omega)
  have e2 : ∀ d, docAt S i = some d → d.i = i → held32 i = true := fun d hq he => (held32_iff _).2 (by
    have h1 := dcK_key (b := (S.now (tx (keyL 68 [i]))).getD []) hq
    rw [he] at h1
    have h2 := held4_in i
    omega)
  obtain ⟨w1, hw1⟩ : ∃ w1, w1 = w.alloc (.cells #[.int .i64 0, .int .i64 0, .int .i64 0, .int .i64 0, .int .i64 0] 66) := ⟨_, rfl⟩
  have hb1 : Below w.heap.size w w1 := by rw [hw1]; exact (Below.refl _ _).alloc (Nat.le_refl _) _
  have hs1 : w1.heap.size = w.heap.size + 1 := by rw [hw1]; simp
  have g1 : w1.heap[w.heap.size]? = some (.cells #[.int .i64 0, .int .i64 0, .int .i64 0, .int .i64 0, .int .i64 0] 66 (0, 0)) := by rw [hw1]; exact heap_alloc_new w _
  obtain ⟨w2, hw2⟩ : ∃ w2, w2 = w1.alloc (.cells #[.int .i64 i] 3) := ⟨_, rfl⟩
  have hb2 : Below w1.heap.size w1 w2 := by rw [hw2]; exact (Below.refl _ _).alloc (Nat.le_refl _) _
  have hb02 := hb1.trans (hb2.mono hb1.size)
  have hrow : RowN w2 (w.heap.size + 1) [i] := by rw [hw2, ← hs1]; exact RowN.a' (l := [i]) w1 3
  have HK := Lib.hid (rkey_at 68 [i] 1 5 (by omega) (fun z hz => by obtain rfl := List.mem_singleton.1 hz; exact hi) rfl (by omega) rfl w2 (w.heap.size + 1) hrow)
  have HC := Lib.hid (show ∀ W, Below w2.heap.size w2 W → W.heap[w.heap.size]? = some (.cells #[.int .i64 0, .int .i64 0, .int .i64 0, .int .i64 0, .int .i64 0] 66 (0, 0)) ∧ Below w.heap.size w W ∧ RefS W X x p q r a S N from fun W hW =>
    ⟨(hW.block _ (by have := hb2.size; omega)).trans ((hb2.block _ (by omega)).trans g1), hb02.trans (hW.mono hb02.size), h.below (hb02.trans (hW.mono hb02.size))⟩)
  have HI := Lib.hid hi
  have HEND := Lib.hid hEND
  rw [hw1] at hw2
  clear hb1 hs1 g1 hb2 hb02 hrow h hw1 hi hEND
  go_enter Tryz.func55, Tryz.ntmps55
  go_wp2_with fail
  rw [← hw2]
  clear hw2
  refine HK.out.mono ?_
  rintro e w3 ⟨A, k, rfl, ho⟩
  obtain ⟨A', k', e', hk', hr⟩ := ho.read (tagL_bytes (by omega) _)
  injection e' with e1' e2' e3'
  subst e1' e3'
  rw [dKyLen] at hr hk'
  have HGT := Lib.hid (rvGetS (k := k) (HC.out w3 ho.2).2.2 hN hr (Nat.le_refl _))
  have HR := Lib.hid (And.intro hr hk')
  have HB3 := Lib.hid ho.2
  clear ho hr HK hk' e2'
  go_wp2_with fail
  refine HGT.out.mono ?_
  rintro e w4 ⟨u, rfl, hs, hb4⟩
  obtain ⟨Au, nu, ku, rfl, hu1, hu2, hu3, _⟩ := hs
  have HDO := refDocOf_any A 5 k Au nu ku (keyL 68 [i], (S.now (tx (keyL 68 [i]))).getD []) _ w4 ((HR.out.1.below hb4).more hb4.size) hu3 (Nat.le_refl _) HR.out.2 hu1 (by decide) (Nat.le_trans hu2 (by unfold maxLen; omega))
  rw [docV_w, dcK_some] at HDO
  have hDA : dcK (keyL 68 [i], (S.now (tx (keyL 68 [i]))).getD []) = docAt S i := rfl
  rw [hDA] at HDO
  have hnn : S.now (tx (keyL 68 [i])) = none → docAt S i = none := fun q => by
    unfold docAt
    rw [show S.now (dKy i) = none from q, Option.getD_none, dcK_nil]
  have hdok : ∀ d, docAt S i = some d → DcOk d := fun d hd => dcK_ok (keyL_bytes (by omega) _) hu3.bytes hd
  have E0 := Lib.hid e0
  have E1 := Lib.hid e1
  have E2 := Lib.hid (fun (d : Dc) (q : docAt S i = some d) (g : d.i = i) (z : docIn d = false) => docGet_out (e2 d q g) q z)
  have E3 := Lib.hid (fun (d : Dc) (q : docAt S i = some d) (g : d.i = i) (z : docIn d = true) => docGet_in (e2 d q g) q z)
  have HDO := Lib.hid HDO
  have HDK := Lib.hid hdok
  have HNN := Lib.hid hnn
  have HB4 := Lib.hid (HB3.out.trans (hb4.mono HB3.out.size))
  clear e0 e1 e2
  generalize docAt S i = o at HDO HDK HNN E0 E1 E2 E3
  obtain ⟨sn, hsn⟩ : ∃ sn, sn = S.now (tx (keyL 68 [i])) := ⟨_, rfl⟩
  rw [← hsn] at HNN ⊢
  clear hu1 hu2 hu3 hb4 HGT HR HB3 hDA hnn hdok hsn
  go_wp2_with fail
  refine HDO.out.mono ?_
  rintro e w5 ⟨rfl, hb5⟩
  have HB5 := Lib.hid (HB4.out.trans (hb5.mono HB4.out.size))
  clear hb5 HDO HB4
  cases o with
  | none =>
    have hn := E0.out rfl
    obtain ⟨w6, hw6⟩ : ∃ w6, w6 = w5.alloc (.cells #[.int .i64 0, .int .i64 0, .int .i64 0, .int .i64 0, .int .i64 0] 66 (0, 0)) := ⟨_, rfl⟩
    have hb6 : Below w5.heap.size w5 w6 := by rw [hw6]; exact (Below.refl _ _).alloc (Nat.le_refl _) _
    have HB6 := Lib.hid (HB5.out.trans (hb6.mono HB5.out.size))
    simp only [dcW_none, Option.isSome_none]
    clear hb6 E0 E1 E2 E3 HDK HNN
    generalize sn.isSome = ss
    cases ss with
    | false =>
      obtain ⟨q1, q3, _⟩ := HC.out w6 (HB6.out)
      obtain ⟨r1, r2⟩ := dcBox q1 rfl q3 (Nat.le_refl _) dcNil
      have HG := Lib.hid r1
      have HE := Lib.hid (HEND.out _ r2 hn)
      obtain ⟨z0, z1, z2, z3, z4⟩ := doc_cells q1
      have f0 := dcFree q1 0
      have f1 := dcFree q1 1
      have f2 := dcFree q1 2
      have f3 := dcFree q1 3
      have f4 := dcFree q1 4
      clear hn q1 q3 r1 r2
      rw [hw6] at z0 z1 z2 z3 z4 f0 f1 f2 f3 f4
      go_wp2_with fail
      rw [← hw6]
      refine bodyPost_ret (results_ctt rfl _ w.heap.size _ rfl (run_loadVar_row _ _ _ _ _ (0, 0) _ HG.out Tryz.underlying66 rfl doc_size)) rfl ?_
      exact HE.out
    | true =>
      obtain ⟨q1, q3, _⟩ := HC.out w6 (HB6.out)
      obtain ⟨r1, r2⟩ := dcBox q1 rfl q3 (Nat.le_refl _) dcNil
      have HG := Lib.hid r1
      have HE := Lib.hid (HEND.out _ r2 hn)
      obtain ⟨z0, z1, z2, z3, z4⟩ := doc_cells q1
      have f0 := dcFree q1 0
      have f1 := dcFree q1 1
      have f2 := dcFree q1 2
      have f3 := dcFree q1 3
      have f4 := dcFree q1 4
      clear hn q1 q3 r1 r2
      rw [hw6] at z0 z1 z2 z3 z4 f0 f1 f2 f3 f4
      go_wp2_with fail
      rw [← hw6]
      refine bodyPost_ret (results_ctt rfl _ w.heap.size _ rfl (run_loadVar_row _ _ _ _ _ (0, 0) _ HG.out Tryz.underlying66 rfl doc_size)) rfl ?_
      exact HE.out
  | some d =>
    obtain ⟨di, dk, dy, df, dn⟩ := d
    have hdok := HDK.out _ rfl
    have hss : sn.isSome = true := by
      cases sn with
      | none => cases HNN.out rfl
      | some _ => rfl
    obtain ⟨w6, hw6⟩ : ∃ w6, w6 = w5.alloc (.cells #[.int .i64 di, .int .i64 dk, .int .i64 dy, .int .i64 df, .int .i64 dn] 66 (0, 0)) := ⟨_, rfl⟩
    have hb6 : Below w5.heap.size w5 w6 := by rw [hw6]; exact (Below.refl _ _).alloc (Nat.le_refl _) _
    have hs6 : w6.heap.size = w5.heap.size + 1 := by rw [hw6]; simp
    have g6 : w6.heap[w5.heap.size]? = some (.cells #[.int .i64 di, .int .i64 dk, .int .i64 dy, .int .i64 df, .int .i64 dn] 66 (0, 0)) := by rw [hw6]; exact heap_alloc_new w5 _
    have HB6 := Lib.hid (HB5.out.trans (hb6.mono HB5.out.size))
    have HC6 := Lib.hid (show ∀ W, Below w6.heap.size w6 W → W.heap[w5.heap.size]? = some (.cells #[.int .i64 di, .int .i64 dk, .int .i64 dy, .int .i64 df, .int .i64 dn] 66 (0, 0)) from fun W hW => (hW.block _ (by omega)).trans g6)
    rw [hss]
    simp only [dcW, Option.getD_some, Option.isSome_some]
    clear hb6 hs6 g6 HB5 HNN hss
    by_cases g0 : di = i
    case neg =>
      have k0 : (di != i) = true := by simp [g0]
      have hn := E1.out _ rfl g0
      clear E0 E1 E2 E3 HDK hdok g0
      obtain ⟨q1, q3, _⟩ := HC.out w6 (HB6.out)
      obtain ⟨r1, r2⟩ := dcBox q1 rfl q3 (Nat.le_refl _) dcNil
      have HG := Lib.hid r1
      have HE := Lib.hid (HEND.out _ r2 hn)
      obtain ⟨z0, z1, z2, z3, z4⟩ := doc_cells q1
      have f0 := dcFree q1 0
      have f1 := dcFree q1 1
      have f2 := dcFree q1 2
      have f3 := dcFree q1 3
      have f4 := dcFree q1 4
      clear hn q1 q3 r1 r2
      rw [hw6] at z0 z1 z2 z3 z4 f0 f1 f2 f3 f4
      go_wp2_with fail
      rw [← hw6]
      refine bodyPost_ret (results_ctt rfl _ w.heap.size _ rfl (run_loadVar_row _ _ _ _ _ (0, 0) _ HG.out Tryz.underlying66 rfl doc_size)) rfl ?_
      exact HE.out
    have k0 : (di != i) = false := by simp [g0]
    by_cases g1 : dn < 1
    case pos =>
      have k3 : decide (dn < 1) = true := decide_eq_true g1
      have hn := E2.out _ rfl g0 (by unfold docIn; simp only [Bool.and_eq_false_iff, decide_eq_false_iff_not]; omega)
      clear E0 E1 E2 E3 HDK hdok g0 g1
      obtain ⟨q1, q3, _⟩ := HC.out w6 (HB6.out)
      obtain ⟨r1, r2⟩ := dcBox q1 rfl q3 (Nat.le_refl _) dcNil
      have HG := Lib.hid r1
      have HE := Lib.hid (HEND.out _ r2 hn)
      obtain ⟨z0, z1, z2, z3, z4⟩ := doc_cells q1
      have f0 := dcFree q1 0
      have f1 := dcFree q1 1
      have f2 := dcFree q1 2
      have f3 := dcFree q1 3
      have f4 := dcFree q1 4
      clear hn q1 q3 r1 r2
      rw [hw6] at z0 z1 z2 z3 z4 f0 f1 f2 f3 f4
      go_wp2_with fail
      rw [← hw6]
      refine bodyPost_ret (results_ctt rfl _ w.heap.size _ rfl (run_loadVar_row _ _ _ _ _ (0, 0) _ HG.out Tryz.underlying66 rfl doc_size)) rfl ?_
      exact HE.out
    have k3 : decide (dn < 1) = false := decide_eq_false g1
    by_cases g2 : dn > 6
    case pos =>
      have k4 : decide (dn > 6) = true := decide_eq_true g2
      have hn := E2.out _ rfl g0 (by unfold docIn; simp only [Bool.and_eq_false_iff, decide_eq_false_iff_not]; omega)
      clear E0 E1 E2 E3 HDK hdok g0 g1 g2
      obtain ⟨q1, q3, _⟩ := HC.out w6 (HB6.out)
      obtain ⟨r1, r2⟩ := dcBox q1 rfl q3 (Nat.le_refl _) dcNil
      have HG := Lib.hid r1
      have HE := Lib.hid (HEND.out _ r2 hn)
      obtain ⟨z0, z1, z2, z3, z4⟩ := doc_cells q1
      have f0 := dcFree q1 0
      have f1 := dcFree q1 1
      have f2 := dcFree q1 2
      have f3 := dcFree q1 3
      have f4 := dcFree q1 4
      clear hn q1 q3 r1 r2
      rw [hw6] at z0 z1 z2 z3 z4 f0 f1 f2 f3 f4
      go_wp2_with fail
      rw [← hw6]
      refine bodyPost_ret (results_ctt rfl _ w.heap.size _ rfl (run_loadVar_row _ _ _ _ _ (0, 0) _ HG.out Tryz.underlying66 rfl doc_size)) rfl ?_
      exact HE.out
    have k4 : decide (dn > 6) = false := decide_eq_false g2
    obtain ⟨M, rfl⟩ : ∃ M : Nat, dn = (M : Int) := ⟨dn.toNat, by omega⟩
    have hd := E3.out _ rfl g0 (by unfold docIn; simp only [Bool.and_eq_true, decide_eq_true_eq]; omega)
    have hM6 : M ≤ 6 := by omega
    have HD := Lib.hid (show docGet S i = (linesAt S i M).map fun l => ((⟨di, dk, dy, df, (M : Int)⟩ : Dc), l) from hd)
    have HDOK := Lib.hid hdok
    clear hd E0 E1 E2 E3 HDK hdok g0 g1 g2
    go_wp2_with fail
    rw [← hw6]
    clear hw6
    go_loopw [12, 13] (fun u iv wr => ∃ (j : Nat) (L : List Dl) (A : Option Addr) (k : Nat), j ≤ M ∧ iv = .int .i64 j ∧ u = .slice A L.length k ∧ Hid (DlE.Own 58 wr w6.heap.size (.slice A L.length k) L ∧ (∀ x ∈ L, DlOk x) ∧ linesAt S i j = some L ∧ Below w6.heap.size w6 wr)) (fun _ iv _ => M - (intOf iv).toNat)
    case atStart => exact ⟨0, [], none, 0, Nat.zero_le _, rfl, rfl, Lib.hid ⟨Enc.Own.start _ _ _, (fun x hx => by cases hx), rfl, Below.refl _ _⟩⟩
    case round =>
      obtain ⟨j, L, A, k, hj, rfl, rfl, HJ⟩ := hrel
      by_cases hlt : j < M
      · have hlt' : (j : Int) < (M : Int) := by omega
        obtain ⟨hown, hLok, hla, hbw⟩ := HJ.out
        have hb6w : Below w2.heap.size w2 wr := HB6.out.trans (hbw.mono HB6.out.size)
        obtain ⟨_, _, hvw⟩ := HC.out wr hb6w
        obtain ⟨y0, y1, y2, y3, y4⟩ := doc_cells (HC6.out wr hbw)
        have HPL := Lib.hid (rLine_any hvw hN i (j : Int) HI.out (by omega))
        have F0 := Lib.hid (fun (q : lineAt S i j = none) => linesAt_stop hlt hla q)
        have F1 := Lib.hid (fun (x : Dl) (q : lineAt S i j = some x) => linesAt_more hla q)
        have HOW := Lib.hid (And.intro hown hLok)
        have HBW := Lib.hid hbw
        have HLL := Lib.hid (linesAt_len hla)
        generalize lineAt S i j = o at HPL F0 F1
        clear hown hLok hla hbw hb6w hvw HJ
        go_wp2_with fail
        refine HPL.out.mono ?_
        rintro e w8 ⟨rfl, hlk, hb8⟩
        have HB8 := Lib.hid hb8
        have HLK := Lib.hid hlk
        clear hb8 hlk HPL y0 y1 y2 y3 y4
        cases o with
        | none =>
          have hn : docGet S i = none := by rw [HD.out, F0.out rfl]; rfl
          obtain ⟨w9, hw9⟩ : ∃ w9, w9 = w8.alloc (.cells #[.int .i64 0, .int .i64 0, .int .i64 0, .int .i64 0] 58 (0, 0)) := ⟨_, rfl⟩
          have hb9 : Below w8.heap.size w8 w9 := by rw [hw9]; exact (Below.refl _ _).alloc (Nat.le_refl _) _
          have hall := HB6.out.trans ((HBW.out.trans ((HB8.out.trans (hb9.mono HB8.out.size)).mono HBW.out.size)).mono HB6.out.size)
          obtain ⟨q1, q3, _⟩ := HC.out w9 (hall)
          obtain ⟨r1, r2⟩ := dcBox q1 rfl q3 (Nat.le_refl _) dcNil
          have HG := Lib.hid r1
          have HE := Lib.hid (HEND.out _ r2 hn)
          obtain ⟨z0, z1, z2, z3, z4⟩ := doc_cells q1
          have f0 := dcFree q1 0
          have f1 := dcFree q1 1
          have f2 := dcFree q1 2
          have f3 := dcFree q1 3
          have f4 := dcFree q1 4
          simp only [dlW, Option.getD_none, dlNil, Option.isSome_none]
          clear hn hb9 hall q1 q3 r1 r2 F0 F1 HLK
          rw [hw9] at z0 z1 z2 z3 z4 f0 f1 f2 f3 f4
          go_wp2_with fail
          rw [← hw9]
          try rw [Exit.noGoto_ret]
          refine bodyPost_ret (results_ctt rfl _ w.heap.size _ rfl (run_loadVar_row _ _ _ _ _ (0, 0) _ HG.out Tryz.underlying66 rfl doc_size)) rfl ?_
          exact HE.out
        | some x =>
          have hxok := HLK.out x rfl
          have hmore := F1.out x rfl
          obtain ⟨x0, x1, x2, x3⟩ := x
          obtain ⟨wx, hwx⟩ : ∃ wx, wx = w8.alloc (.cells #[.int .i64 x0, .int .i64 x1, .int .i64 x2, .int .i64 x3] 58 (0, 0)) := ⟨_, rfl⟩
          have hX : Below w8.heap.size w8 wx := by rw [hwx]; exact (Below.refl _ _).alloc (Nat.le_refl _) _
          have hblk : wx.heap[w8.heap.size]? = some (.cells #[.int .i64 x0, .int .i64 x1, .int .i64 x2, .int .i64 x3] 58 (0, 0)) := by rw [hwx]; exact heap_alloc_new w8 _
          have hsz : wx.heap.size = w8.heap.size + 1 := by rw [hwx]; simp
          obtain ⟨r0, r1, r2, r3⟩ := docLine_cells hblk
          have hY : Below wx.heap.size wx (wx.alloc (.cells #[.int .i64 x0, .int .i64 x1, .int .i64 x2, .int .i64 x3] 58 (0, 0))) := (Below.refl _ _).alloc (Nat.le_refl _) _
          have hXY := HB8.out.trans ((hX.trans (hY.mono hX.size)).mono HB8.out.size)
          obtain ⟨v', w9, hrun, hown9, hb9, hg, hgr⟩ := (HOW.out.1.below hXY).append1 DlT (x := ⟨x0, x1, x2, x3⟩) (heap_alloc_new wx _) rfl hxok (by have := HLL.out; omega) (Nat.le_trans HBW.out.size hXY.size) 52
          rw [hsz] at hrun
          obtain ⟨A9, k9, rfl, hk9⟩ := hown9.shape
          have hlen9 : (L ++ [(⟨x0, x1, x2, x3⟩ : Dl)]).length = L.length + 1 := by rw [List.length_append]; rfl
          have HNEW := Lib.hid (show DlE.Own 58 w9 w6.heap.size (.slice A9 (L ++ [(⟨x0, x1, x2, x3⟩ : Dl)]).length k9) (L ++ [⟨x0, x1, x2, x3⟩]) ∧ (∀ x ∈ L ++ [(⟨x0, x1, x2, x3⟩ : Dl)], DlOk x) ∧ linesAt S i (j + 1) = some (L ++ [⟨x0, x1, x2, x3⟩]) ∧ Below w6.heap.size w6 w9 from
            ⟨hown9, fun x hx => by
              rcases List.mem_append.1 hx with hx | hx
              · exact HOW.out.2 x hx
              · obtain rfl := List.mem_singleton.1 hx
                exact hxok, hmore, (HBW.out.trans (hXY.mono HBW.out.size)).trans hb9⟩)
          rw [hlen9] at hrun
          have HRUN := Lib.hid hrun
          have HLEN9 := Lib.hid hlen9
          subst hwx
          clear hxok hmore hX hblk hsz hY hXY hrun hown9 hb9 hg hgr hk9 hlen9 F0 F1 HLK HOW
          simp only [dlW, Option.getD_some, Option.isSome_some]
          go_wp2_with (at_builtin; refine Lib.wpList_append_run _ rfl _ _ _ _ rfl _ _ rfl rfl _ _ HRUN.out ?_)
          go_roundw
          case rel => exact ⟨j + 1, _, A9, k9, by omega, by go_num, by rw [HLEN9.out], HNEW⟩
          case measure => simp [intOf]; omega
      · obtain rfl : j = M := by omega
        obtain ⟨hown, hLok, hla, hbw⟩ := HJ.out
        obtain ⟨q1, q3, _⟩ := HC.out wr (HB6.out.trans (hbw.mono HB6.out.size))
        have q6 := HC6.out wr hbw
        obtain ⟨r1, r2⟩ := dcBox q1 rfl q3 (Nat.le_refl _) ⟨di, dk, dy, df, (j : Int)⟩
        have HG := Lib.hid r1
        have hle : w.heap.size < w6.heap.size := (Array.getElem?_eq_some_iff.1 (HC.out w6 HB6.out).1).1
        have HE := Lib.hid (show DocGot w (((((wr.setCell ⟨w.heap.size, 0, none⟩ (.int .i64 di)).setCell ⟨w.heap.size, 1, none⟩ (.int .i64 dk)).setCell ⟨w.heap.size, 2, none⟩ (.int .i64 dy)).setCell ⟨w.heap.size, 3, none⟩ (.int .i64 df)).setCell ⟨w.heap.size, 4, none⟩ (.int .i64 (j : Int))) (.returned (.tuple #[.agg #[.int .i64 di, .int .i64 dk, .int .i64 dy, .int .i64 df, .int .i64 (j : Int)], .slice A L.length k, .bool true])) (docGet S i) from by
          rw [HD.out, hla]
          exact ⟨A, k, rfl, (hown.stays fun g hg => by
            have hgl := (hown.at_ g hg).1
            rw [heap_setCell_other _ _ _ _ (show g ≠ w.heap.size by omega), heap_setCell_other _ _ _ _ (show g ≠ w.heap.size by omega), heap_setCell_other _ _ _ _ (show g ≠ w.heap.size by omega), heap_setCell_other _ _ _ _ (show g ≠ w.heap.size by omega), heap_setCell_other _ _ _ _ (show g ≠ w.heap.size by omega)]).base_le (by omega), hLok, (fun p hp => by cases hp; exact HDOK.out), r2⟩)
        obtain ⟨z0, z1, z2, z3, z4⟩ := doc_cells q1
        obtain ⟨y0, y1, y2, y3, y4⟩ := doc_cells q6
        have f0 := dcFree q1 0
        have f1 := dcFree q1 1
        have f2 := dcFree q1 2
        have f3 := dcFree q1 3
        have f4 := dcFree q1 4
        clear hown hLok hla hbw q1 q3 q6 r1 r2 HJ
        go_wp2_with fail
        refine bodyPost_ret (results_ctt rfl _ w.heap.size _ rfl (run_loadVar_row _ _ _ _ _ (0, 0) _ HG.out Tryz.underlying66 rfl doc_size)) rfl ?_
        exact HE.out
end
end Go.Proofs.YtlcbmobdokicaaaGreat

/-
  The document's documents by contract over its own view: Set, All, Last. Conditions: which numbers are ints; fewer than 2^30 pairs.
-/
namespace Go.Proofs.YtlcbmobdokicaaaGreat
open Go.RowKit Go.Maps
set_option maxRecDepth 100000
set_option linter.unusedVariables false

section
variable {w w' : World} {X : Nat → Prop} {x p q r N : Nat} {a : TL} {S : VS}
theorem rLastS (h : RefS w X x p q r a S N) (hN : N ≤ 1000000000) (n : Int) (hn : -9223372036854775808 ≤ n ∧ n ≤ 9223372036854775807) :
    Calls Tryz.prog 122 #[.pointer (some ⟨x, 0, none⟩), .int .i64 n] w fun e w' => e = .returned (.int .i64 (seqV (S.now (tx (keyL 83 [n]))))) ∧ Below w.heap.size w w' := by
  obtain ⟨b, d, h1, h2, h3, h4⟩ := h
  have := rLast_any h1 (Nat.le_trans h3 (by omega)) n hn
  rw [h2.now] at this
  exact this
set_option maxHeartbeats 6400000 in
theorem rDocsSet_any (h : RefS w X x p q r a S N) (hN : N ≤ 1000000) (i j : Int) (y : Dl) (hy : DlOk y) (hi : -9223372036854775808 ≤ i ∧ i ≤ 9223372036854775807) (hj : -9223372036854775808 ≤ j ∧ j ≤ 9223372036854775807) :
    Calls Tryz.prog 57 #[.pointer (some ⟨x, 0, none⟩), .int .i64 i, .int .i64 j, .agg #[.int .i64 y.nd, .int .i64 y.o, .int .i64 y.l, .int .i64 y.c]] w fun e w' => e = .returned (.int .i64 (setLine S i j y).1) ∧ RefS w' X x p q r a (setLine S i j y).2 (N + 1) ∧ Touch (fun k => k = q ∨ k = r) w w' := by
  obtain ⟨w1, hw1⟩ : ∃ w1, w1 = w.alloc (.cells #[.int .i64 y.nd, .int .i64 y.o, .int .i64 y.l, .int .i64 y.c] 58) := ⟨_, rfl⟩
  have hb1 : Below w.heap.size w w1 := by rw [hw1]; exact (Below.refl _ _).alloc (Nat.le_refl _) _
  have hs1 : w1.heap.size = w.heap.size + 1 := by rw [hw1]; simp
  have hblk : w1.heap[w.heap.size]? = some (.cells #[.int .i64 y.nd, .int .i64 y.o, .int .i64 y.l, .int .i64 y.c] 58 (0, 0)) := by rw [hw1]; exact heap_alloc_new w _
  have HG := Lib.hid (rDocsGet_any (h.below hb1) (by omega) i hi)
  have e0 : (docGet S i).isSome = false → setLine S i j y = (7, S) := fun q => by
    unfold setLine
    cases hd : docGet S i with
    | none => rfl
    | some p => rw [hd] at q; cases q
  have e1 : ¬ (0 ≤ j ∧ j < ((dlsO (docGet S i)).length : Int)) → setLine S i j y = (7, S) := fun q => by
    unfold setLine
    cases hd : docGet S i with
    | none => rfl
    | some p => rw [hd] at q; exact if_neg q
  have e2 : (0 ≤ j ∧ j < ((dlsO (docGet S i)).length : Int)) → setLine S i j y = (0, S.putL i j y) := fun q => by
    unfold setLine
    cases hd : docGet S i with
    | none => rw [hd] at q; have : ((dlsO none).length : Int) = 0 := rfl; omega
    | some p => rw [hd] at q; exact if_pos q
  have HV := Lib.hid (show ∀ W, Below w.heap.size w W → RefS W X x p q r a S N from fun W hW => h.below hW)
  have H1 := Lib.hid (show ∀ W, Below w1.heap.size w1 W → W.cell? ⟨w.heap.size, 0, none⟩ = some (.int .i64 y.nd) ∧ W.cell? ⟨w.heap.size, 1, none⟩ = some (.int .i64 y.o) ∧ W.cell? ⟨w.heap.size, 2, none⟩ = some (.int .i64 y.l) ∧ W.cell? ⟨w.heap.size, 3, none⟩ = some (.int .i64 y.c) from fun W hW => docLine_cells ((hW.block _ (by omega)).trans hblk))
  have HB := Lib.hid hb1
  have hin : In64 [y.nd, y.o, y.l, y.c, i, j] := by
    intro z hz
    simp only [List.mem_cons, List.not_mem_nil, or_false] at hz
    rcases hz with rfl | rfl | rfl | rfl | rfl | rfl
    · exact hy _ (by simp)
    · exact hy _ (by simp)
    · exact hy _ (by simp)
    · exact hy _ (by simp)
    · exact hi
    · exact hj
  have HDL := Lib.hid (fun W => refDocLine_any i j y.nd y.o y.l y.c W hin)
  have E := Lib.hid (And.intro e0 (And.intro e1 e2))
  generalize setLine S i j y = res at E ⊢
  generalize docGet S i = o at HG E
  clear h hs1 hblk hb1 e0 e1 e2 hin hy hi
  go_enter Tryz.func57, Tryz.ntmps57
  go_wp2_with fail
  rw [← hw1]
  clear hw1
  refine HG.out.mono ?_
  rintro e w2 ⟨A, k, rfl, hown, _, _, hb2⟩
  unfold dcW
  generalize (o.map fun p => p.1).getD dcNil = D
  generalize (dlsO o).length = n at E hown ⊢
  generalize o.isSome = bb at E ⊢
  obtain ⟨w3, hw3⟩ : ∃ w3, w3 = w2.alloc (.cells #[.int .i64 D.i, .int .i64 D.k, .int .i64 D.y, .int .i64 D.f, .int .i64 D.n] 66 (0, 0)) := ⟨_, rfl⟩
  have hb3 : Below w2.heap.size w2 w3 := by rw [hw3]; exact (Below.refl _ _).alloc (Nat.le_refl _) _
  have hb13 := hb2.trans (hb3.mono hb2.size)
  have HT := Lib.hid (And.intro (HV.out w3 (HB.out.trans (hb13.mono HB.out.size))) (Touch.of_below (F := fun k => k = q ∨ k = r) (HB.out.trans (hb13.mono HB.out.size))))
  have HE7 := Lib.hid (And.intro (HT.out.1.more (Nat.le_succ N)) HT.out.2)
  obtain ⟨c0, c1, c2, c3⟩ := H1.out w3 hb13
  have HB13 := Lib.hid hb13
  rw [hw3] at c0 c1 c2 c3
  clear hown hb2 hb3 hb13 HG
  cases bb with
  | false =>
    obtain rfl := E.out.1 rfl
    clear E
    go_wp2_with fail
    go_ret
    exact ⟨rfl, by rw [← hw3]; exact HE7.out⟩
  | true =>
  by_cases g1 : j < 0
  · have k1 : decide (j < 0) = true := decide_eq_true g1
    obtain rfl := E.out.2.1 (by omega)
    clear E g1
    go_wp2_with fail
    go_ret
    exact ⟨rfl, by rw [← hw3]; exact HE7.out⟩
  have k1 : decide (j < 0) = false := decide_eq_false g1
  by_cases g2 : (n : Int) ≤ j
  · have k2 : decide ((n : Int) ≤ j) = true := decide_eq_true g2
    obtain rfl := E.out.2.1 (by omega)
    clear E g1 g2
    go_wp2_with fail
    go_ret
    exact ⟨rfl, by rw [← hw3]; exact HE7.out⟩
  have k2 : decide ((n : Int) ≤ j) = false := decide_eq_false g2
  obtain rfl := E.out.2.2 (by omega)
  clear E g1 g2 HE7
  go_wp2_with fail
  rw [← hw3]
  clear hw3 c0 c1 c2 c3
  refine (HDL.out _).mono ?_
  rintro e w4 hp
  obtain ⟨kA, kc, vA, vc, rfl, hk, hv, hb4⟩ := hp.svs HT.out.1.old (tagL_bytes (by omega) _) (packN_bytes _ _) (by rw [lKyLen]; omega) (by rw [packN_length]; simp)
  have e32 : (packN 8 [y.nd, y.o, y.l, y.c]).length = 32 := by rw [packN_length]; rfl
  rw [lKyLen] at hk ⊢
  rw [e32] at hv ⊢
  have HS := Lib.hid (rSetLine_at (HT.out.1.below hb4) (by omega) i j y hk hv)
  have HTT := Lib.hid (HT.out.2.trans (Touch.of_below (F := fun k => k = q ∨ k = r) hb4))
  clear hp hk hv hb4 e32 HT HDL HV H1 HB13
  go_wp2_with fail
  refine HS.out.mono ?_
  rintro e w5 ⟨rfl, h5, t5⟩
  have HE := Lib.hid (And.intro h5 (HTT.out.trans t5))
  clear h5 t5 HS HTT
  go_wp2_with fail
  go_ret
  exact ⟨rfl, HE.out⟩
end
end Go.Proofs.YtlcbmobdokicaaaGreat
