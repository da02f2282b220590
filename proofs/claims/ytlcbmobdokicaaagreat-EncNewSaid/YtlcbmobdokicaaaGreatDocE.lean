/-
  The texts DocD, DocE joined. Conditions: those that each part says at its head.
-/
import Derived.Test.YtlcbmobdokicaaaGreatDocC
import Derived.Lib.AppendZeros
import Derived.Test.YtlcbmobdokicaaaGreatManS
import Derived.Test.YtlcbmobdokicaaaGreatIntApp
import Derived.WalkMore

/-
  docs.Get by contract over a view in memory. Condition: which numbers are ints.
-/
namespace Go.Proofs.YtlcbmobdokicaaaGreat
open Go.RowKit Go.Maps
set_option maxRecDepth 100000
set_option linter.unusedVariables false

theorem results_ctt {fn : Func} {p u1 u2 : Tmp} {ty : TypeId} {P : Program} {w : World} (h : fn.results = #[.cell p ty, .tmp u1, .tmp u2]) (tmps : Array Value) (g : Nat) (cs : Array Value)
    (hp : tmps.getD p undef = .pointer (some ⟨g, 0, none⟩)) (hr : (loadVar ty ⟨g, 0, none⟩).run P w = .ok (.agg cs) w) :
    (results fn tmps).run P w = .ok (.tuple #[.agg cs, tmps.getD u1 undef, tmps.getD u2 undef]) w := by
  have e : (results fn tmps).run P w = ((asAddr (tmps.getD p undef)).run P w).andThen fun a w₁ => ((loadVar ty a).run P w₁).andThen fun v w₂ => .ok (.tuple #[v, tmps.getD u1 undef, tmps.getD u2 undef]) w₂ := by
    simp only [results, h]
    simp [Sem.run_bind, Result.andThen]
  rw [e, hp]
  simp [asAddr, hr, Result.andThen]
def dlsO : Option (Dc × List Dl) → List Dl
  | some p => p.2
  | none => []
/-- What a call of Get leaves. -/
def DocGot (w w' : World) (r : Ending) (o : Option (Dc × List Dl)) : Prop :=
  ∃ A k, r = .returned (.tuple #[dcW (o.map fun p => p.1), .slice A (dlsO o).length k, .bool o.isSome]) ∧ DlE.Own 58 w' w.heap.size (.slice A (dlsO o).length k) (dlsO o) ∧ (∀ x ∈ dlsO o, DlOk x) ∧ (∀ p, o = some p → DcOk p.1) ∧ Below w.heap.size w w'
theorem dcBox {w0 w : World} {g : Nat} {T : TypeId} {zs : Array Value} (hz : w.heap[g]? = some (.cells zs T (0, 0))) (hs : zs.size = 5) (hb : Below w0.heap.size w0 w) (hg : w0.heap.size ≤ g) (x : Dc) :
    (((((w.setCell ⟨g, 0, none⟩ (.int .i64 x.i)).setCell ⟨g, 1, none⟩ (.int .i64 x.k)).setCell ⟨g, 2, none⟩ (.int .i64 x.y)).setCell ⟨g, 3, none⟩ (.int .i64 x.f)).setCell ⟨g, 4, none⟩ (.int .i64 x.n)).heap[g]? = some (.cells (dcV x).toArray T (0, 0)) ∧ Below w0.heap.size w0 (((((w.setCell ⟨g, 0, none⟩ (.int .i64 x.i)).setCell ⟨g, 1, none⟩ (.int .i64 x.k)).setCell ⟨g, 2, none⟩ (.int .i64 x.y)).setCell ⟨g, 3, none⟩ (.int .i64 x.f)).setCell ⟨g, 4, none⟩ (.int .i64 x.n)) := by
  obtain ⟨l⟩ := zs
  match l, hs with
  | [z0, z1, z2, z3, z4], _ =>
    exact ⟨doc_set hz, below_box (below_box (below_box (below_box (below_box hb hg 0 _) hg 1 _) hg 2 _) hg 3 _) hg 4 _⟩
theorem dcFree {w : World} {g : Nat} {T : TypeId} {cs : Array Value} (h : w.heap[g]? = some (.cells cs T (0, 0))) : ∀ o, w.frozen? ⟨g, o, none⟩ = false := fun o => by simp [World.frozen?, h]
theorem docGet_none {S : VS} {i : Int} (h : held32 i = true) (hd : docAt S i = none) : docGet S i = none := by
  unfold docGet
  rw [if_pos h, hd]
theorem docGet_out {S : VS} {i : Int} (h : held32 i = true) {d : Dc} (hd : docAt S i = some d) (hn : docIn d = false) : docGet S i = none := by
  unfold docGet
  rw [if_pos h, hd]
  exact if_neg (by rw [hn]; decide)
theorem docGet_in {S : VS} {i : Int} (h : held32 i = true) {d : Dc} (hd : docAt S i = some d) (hn : docIn d = true) : docGet S i = (linesAt S i d.n.toNat).map fun l => (d, l) := by
  unfold docGet
  rw [if_pos h, hd]
  exact if_pos hn
theorem linesAt_stop {S : VS} {i : Int} {j N : Nat} {L : List Dl} (hj : j < N) (h : linesAt S i j = some L) (hn : lineAt S i j = none) : linesAt S i N = none :=
  linesAt_none (n := j + 1) hj (by unfold linesAt; rw [h]; simp only [hn])
theorem linesAt_more {S : VS} {i : Int} {j : Nat} {L : List Dl} {x : Dl} (h : linesAt S i j = some L) (hn : lineAt S i j = some x) : linesAt S i (j + 1) = some (L ++ [x]) := by
  unfold linesAt
  rw [h]
  simp only [hn]
section
variable {w w' : World} {X : Nat → Prop} {v m c : Nat} {S : VS}
set_option maxHeartbeats 12800000 in
theorem docsGet_any (h : ViewAt w X v m c S) (i : Int) (hi : -9223372036854775808 ≤ i ∧ i ≤ 9223372036854775807) :
    Calls Tryz.prog 29 #[.pointer (some ⟨v, 0, none⟩), .int .i64 i] w fun e w' => DocGot w w' e (docGet S i) := by
  have hEND : ∀ W, Below w.heap.size w W → (W.heap[w.heap.size]? = some (.cells (dcV dcNil).toArray 66 (0, 0))) → docGet S i = none → DocGot w W (.returned (.tuple #[.agg #[.int .i64 0, .int .i64 0, .int .i64 0, .int .i64 0, .int .i64 0], .slice none 0 0, .bool false])) (docGet S i) := fun W hW _ hn => by
    rw [hn]
    exact ⟨none, 0, rfl, Enc.Own.start _ _ _, (fun x hx => by cases hx), (fun p hp => by cases hp), hW⟩
  by_cases hh : held32 i = true
  · have hh' := (held32_iff _).1 hh
    have k1 : decide (i < 0) = false := decide_eq_false (by omega)
    have k2 : decide (i > 4294967295) = false := decide_eq_false (by omega)
    obtain ⟨w1, hw1⟩ : ∃ w1, w1 = w.alloc (.cells #[.int .i64 0, .int .i64 0, .int .i64 0, .int .i64 0, .int .i64 0] 66) := ⟨_, rfl⟩
    have hb1 : Below w.heap.size w w1 := by rw [hw1]; exact (Below.refl _ _).alloc (Nat.le_refl _) _
    have hs1 : w1.heap.size = w.heap.size + 1 := by rw [hw1]; simp
    have g1 : w1.heap[w.heap.size]? = some (.cells #[.int .i64 0, .int .i64 0, .int .i64 0, .int .i64 0, .int .i64 0] 66 (0, 0)) := by rw [hw1]; exact heap_alloc_new w _
    obtain ⟨w2, hw2⟩ : ∃ w2, w2 = w1.alloc (.cells #[.pointer (some ⟨v, 0, none⟩)] 106 (0, 0)) := ⟨_, rfl⟩
    have hb2 : Below w1.heap.size w1 w2 := by rw [hw2]; exact (Below.refl _ _).alloc (Nat.le_refl _) _
    have hs2 : w2.heap.size = w.heap.size + 2 := by rw [hw2]; simp [hs1]
    have g2 : w2.heap[w.heap.size + 1]? = some (.cells #[.pointer (some ⟨v, 0, none⟩)] 106 (0, 0)) := by rw [hw2, ← hs1]; exact heap_alloc_new w1 _
    obtain ⟨w3, hw3⟩ : ∃ w3, w3 = w2.alloc (.cells #[.int .i64 i] 3) := ⟨_, rfl⟩
    have hb3 : Below w2.heap.size w2 w3 := by rw [hw3]; exact (Below.refl _ _).alloc (Nat.le_refl _) _
    have hb02 := hb1.trans (hb2.mono hb1.size)
    have hb03 := hb02.trans (hb3.mono hb02.size)
    have hrow : RowN w3 (w.heap.size + 2) [i] := by rw [hw3, ← hs2]; exact RowN.a' (l := [i]) w2 3
    have HC := Lib.hid (show ∀ W, Below w3.heap.size w3 W → W.heap[w.heap.size]? = some (.cells #[.int .i64 0, .int .i64 0, .int .i64 0, .int .i64 0, .int .i64 0] 66 (0, 0)) ∧ W.heap[w.heap.size + 1]? = some (.cells #[.pointer (some ⟨v, 0, none⟩)] 106 (0, 0)) ∧ Below w.heap.size w W ∧ ViewAt W X v m c S from fun W hW =>
      have hW2 := hb3.trans (hW.mono hb3.size)
      ⟨(hW2.block _ (by omega)).trans ((hb2.block _ (by omega)).trans g1), (hW2.block _ (by omega)).trans g2, hb03.trans (hW.mono hb03.size), h.below (hb03.trans (hW.mono hb03.size))⟩)
    have HP := Lib.hid (filePair_any (h.below hb03) 68 [i] 1 5 (by omega) (fun z hz => by obtain rfl := List.mem_singleton.1 hz; exact hi) rfl (by omega) rfl (w.heap.size + 2) hrow)
    have HI := Lib.hid (And.intro hi (And.intro hh hs1))
    have HEND := Lib.hid hEND
    have f2 : w2.cell? ⟨w.heap.size + 1, 0, none⟩ = some (.pointer (some ⟨v, 0, none⟩)) := by rw [cell_of_row w2 _ 0 _ _ (0, 0) g2]; rfl
    have HF := Lib.hid f2
    clear h hi hb1 hb2 hb3 hb02 hb03 g1 g2 hrow hh hh' hEND f2
    have hs1' := hs1
    rw [hw1] at hw2
    rw [hw2] at hw3
    clear hw2 hs1 hs2 hs1' hw1
    go_enter Tryz.func29, Tryz.ntmps29
    go_wp2_with fail
    rw [← hw3]
    clear hw3 HF
    refine HP.out.mono ?_
    rintro e w4 ⟨A, k, Au, nu, ku, rfl, hk, hrk, hku, hnu, hru, hb4⟩
    have HDO := recDocOf_any A 5 k Au nu ku (keyL 68 [i], (S.now (tx (keyL 68 [i]))).getD []) _ w4 hrk hru (Nat.le_refl _) hk hku (by decide) (Nat.le_trans hnu (by unfold maxLen; omega))
    rw [docV_w, dcK_some] at HDO
    have hdok := fun d (q : docAt S i = some d) => dcK_ok (keyL_bytes (by omega) _) hru.bytes q
    have hDA : dcK (keyL 68 [i], (S.now (tx (keyL 68 [i]))).getD []) = docAt S i := rfl
    rw [hDA] at HDO
    have HDO := Lib.hid HDO
    have HDK := Lib.hid hdok
    have HB4 := Lib.hid hb4
    have E0 := Lib.hid (fun (q : docAt S i = none) => docGet_none HI.out.2.1 q)
    have E1 := Lib.hid (fun (d : Dc) (q : docAt S i = some d) (z : docIn d = false) => docGet_out HI.out.2.1 q z)
    have E2 := Lib.hid (fun (d : Dc) (q : docAt S i = some d) (z : docIn d = true) => docGet_in HI.out.2.1 q z)
    generalize docAt S i = o at HDO HDK E0 E1 E2
    clear hrk hru hb4 hdok hDA HP hk hku hnu
    go_wp2_with fail
    refine HDO.out.mono ?_
    rintro e w5 ⟨rfl, hb5⟩
    have HB5 := Lib.hid (HB4.out.trans (hb5.mono HB4.out.size))
    clear hb5 HDO HB4
    cases o with
    | none =>
      have hn := E0.out rfl
      have hb6 : Below w5.heap.size w5 (w5.alloc (.cells #[.int .i64 0, .int .i64 0, .int .i64 0, .int .i64 0, .int .i64 0] 66 (0, 0))) := (Below.refl _ _).alloc (Nat.le_refl _) _
      obtain ⟨w6, hw6⟩ : ∃ w6, w6 = w5.alloc (.cells #[.int .i64 0, .int .i64 0, .int .i64 0, .int .i64 0, .int .i64 0] 66 (0, 0)) := ⟨_, rfl⟩
      rw [← hw6] at hb6
      obtain ⟨q1, _, q3, _⟩ := HC.out w6 (HB5.out.trans (hb6.mono HB5.out.size))
      obtain ⟨r1, r2⟩ := dcBox q1 rfl q3 (Nat.le_refl _) dcNil
      have HG := Lib.hid r1
      have HE := Lib.hid (HEND.out _ r2 r1 hn)
      obtain ⟨z0, z1, z2, z3, z4⟩ := doc_cells q1
      have f0 := dcFree q1 0
      have f1 := dcFree q1 1
      have f2 := dcFree q1 2
      have f3 := dcFree q1 3
      have f4 := dcFree q1 4
      simp only [dcW, Option.getD_none, dcNil, Option.isSome_none]
      clear hn hb6 q1 q3 r1 r2 E0 E1 E2 HDK
      rw [hw6] at z0 z1 z2 z3 z4 f0 f1 f2 f3 f4
      go_wp2_with fail
      try rw [← hw6]
      refine bodyPost_ret (results_ctt rfl _ w.heap.size _ rfl (run_loadVar_row _ _ _ _ _ (0, 0) _ HG.out Tryz.underlying66 rfl doc_size)) rfl ?_
      first | exact HE.out | (rw [← hw6]; exact HE.out)
    | some d =>
      obtain ⟨di, dk, dy, df, dn⟩ := d
      have hdok := HDK.out _ rfl
      obtain ⟨w6, hw6⟩ : ∃ w6, w6 = w5.alloc (.cells #[.int .i64 di, .int .i64 dk, .int .i64 dy, .int .i64 df, .int .i64 dn] 66 (0, 0)) := ⟨_, rfl⟩
      have hb6 : Below w5.heap.size w5 w6 := by rw [hw6]; exact (Below.refl _ _).alloc (Nat.le_refl _) _
      have hs6 : w6.heap.size = w5.heap.size + 1 := by rw [hw6]; simp
      have g6 : w6.heap[w5.heap.size]? = some (.cells #[.int .i64 di, .int .i64 dk, .int .i64 dy, .int .i64 df, .int .i64 dn] 66 (0, 0)) := by rw [hw6]; exact heap_alloc_new w5 _
      have HB6 := Lib.hid (HB5.out.trans (hb6.mono HB5.out.size))
      have HC6 := Lib.hid (show ∀ W, Below w6.heap.size w6 W → W.heap[w5.heap.size]? = some (.cells #[.int .i64 di, .int .i64 dk, .int .i64 dy, .int .i64 df, .int .i64 dn] 66 (0, 0)) from fun W hW => (hW.block _ (by omega)).trans g6)
      have HS6 := Lib.hid hs6
      clear hb6 hs6 g6 HB5
      simp only [dcW, Option.getD_some, Option.isSome_some]
      by_cases g1 : dn < 1
      · have k3 : decide (dn < 1) = true := decide_eq_true g1
        have hn := E1.out _ rfl (by unfold docIn; simp only [Bool.and_eq_false_iff, decide_eq_false_iff_not]; omega)
        obtain ⟨q1, _, q3, _⟩ := HC.out w6 (HB6.out)
        obtain ⟨r1, r2⟩ := dcBox q1 rfl q3 (Nat.le_refl _) dcNil
        have HG := Lib.hid r1
        have HE := Lib.hid (HEND.out _ r2 r1 hn)
        obtain ⟨z0, z1, z2, z3, z4⟩ := doc_cells q1
        have f0 := dcFree q1 0
        have f1 := dcFree q1 1
        have f2 := dcFree q1 2
        have f3 := dcFree q1 3
        have f4 := dcFree q1 4
        clear hn q1 q3 r1 r2 E0 E1 E2 HDK hdok g1
        rw [hw6] at z0 z1 z2 z3 z4 f0 f1 f2 f3 f4
        go_wp2_with fail
        rw [← hw6]
        refine bodyPost_ret (results_ctt rfl _ w.heap.size _ rfl (run_loadVar_row _ _ _ _ _ (0, 0) _ HG.out Tryz.underlying66 rfl doc_size)) rfl ?_
        exact HE.out
      have k3 : decide (dn < 1) = false := decide_eq_false g1
      by_cases g2 : dn > 6
      · have k4 : decide (dn > 6) = true := decide_eq_true g2
        have hn := E1.out _ rfl (by unfold docIn; simp only [Bool.and_eq_false_iff, decide_eq_false_iff_not]; omega)
        obtain ⟨q1, _, q3, _⟩ := HC.out w6 (HB6.out)
        obtain ⟨r1, r2⟩ := dcBox q1 rfl q3 (Nat.le_refl _) dcNil
        have HG := Lib.hid r1
        have HE := Lib.hid (HEND.out _ r2 r1 hn)
        obtain ⟨z0, z1, z2, z3, z4⟩ := doc_cells q1
        have f0 := dcFree q1 0
        have f1 := dcFree q1 1
        have f2 := dcFree q1 2
        have f3 := dcFree q1 3
        have f4 := dcFree q1 4
        clear hn q1 q3 r1 r2 E0 E1 E2 HDK hdok g1 g2
        rw [hw6] at z0 z1 z2 z3 z4 f0 f1 f2 f3 f4
        go_wp2_with fail
        rw [← hw6]
        refine bodyPost_ret (results_ctt rfl _ w.heap.size _ rfl (run_loadVar_row _ _ _ _ _ (0, 0) _ HG.out Tryz.underlying66 rfl doc_size)) rfl ?_
        exact HE.out
      have k4 : decide (dn > 6) = false := decide_eq_false g2
      obtain ⟨N, rfl⟩ : ∃ N : Nat, dn = (N : Int) := ⟨dn.toNat, by omega⟩
      have hd := E2.out _ rfl (by unfold docIn; simp only [Bool.and_eq_true, decide_eq_true_eq]; omega)
      have hN6 : N ≤ 6 := by omega
      have HD := Lib.hid (show docGet S i = (linesAt S i N).map fun l => ((⟨di, dk, dy, df, (N : Int)⟩ : Dc), l) from hd)
      have HDOK := Lib.hid hdok
      clear hd E0 E1 E2 HDK hdok g1 g2
      go_wp2_with fail
      rw [← hw6]
      clear hw6
      go_loopw [10, 46] (fun u iv wr => ∃ (j : Nat) (L : List Dl) (A : Option Addr) (k : Nat), j ≤ N ∧ iv = .int .i64 j ∧ u = .slice A L.length k ∧ Hid (DlE.Own 58 wr w6.heap.size (.slice A L.length k) L ∧ (∀ x ∈ L, DlOk x) ∧ linesAt S i j = some L ∧ Below w6.heap.size w6 wr)) (fun _ iv _ => N - (intOf iv).toNat)
      case atStart => exact ⟨0, [], none, 0, Nat.zero_le _, rfl, rfl, Lib.hid ⟨Enc.Own.start _ _ _, (fun x hx => by cases hx), rfl, Below.refl _ _⟩⟩
      case round =>
        obtain ⟨j, L, A, k, hj, rfl, rfl, HJ⟩ := hrel
        by_cases hlt : j < N
        · have hlt' : (j : Int) < (N : Int) := by omega
          obtain ⟨hown, hLok, hla, hbw⟩ := HJ.out
          have hb6w : Below w3.heap.size w3 wr := HB6.out.trans (hbw.mono HB6.out.size)
          obtain ⟨_, q2, _, hvw⟩ := HC.out wr hb6w
          have c0 : wr.cell? ⟨w.heap.size + 1, 0, none⟩ = some (.pointer (some ⟨v, 0, none⟩)) := by rw [cell_of_row wr _ 0 _ _ (0, 0) q2]; rfl
          have hba : Below wr.heap.size wr (wr.alloc (.cells #[.int .i64 i, .int .i64 (j : Int)] 3)) := (Below.refl _ _).alloc (Nat.le_refl _) _
          have HPL := Lib.hid (filePair_any (hvw.below hba) 76 [i, (j : Int)] 2 9 (by omega) (fun z hz => by
            simp only [List.mem_cons, List.not_mem_nil, or_false] at hz
            rcases hz with rfl | rfl
            · exact HI.out.1
            · omega) rfl (by omega) rfl wr.heap.size (RowN.a' (l := [i, (j : Int)]) wr 3))
          have HBA := Lib.hid hba
          have HOW := Lib.hid (And.intro hown (And.intro hLok hla))
          have HBW := Lib.hid hbw
          have hLl := linesAt_len hla
          have HLL := Lib.hid hLl
          clear hown hLok hla hbw hb6w q2 hvw hba HJ hLl
          go_wp2_with fail
          refine HPL.out.mono ?_
          rintro e w7 ⟨A7, k7, Au, nu, ku, rfl, hk7, hrk, hku, hnu, hru, hb7⟩
          have HDO := recDocLineOf_any A7 9 k7 Au nu ku (keyL 76 [i, (j : Int)], (S.now (tx (keyL 76 [i, (j : Int)]))).getD []) _ w7 hrk hru (Nat.le_refl _) hk7 hku (by decide) (Nat.le_trans hnu (by unfold maxLen; omega))
          rw [docLineV_w, dlK_some] at HDO
          have hlok := fun d (q : lineAt S i j = some d) => dlK_ok (keyL_bytes (by omega) _) hru.bytes q
          have hLA : dlK (keyL 76 [i, (j : Int)], (S.now (tx (keyL 76 [i, (j : Int)]))).getD []) = lineAt S i j := rfl
          rw [hLA] at HDO
          have HDO := Lib.hid HDO
          have HLK := Lib.hid hlok
          have HB7 := Lib.hid (HBA.out.trans (hb7.mono HBA.out.size))
          have F0 := Lib.hid (fun (q : lineAt S i j = none) => linesAt_stop hlt HOW.out.2.2 q)
          have F1 := Lib.hid (fun (x : Dl) (q : lineAt S i j = some x) => linesAt_more HOW.out.2.2 q)
          generalize lineAt S i j = o at HDO HLK F0 F1
          clear hrk hru hb7 hlok hLA HPL hk7 hku hnu c0
          go_wp2_with fail
          refine HDO.out.mono ?_
          rintro e w8 ⟨rfl, hb8⟩
          have HB8 := Lib.hid (HB7.out.trans (hb8.mono HB7.out.size))
          clear hb8 HDO HB7
          cases o with
          | none =>
            have hn : docGet S i = none := by rw [HD.out, F0.out rfl]; rfl
            obtain ⟨w9, hw9⟩ : ∃ w9, w9 = w8.alloc (.cells #[.int .i64 0, .int .i64 0, .int .i64 0, .int .i64 0] 58 (0, 0)) := ⟨_, rfl⟩
            have hb9 : Below w8.heap.size w8 w9 := by rw [hw9]; exact (Below.refl _ _).alloc (Nat.le_refl _) _
            have hall := HB6.out.trans ((HBW.out.trans ((HB8.out.trans (hb9.mono HB8.out.size)).mono HBW.out.size)).mono HB6.out.size)
            obtain ⟨q1, _, q3, _⟩ := HC.out w9 (hall)
            obtain ⟨r1, r2⟩ := dcBox q1 rfl q3 (Nat.le_refl _) dcNil
            have HG := Lib.hid r1
            have HE := Lib.hid (HEND.out _ r2 r1 hn)
            obtain ⟨z0, z1, z2, z3, z4⟩ := doc_cells q1
            have f0 := dcFree q1 0
            have f1 := dcFree q1 1
            have f2 := dcFree q1 2
            have f3 := dcFree q1 3
            have f4 := dcFree q1 4
            simp only [dlW, Option.getD_none, dlNil, Option.isSome_none]
            clear hn hb9 hall q1 q3 r1 r2 F0 F1 HLK
            rw [hw9] at z0 z1 z2 z3 z4 f0 f1 f2 f3 f4
            go_wp2_with fail
            rw [← hw9]
            try rw [Exit.noGoto_ret]
            refine bodyPost_ret (results_ctt rfl _ w.heap.size _ rfl (run_loadVar_row _ _ _ _ _ (0, 0) _ HG.out Tryz.underlying66 rfl doc_size)) rfl ?_
            exact HE.out
          | some x =>
            have hxok := HLK.out x rfl
            have hmore := F1.out x rfl
            obtain ⟨x0, x1, x2, x3⟩ := x
            obtain ⟨wx, hwx⟩ : ∃ wx, wx = w8.alloc (.cells #[.int .i64 x0, .int .i64 x1, .int .i64 x2, .int .i64 x3] 58 (0, 0)) := ⟨_, rfl⟩
            have hX : Below w8.heap.size w8 wx := by rw [hwx]; exact (Below.refl _ _).alloc (Nat.le_refl _) _
            have hblk : wx.heap[w8.heap.size]? = some (.cells #[.int .i64 x0, .int .i64 x1, .int .i64 x2, .int .i64 x3] 58 (0, 0)) := by rw [hwx]; exact heap_alloc_new w8 _
            have hsz : wx.heap.size = w8.heap.size + 1 := by rw [hwx]; simp
            obtain ⟨r0, r1, r2, r3⟩ := docLine_cells hblk
            have hY : Below wx.heap.size wx (wx.alloc (.cells #[.int .i64 x0, .int .i64 x1, .int .i64 x2, .int .i64 x3] 58 (0, 0))) := (Below.refl _ _).alloc (Nat.le_refl _) _
            have hXY := HB8.out.trans ((hX.trans (hY.mono hX.size)).mono HB8.out.size)
            obtain ⟨v', w9, hrun, hown9, hb9, hg, hgr⟩ := (HOW.out.1.below hXY).append1 DlT (x := ⟨x0, x1, x2, x3⟩) (heap_alloc_new wx _) rfl hxok (by have := HLL.out; omega) (Nat.le_trans HBW.out.size hXY.size) 52
            rw [hsz] at hrun
            obtain ⟨A9, k9, rfl, hk9⟩ := hown9.shape
            have hlen9 : (L ++ [(⟨x0, x1, x2, x3⟩ : Dl)]).length = L.length + 1 := by rw [List.length_append]; rfl
            have HNEW := Lib.hid (show DlE.Own 58 w9 w6.heap.size (.slice A9 (L ++ [(⟨x0, x1, x2, x3⟩ : Dl)]).length k9) (L ++ [⟨x0, x1, x2, x3⟩]) ∧ (∀ x ∈ L ++ [(⟨x0, x1, x2, x3⟩ : Dl)], DlOk x) ∧ linesAt S i (j + 1) = some (L ++ [⟨x0, x1, x2, x3⟩]) ∧ Below w6.heap.size w6 w9 from
              ⟨hown9, fun x hx => by
                rcases List.mem_append.1 hx with hx | hx
                · exact HOW.out.2.1 x hx
                · obtain rfl := List.mem_singleton.1 hx
                  exact hxok, hmore, (HBW.out.trans (hXY.mono HBW.out.size)).trans hb9⟩)
            rw [hlen9] at hrun
            have HRUN := Lib.hid hrun
            have HLEN9 := Lib.hid hlen9
            subst hwx
            clear hxok hmore hX hblk hsz hY hXY hrun hown9 hb9 hg hgr hk9 hlen9 F0 F1 HLK HOW
            simp only [dlW, Option.getD_some, Option.isSome_some]
            go_wp2_with (at_builtin; refine Lib.wpList_append_run _ rfl _ _ _ _ rfl _ _ rfl rfl _ _ HRUN.out ?_)
            go_roundw
            case rel => exact ⟨j + 1, _, A9, k9, by omega, by go_num, by rw [HLEN9.out], HNEW⟩
            case measure => simp [intOf]; omega
        · obtain rfl : j = N := by omega
          obtain ⟨hown, hLok, hla, hbw⟩ := HJ.out
          obtain ⟨q1, _, q3, _⟩ := HC.out wr (HB6.out.trans (hbw.mono HB6.out.size))
          have q6 := HC6.out wr hbw
          obtain ⟨r1, r2⟩ := dcBox q1 rfl q3 (Nat.le_refl _) ⟨di, dk, dy, df, (j : Int)⟩
          have HG := Lib.hid r1
          have hle : w.heap.size < w6.heap.size := (Array.getElem?_eq_some_iff.1 (HC.out w6 HB6.out).1).1
          have HE := Lib.hid (show DocGot w (((((wr.setCell ⟨w.heap.size, 0, none⟩ (.int .i64 di)).setCell ⟨w.heap.size, 1, none⟩ (.int .i64 dk)).setCell ⟨w.heap.size, 2, none⟩ (.int .i64 dy)).setCell ⟨w.heap.size, 3, none⟩ (.int .i64 df)).setCell ⟨w.heap.size, 4, none⟩ (.int .i64 (j : Int))) (.returned (.tuple #[.agg #[.int .i64 di, .int .i64 dk, .int .i64 dy, .int .i64 df, .int .i64 (j : Int)], .slice A L.length k, .bool true])) (docGet S i) from by
            rw [HD.out, hla]
            exact ⟨A, k, rfl, (hown.stays fun g hg => by
              have hgl := (hown.at_ g hg).1
              rw [heap_setCell_other _ _ _ _ (show g ≠ w.heap.size by omega), heap_setCell_other _ _ _ _ (show g ≠ w.heap.size by omega), heap_setCell_other _ _ _ _ (show g ≠ w.heap.size by omega), heap_setCell_other _ _ _ _ (show g ≠ w.heap.size by omega), heap_setCell_other _ _ _ _ (show g ≠ w.heap.size by omega)]).base_le (by omega), hLok, (fun p hp => by cases hp; exact HDOK.out), r2⟩)
          obtain ⟨z0, z1, z2, z3, z4⟩ := doc_cells q1
          obtain ⟨y0, y1, y2, y3, y4⟩ := doc_cells q6
          have f0 := dcFree q1 0
          have f1 := dcFree q1 1
          have f2 := dcFree q1 2
          have f3 := dcFree q1 3
          have f4 := dcFree q1 4
          clear hown hLok hla hbw q1 q3 q6 r1 r2 HJ
          go_wp2_with fail
          refine bodyPost_ret (results_ctt rfl _ w.heap.size _ rfl (run_loadVar_row _ _ _ _ _ (0, 0) _ HG.out Tryz.underlying66 rfl doc_size)) rfl ?_
          exact HE.out
  · have hn : docGet S i = none := by unfold docGet; rw [if_neg hh]
    have hx : ¬ (0 ≤ i ∧ i < 4294967296) := fun q => hh ((held32_iff _).2 q)
    have hb1 : Below w.heap.size w (w.alloc (.cells #[.int .i64 0, .int .i64 0, .int .i64 0, .int .i64 0, .int .i64 0] 66)) := (Below.refl _ _).alloc (Nat.le_refl _) _
    have HE := Lib.hid (hEND _ hb1 (heap_alloc_new w _) hn)
    have HG := Lib.hid (heap_alloc_new w (.cells #[.int .i64 0, .int .i64 0, .int .i64 0, .int .i64 0, .int .i64 0] 66))
    clear h hEND hn hb1 hh
    by_cases g1 : i < 0
    · have k1 : decide (i < 0) = true := decide_eq_true g1
      go_enter Tryz.func29, Tryz.ntmps29
      go_wp2_with fail
      refine bodyPost_ret (results_ctt rfl _ w.heap.size _ rfl (run_loadVar_row _ _ _ _ _ (0, 0) _ HG.out Tryz.underlying66 rfl doc_size)) rfl ?_
      exact HE.out
    · have k1 : decide (i < 0) = false := decide_eq_false g1
      have k2 : decide (i > 4294967295) = true := decide_eq_true (by omega)
      go_enter Tryz.func29, Tryz.ntmps29
      go_wp2_with fail
      refine bodyPost_ret (results_ctt rfl _ w.heap.size _ rfl (run_loadVar_row _ _ _ _ _ (0, 0) _ HG.out Tryz.underlying66 rfl doc_size)) rfl ?_
      exact HE.out
end
end Go.Proofs.YtlcbmobdokicaaaGreat

/-
  Contracts of docs over a view in memory: Set, All. Conditions: which numbers are ints; what a scan comes to.
-/
namespace Go.Proofs.YtlcbmobdokicaaaGreat
open Go.RowKit Go.Maps
set_option maxRecDepth 100000
set_option linter.unusedVariables false

section
variable {w w' : World} {X : Nat → Prop} {v m c : Nat} {S : VS}
set_option maxHeartbeats 6400000 in
theorem docsSet_any (h : ViewAt w X v m c S) (i j : Int) (x : Dl) (hx : DlOk x) (hi : -9223372036854775808 ≤ i ∧ i ≤ 9223372036854775807) (hj : -9223372036854775808 ≤ j ∧ j ≤ 9223372036854775807) (hC : S.C.length ≤ 1000000) :
    Calls Tryz.prog 54 #[.pointer (some ⟨v, 0, none⟩), .int .i64 i, .int .i64 j, .agg #[.int .i64 x.nd, .int .i64 x.o, .int .i64 x.l, .int .i64 x.c]] w fun e w' => e = .returned (.int .i64 (setLine S i j x).1) ∧ ViewAt w' X v m c (setLine S i j x).2 ∧ Touch (fun k => k = c) w w' := by
  obtain ⟨w1, hw1⟩ : ∃ w1, w1 = w.alloc (.cells #[.int .i64 x.nd, .int .i64 x.o, .int .i64 x.l, .int .i64 x.c] 58) := ⟨_, rfl⟩
  have hb1 : Below w.heap.size w w1 := by rw [hw1]; exact (Below.refl _ _).alloc (Nat.le_refl _) _
  have hs1 : w1.heap.size = w.heap.size + 1 := by rw [hw1]; simp
  have hblk : w1.heap[w.heap.size]? = some (.cells #[.int .i64 x.nd, .int .i64 x.o, .int .i64 x.l, .int .i64 x.c] 58 (0, 0)) := by rw [hw1]; exact heap_alloc_new w _
  have HG := Lib.hid (docsGet_any (h.below hb1) i hi)
  have e1 : ¬ (0 ≤ j ∧ j < ((dlsO (docGet S i)).length : Int)) → setLine S i j x = (7, S) := fun q => by
    unfold setLine
    cases hd : docGet S i with
    | none => rfl
    | some p => rw [hd] at q; exact if_neg q
  have e2 : (0 ≤ j ∧ j < ((dlsO (docGet S i)).length : Int)) → setLine S i j x = (0, S.putL i j x) := fun q => by
    unfold setLine
    cases hd : docGet S i with
    | none => rw [hd] at q; have : ((dlsO none).length : Int) = 0 := rfl; omega
    | some p => rw [hd] at q; exact if_pos q
  have hl6 : (dlsO (docGet S i)).length ≤ 6 := by
    unfold docGet
    split
    · split
      · exact Nat.zero_le _
      · split
        · rename_i d _ hd
          cases hq : linesAt S i d.n.toNat with
          | none => exact Nat.zero_le _
          | some l =>
            have := linesAt_len hq
            unfold docIn at hd
            simp only [Bool.and_eq_true, decide_eq_true_eq] at hd
            show l.length ≤ 6
            omega
        · exact Nat.zero_le _
    · exact Nat.zero_le _
  have HV := Lib.hid (show ∀ W, Below w.heap.size w W → ViewAt W X v m c S from fun W hW => h.below hW)
  have H1 := Lib.hid (show ∀ W, Below w1.heap.size w1 W → W.cell? ⟨w.heap.size, 0, none⟩ = some (.int .i64 x.nd) ∧ W.cell? ⟨w.heap.size, 1, none⟩ = some (.int .i64 x.o) ∧ W.cell? ⟨w.heap.size, 2, none⟩ = some (.int .i64 x.l) ∧ W.cell? ⟨w.heap.size, 3, none⟩ = some (.int .i64 x.c) from fun W hW => docLine_cells ((hW.block _ (by omega)).trans hblk))
  have HB := Lib.hid hb1
  have hin : In64 [x.nd, x.o, x.l, x.c, i, j] := by
    intro z hz
    simp only [List.mem_cons, List.not_mem_nil, or_false] at hz
    rcases hz with rfl | rfl | rfl | rfl | rfl | rfl
    · exact hx _ (by simp)
    · exact hx _ (by simp)
    · exact hx _ (by simp)
    · exact hx _ (by simp)
    · exact hi
    · exact hj
  have HDL := Lib.hid (fun W => recDocLine_any i j x.nd x.o x.l x.c W hin)
  have HCC := Lib.hid (show S.C.length < maxLen from Nat.lt_of_le_of_lt hC (by decide))
  have E := Lib.hid (And.intro e1 e2)
  generalize setLine S i j x = res at E ⊢
  generalize docGet S i = o at HG E hl6
  clear h hs1 hblk hb1 e1 e2 hin hx hi hC
  go_enter Tryz.func54, Tryz.ntmps54
  go_wp2_with fail
  rw [← hw1]
  clear hw1
  refine HG.out.mono ?_
  rintro e w2 ⟨A, k, rfl, hown, _, _, hb2⟩
  unfold dcW
  generalize (o.map fun p => p.1).getD dcNil = D
  generalize (dlsO o).length = n at E hl6 hown ⊢
  generalize o.isSome = bb
  obtain ⟨w3, hw3⟩ : ∃ w3, w3 = w2.alloc (.cells #[.int .i64 D.i, .int .i64 D.k, .int .i64 D.y, .int .i64 D.f, .int .i64 D.n] 66 (0, 0)) := ⟨_, rfl⟩
  have hb3 : Below w2.heap.size w2 w3 := by rw [hw3]; exact (Below.refl _ _).alloc (Nat.le_refl _) _
  have hb13 := hb2.trans (hb3.mono hb2.size)
  have HT := Lib.hid (And.intro (HV.out w3 (HB.out.trans (hb13.mono HB.out.size))) (Touch.of_below (F := fun k => k = c) (HB.out.trans (hb13.mono HB.out.size))))
  obtain ⟨c0, c1, c2, c3⟩ := H1.out w3 hb13
  have HB13 := Lib.hid hb13
  rw [hw3] at c0 c1 c2 c3
  clear hown hb2 hb3 hb13 HG
  by_cases g1 : j < 0
  · have k1 : decide (j < 0) = true := decide_eq_true g1
    obtain rfl := E.out.1 (by omega)
    clear E g1
    go_wp2_with fail
    go_ret
    exact ⟨rfl, by rw [← hw3]; exact HT.out⟩
  have k1 : decide (j < 0) = false := decide_eq_false g1
  by_cases g2 : (n : Int) ≤ j
  · have k2 : decide ((n : Int) ≤ j) = true := decide_eq_true g2
    obtain rfl := E.out.1 (by omega)
    clear E g1 g2
    go_wp2_with fail
    go_ret
    exact ⟨rfl, by rw [← hw3]; exact HT.out⟩
  have k2 : decide ((n : Int) ≤ j) = false := decide_eq_false g2
  obtain rfl := E.out.2 (by omega)
  clear E g1 g2
  go_wp2_with fail
  rw [← hw3]
  clear hw3 c0 c1 c2 c3
  refine (HDL.out _).mono ?_
  rintro e w4 hp
  obtain ⟨kA, kc, vA, vc, rfl, h4, hb4⟩ := hp.gets (nk := 9) (nv := 32) (by omega) (by simp) rfl rfl
  have HS := Lib.hid (setLine_at (HT.out.1.below hb4) i j x h4 HCC.out)
  have HTT := Lib.hid (HT.out.2.trans (Touch.of_below (F := fun k => k = c) hb4))
  clear hp h4 hb4 HT HDL HV H1 HB13
  go_wp2_with fail
  refine HS.out.mono ?_
  rintro e w5 ⟨rfl, h5, t5⟩
  have HE := Lib.hid (And.intro h5 (HTT.out.trans t5))
  clear h5 t5 HS HTT
  go_wp2_with fail
  go_ret
  exact ⟨rfl, HE.out⟩
theorem docsK_ints {y k : Int} {ps : List KV} (h : ∀ x ∈ ps, AllBytes x.1 ∧ AllBytes x.2) : ∀ x ∈ docsK y k ps, -9223372036854775808 ≤ x ∧ x ≤ 9223372036854775807 := by
  intro x hx
  obtain ⟨q, hq, e⟩ := List.mem_filterMap.1 hx
  cases hd : dcK q with
  | none => rw [hd] at e; cases e
  | some d =>
    rw [hd] at e
    simp only [] at e
    split at e
    · cases e; exact dcK_ok (h q hq).1 (h q hq).2 hd _ (by simp)
    · cases e
/-- A row of ints that a call built. -/
def IntsR (w w' : World) (u : Value) (l : List Int) : Prop := w'.ownsRow w.heap.size 3 1 u l.length (l.map (Value.int .i64)) ∧ (∀ x ∈ l, -9223372036854775808 ≤ x ∧ x ≤ 9223372036854775807) ∧ Below w.heap.size w w'
theorem dcW_none : dcW none = .agg #[.int .i64 0, .int .i64 0, .int .i64 0, .int .i64 0, .int .i64 0] := rfl
end
end Go.Proofs.YtlcbmobdokicaaaGreat
