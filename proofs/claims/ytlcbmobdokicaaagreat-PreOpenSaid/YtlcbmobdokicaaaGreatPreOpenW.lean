/-
  The texts PreQ, PreOpenW joined. Conditions: those that each part says at its head.
-/
import Derived.Test.YtlcbmobdokicaaaGreatPreO
import Derived.Test.YtlcbmobdokicaaaGreatLawA31

/-
  What PreOpen says, over plain lists: a chain of nodes, a pre-encumbrance of one of them. No program; no condition beyond what each says.
-/
namespace Go.Proofs.YtlcbmobdokicaaaGreat
open Go.RowKit Go.Maps
set_option maxRecDepth 100000
set_option linter.unusedVariables false

/-- A node of the chain, with so much pre-encumbered. -/
def chN (n : Int) (i : Nat) (p : Int) : Nd := ⟨2020, (i : Int) + 1, i, 0, 0, false, n, p, 0, 0, 0, 0⟩
def ch0 (n : Int) (i : Nat) : Nd := ⟨0, (i : Int) + 1, i, 0, 0, false, n, 0, 0, 0, 0, 0⟩
def chL (n : Int) (top : Nat) : List Nd := (List.range top).map (ch0 n)
theorem chL_len (n : Int) (top : Nat) : (chL n top).length = top := by unfold chL; simp
theorem chL_succ (n : Int) (top : Nat) : chL n (top + 1) = chL n top ++ [ch0 n top] := by unfold chL; rw [List.range_succ, List.map_append]; rfl
theorem chN_ok {n : Int} (hn : 1 ≤ n ∧ n ≤ 4294967296) {i : Nat} (hi : i ≤ 100) : NdOk (chN n i 0) := by
  intro v hv
  simp only [chN, List.mem_cons, List.not_mem_nil, or_false] at hv
  rcases hv with rfl | rfl | rfl | rfl | rfl | rfl | rfl | rfl | rfl | rfl | rfl <;> omega
theorem ch0_ok {n : Int} (hn : 1 ≤ n ∧ n ≤ 4294967296) {i : Nat} (hi : i ≤ 100) : NdOk (ch0 n i) := by
  intro v hv
  simp only [ch0, List.mem_cons, List.not_mem_nil, or_false] at hv
  rcases hv with rfl | rfl | rfl | rfl | rfl | rfl | rfl | rfl | rfl | rfl | rfl <;> omega
theorem chN_held {n : Int} {i : Nat} (hi : i ≤ 100) (p : Int) : heldB (chN n i p).i = true := (heldB_iff _).2 (by show 0 ≤ (i : Int) + 1 ∧ (i : Int) + 1 < 4294967296; omega)
theorem yearS_none (i : Int) : nodeAt yearS 2020 i = none := by
  rw [nodeAt_ref]
  have : yearS.now (nKy 2020 i) = none := by
    unfold yearS
    rw [VS.Ok.now_put (S := ⟨[], []⟩) ⟨List.Pairwise.nil, List.Pairwise.nil⟩, if_neg (nK_apart (t := 89) (by omega) (by omega) _ _ _)]
    rfl
  rw [this]
theorem ch_at {n : Int} (hn : 1 ≤ n ∧ n ≤ 4294967296) : ∀ {top : Nat}, top ≤ 100 → ∀ i : Nat, nodeAt (begunS (chL n top)) 2020 ((i : Int) + 1) = if i < top then some (chN n i 0) else none
  | 0, _, i => (yearS_none _).trans (if_neg (by omega)).symm
  | top + 1, h, i => by
    have ih := ch_at hn (top := top) (by omega) i
    unfold begunS at ih ⊢
    rw [chL_succ, List.map_append, List.foldl_append]
    show nodeAt (VS.putN _ (chN n top 0)) 2020 _ = _
    rw [nodeAt_putN (y := 2020) (putNs_ok _ yearS_ok) (chN_ok hn (by omega)) (show (chN n top 0).y = 2020 from rfl) (by decide +kernel) (chN_held (by omega) 0), ih]
    by_cases e : i = top
    · subst e
      rw [if_pos (show (chN n i 0).i = (i : Int) + 1 from rfl), if_pos (by omega)]
    · rw [if_neg (show ¬ (chN n top 0).i = (i : Int) + 1 from fun q => e (by have : (top : Int) + 1 = (i : Int) + 1 := q; omega))]
      by_cases g : i < top
      · rw [if_pos g, if_pos (by omega)]
      · rw [if_neg g, if_neg (by omega)]
theorem ch_path {S : VS} {n : Int} {top : Nat} (hS : ∀ i : Nat, nodeAt S 2020 ((i : Int) + 1) = if i < top then some (chN n i 0) else none) (k : Nat) : ∀ at_ : Nat, at_ ≤ top → at_ ≤ k → 1 ≤ at_ → pathN S 2020 k at_ = (List.range at_).reverse.map fun i => chN n i 0 := by
  induction k with
  | zero => intro at_ h1 h2 h3; omega
  | succ k ih =>
    intro at_ h1 h2 h3
    obtain ⟨a, rfl⟩ : ∃ a, at_ = a + 1 := ⟨at_ - 1, by omega⟩
    have ha : nodeAt S 2020 ((a + 1 : Nat) : Int) = some (chN n a 0) := by
      rw [show ((a + 1 : Nat) : Int) = (a : Int) + 1 by omega, hS a, if_pos (by omega)]
    by_cases h0 : a = 0
    · subst h0
      rw [pathN_zero ha rfl]
      simp
    · rw [pathN_more ha (show ¬ (chN n a 0).p = 0 from fun q => h0 (by have : (a : Int) = 0 := q; omega)), show (chN n a 0).p = (a : Int) from rfl, ih a (by omega) (by omega) (by omega), List.range_succ, List.reverse_append, List.map_append]
      simp
theorem ch_chk {n : Int} (hn : 1 ≤ n ∧ n ≤ 4294967296) (i : Nat) : chkN (chN n i 0) n 0 0 = (false, 0) := by
  have h1 : rightN (chN n i 0) = true := by show inC _ _ [0, 0, 0] = true; decide +kernel
  have hw : wrap64 (0 + n) = n := by unfold wrap64; omega
  have h2 : rightN (growN (chN n i 0) n 0 0) = true := by
    show inC _ _ [wrap64 (0 + n), wrap64 (0 + 0), wrap64 (0 + 0)] = true
    rw [hw]
    unfold inC outC
    simp only [List.all_cons, List.all_nil, Bool.and_true, Bool.and_eq_true, Bool.not_eq_true', Bool.or_eq_false_iff, decide_eq_false_iff_not]
    unfold wrap64
    omega
  have h3 : wrap64 (wrap64 (n + 0) + 0) = n := by unfold wrap64; omega
  have h4 : usedN (chN n i 0) = 0 := by show wrap64 (wrap64 (0 + 0) + 0) = 0; decide +kernel
  have h5 : allowsN (chN n i 0) n = (true, false) := by
    unfold allowsN
    rw [h4, if_neg (by
      rw [not_or]
      refine ⟨by omega, ?_⟩
      rw [Bool.not_eq_false]
      show inC _ _ [0, n] = true
      unfold inC outC
      simp only [List.all_cons, List.all_nil, Bool.and_true, Bool.and_eq_true, Bool.not_eq_true', Bool.or_eq_false_iff, decide_eq_false_iff_not]
      omega), if_pos (.inr (by show wrap64 (0 + n) ≤ n; omega))]
  unfold chkN
  rw [if_neg (by rw [h1, h2]; simp), h3, h5, if_pos rfl]
theorem ch_grow {n : Int} (hn : 1 ≤ n ∧ n ≤ 4294967296) (i : Nat) : growN (chN n i 0) n 0 0 = chN n i n := by
  have hw : wrap64 (0 + n) = n := by unfold wrap64; omega
  show (⟨2020, (i : Int) + 1, i, 0, 0, false, n, wrap64 (0 + n), wrap64 (0 + 0), wrap64 (0 + 0), 0, 0⟩ : Nd) = _
  rw [hw, show wrap64 (0 + 0) = 0 by decide +kernel]
  rfl
theorem chargeR_of {S : VS} {y i p e q : Int} (h : pathN S y 8 i ≠ []) (hin : inC (-9007199254740992) 9007199254740992 [p, e, q] = true) (hall : ∀ x ∈ pathN S y 8 i, chkN x p e q = (false, 0)) : chargeR S y i p e q = ((false, 0), ((pathN S y 8 i).map fun x => growN x p e q).foldl VS.putN S) := by
  have hw : warnA (pathN S y 8 i) p e q = false := List.any_eq_false.2 fun x hx => by rw [hall x hx]; decide
  unfold chargeR
  rw [if_neg h, if_neg (by rw [hin]; decide), chkA_ok (fun x hx => by rw [hall x hx]), hw, if_pos rfl]
/-- A pre-encumbrance of one line, its charge done. -/
theorem preNew_one {S P : VS} {i n : Int} (hn : 1 ≤ n ∧ n ≤ 4294967296) (hy : yChk S 2020 = 0) (hc : chargeR S 2020 i n 0 0 = ((false, 0), P)) (hq : seqV (P.now (tx (keyL 83 [2]))) = 0) :
    preNew S 2020 [⟨0, 0, i, n⟩] = ((1, false, 0), (putDoc P ⟨0, 1, 2020, 0, 0⟩ [⟨i, n, 0, 0⟩]).2) := by
  have hchk : preChk [(⟨0, 0, i, n⟩ : Ln)] = 0 := by
    unfold preChk amtRightB
    rw [if_neg]
    simp
    omega
  have hrun : runC 2020 S false ([(⟨0, 0, i, n⟩ : Ln)].map preC) = ((false, 0), P) := by
    show runC 2020 _ false [⟨i, n, 0, 0⟩] = _
    unfold runC
    dsimp only
    rw [hc]
    rfl
  have hpd := putDoc_ok (S := P) (d := ⟨0, 1, 2020, 0, 0⟩) (l := [(⟨i, n, 0, 0⟩ : Dl)]) (by simp) hq (by decide +kernel)
  have h1 : (putDoc P ⟨0, 1, 2020, 0, 0⟩ [⟨i, n, 0, 0⟩]).1 = (1, 0) := by rw [hpd]; rfl
  have hord : orderR S 2020 1 0 ([(⟨0, 0, i, n⟩ : Ln)].map preC) [⟨i, n, 0, 0⟩] = ((1, false, 0), (putDoc P ⟨0, 1, 2020, 0, 0⟩ [⟨i, n, 0, 0⟩]).2) := by
    unfold orderR
    rw [hrun]
    dsimp only
    rw [if_pos rfl, h1]
    dsimp only
    rw [if_pos rfl]
  unfold preNew
  rw [if_pos hy, if_pos hchk]
  exact hord
theorem pre_open {S : VS} {n : Int} (hn : 1 ≤ n ∧ n ≤ 4294967296) {top at_ : Nat} (h1 : 1 ≤ at_) (h2 : at_ ≤ top) (h3 : top ≤ 7) (hok : S.Ok) (hy : yChk S 2020 = 0) (hs : S.now (tx (keyL 83 [2])) = none) (hS : ∀ i : Nat, nodeAt S 2020 ((i : Int) + 1) = if i < top then some (chN n i 0) else none) (hnd : ∀ z k, nodeAt S 2020 k = some z → NdOk z) :
    (preNew S 2020 [⟨0, 0, at_, n⟩]).1 = (1, false, 0) ∧ ∀ i : Nat, i < top → nodeAt (preNew S 2020 [⟨0, 0, at_, n⟩]).2 2020 ((i : Int) + 1) = some (chN n i (if i + 1 ≤ at_ then n else 0)) := by
  have hP := ch_path hS 8 at_ h2 (by omega) h1
  have hin : inC (-9007199254740992) 9007199254740992 [n, 0, 0] = true := by
    unfold inC outC
    simp only [List.all_cons, List.all_nil, Bool.and_true, Bool.and_eq_true, Bool.not_eq_true', Bool.or_eq_false_iff, decide_eq_false_iff_not]
    omega
  have hallc : ∀ x ∈ pathN S 2020 8 at_, chkN x n 0 0 = (false, 0) := fun x hx => by
    rw [hP] at hx
    obtain ⟨i, _, rfl⟩ := List.mem_map.1 hx
    exact ch_chk hn i
  have hne : pathN S 2020 8 at_ ≠ [] := by
    rw [hP]
    intro e
    have := congrArg List.length e
    simp at this
    omega
  have hch := chargeR_of hne hin hallc
  have hcn := charge_node (S := S) hok (y := 2020) (by decide +kernel) hnd (i := at_) (p := n) (e := 0) (q := 0)
  have hQok := putNs_ok ((pathN S 2020 8 at_).map fun x => growN x n 0 0) hok
  have hseq : VS.now (((pathN S 2020 8 at_).map fun x => growN x n 0 0).foldl VS.putN S) (tx (keyL 83 [2])) = none := by
    rw [putNs_other (fun y i e => tag_apart (by omega) (by omega) (by omega) _ _ e) _ hok, hs]
  generalize ((pathN S 2020 8 at_).map fun x => growN x n 0 0).foldl VS.putN S = P at hch hcn hQok hseq
  rw [preNew_one hn hy hch (by rw [hseq]; rfl)]
  refine ⟨rfl, fun i hi => ?_⟩
  rw [nodeAt_now_congr (fun y i => putDoc_node hQok _ _ y i)]
  by_cases hia : i + 1 ≤ at_
  · rw [if_pos hia, ((hcn ((i : Int) + 1)).1 (chN n i 0) (by
      rw [hP]
      exact List.mem_map.2 ⟨i, List.mem_reverse.2 (List.mem_range.2 (by omega)), rfl⟩) rfl), ch_grow hn]
  · rw [if_neg hia, (hcn ((i : Int) + 1)).2 (fun z hz => by
      rw [hP] at hz
      obtain ⟨j, hj, rfl⟩ := List.mem_map.1 hz
      have := List.mem_range.1 (List.mem_reverse.1 hj)
      show ¬ (j : Int) + 1 = (i : Int) + 1
      omega), hS i, if_pos hi]
end Go.Proofs.YtlcbmobdokicaaaGreat

/-
  PreOpen: it returns true. No condition beyond those that the statement itself says.
-/
namespace Go.Proofs.YtlcbmobdokicaaaGreat
open Go.RowKit Go.Maps
set_option maxRecDepth 100000
set_option linter.unusedVariables false

set_option maxHeartbeats 12800000 in
theorem preOpenLaw_any (a i d : Int) (ha : 0 ≤ a ∧ a < 4294967296) (hi : 0 ≤ i ∧ i < 256) (hd : 0 ≤ d ∧ d < 256) (w : World) :
    Calls Tryz.prog 4 #[.int .u32 a, .int .u8 i, .int .u8 d] w fun e w' => e = .returned (.bool true) ∧ Below w.heap.size w w' := by
  have HA := Lib.hid (fun W => awake31_any W)
  obtain ⟨n, hn⟩ : ∃ n, 1 + a = n := ⟨_, rfl⟩
  have hnb : 1 ≤ n ∧ n ≤ 4294967296 := by omega
  obtain ⟨top, htop⟩ : ∃ top : Nat, (top : Int) = 1 + d % 7 := ⟨(1 + d % 7).toNat, by omega⟩
  have ht7 : 1 ≤ top ∧ top ≤ 7 := by omega
  obtain ⟨at_, hat⟩ : ∃ at_ : Nat, (at_ : Int) = 1 + i % (top : Int) := ⟨(1 + i % (top : Int)).toNat, by have := Int.emod_nonneg i (b := (top : Int)) (by omega); omega⟩
  have hat1 : 1 ≤ at_ ∧ at_ ≤ top := by
    have h1 := Int.emod_nonneg i (b := (top : Int)) (by omega)
    have h2 := Int.emod_lt_of_pos i (b := (top : Int)) (by omega)
    omega
  have w1 : wrap64 n = n := by unfold wrap64; omega
  have w1' : IntKind.i64.wrap n = n := by rw [wrapI_is]; exact w1
  have r1 : Int.tmod d 7 = d % 7 := Int.tmod_eq_emod_of_nonneg hd.1
  have r2 : Int.tmod i (top : Int) = i % (top : Int) := Int.tmod_eq_emod_of_nonneg hi.1
  have w2 : wrap64 (1 + d % 7) = (top : Int) := by rw [← htop]; unfold wrap64; omega
  have w3 : wrap64 (1 + i % (top : Int)) = (at_ : Int) := by rw [← hat]; unfold wrap64; omega
  have HB := Lib.hid (And.intro hnb (And.intro ht7 hat1))
  clear hnb ht7 hat1
  go_enter Tryz.func4, Tryz.ntmps4
  go_wp2_with fail
  rw [← htop]
  have hat' := hat.symm
  clear htop w2 r1 hn w1 w1' hat
  go_loopw [9, 29] (fun uv iv wr => ∃ j : Nat, j ≤ top ∧ iv = .int .i64 j ∧ (∃ A' k', uv = .slice A' j k' ∧ j ≤ k') ∧ Hid (NdE.Own 41 wr w.heap.size uv (chL n j) ∧ Below w.heap.size w wr)) (fun _ iv _ => top - (intOf iv).toNat)
  case atStart => exact ⟨0, Nat.zero_le _, rfl, ⟨none, 0, rfl, Nat.le_refl _⟩, Lib.hid ⟨Enc.Own.start _ _ _, Below.refl _ _⟩⟩
  case round =>
    obtain ⟨j, hj, rfl, ⟨A', k', rfl, hjk⟩, HJ⟩ := hrel
    by_cases hlt : j < top
    · have hlt' : (j : Int) < (top : Int) := by omega
      obtain ⟨hown, hbw⟩ := HJ.out
      have hb5 : Below wr.heap.size wr (wr.alloc (.cells #[.int .i64 0, .int .i64 ((j : Int) + 1), .int .i64 j, .int .i64 0, .int .i64 0, .bool false, .int .i64 n, .int .i64 0, .int .i64 0, .int .i64 0, .int .i64 0, .int .i64 0] 41)) := (Below.refl _ _).alloc (Nat.le_refl _) _
      have hcl := chL_len n j
      obtain ⟨v', w6, hrun, hown6, hb6, hgr, hgn⟩ := (hown.below hb5).append1 NdT (x := ch0 n j) (heap_alloc_new wr _) rfl (ch0_ok HB.out.1 (by have := HB.out.2.1; omega)) (by have := HB.out.2.1; omega) (Nat.le_trans hbw.size hb5.size) 22
      obtain ⟨A6, k6, rfl, hk6⟩ := hown6.shape
      have hl6 : (chL n j ++ [ch0 n j]).length = j + 1 := by rw [List.length_append, hcl]; rfl
      rw [hl6] at hrun hown6 hk6
      have HRUN := Lib.hid hrun
      have HJ2 := Lib.hid (show NdE.Own 41 w6 w.heap.size (.slice A6 (j + 1) k6) (chL n (j + 1)) ∧ Below w.heap.size w w6 from ⟨by rw [chL_succ]; exact hown6, (hbw.trans (hb5.mono hbw.size)).trans hb6⟩)
      have hwj : IntKind.i64.wrap ((j : Int) + 1) = (j : Int) + 1 := by rw [wrapI_is]; unfold wrap64; have := HB.out.2.1; omega
      clear hown hbw hb5 hrun hown6 hb6 hgr hgn HJ hcl hl6
      go_wp2_with (at_builtin; refine Lib.wpList_append_run _ rfl _ _ _ _ rfl _ _ rfl rfl _ _ HRUN.out ?_)
      go_roundw
      case rel => exact ⟨j + 1, by omega, by go_num, ⟨A6, k6, rfl, hk6⟩, HJ2⟩
      case measure => simp [intOf]; omega
    · obtain rfl : j = top := by omega
      obtain ⟨hown, hbw⟩ := HJ.out
      have hcl := chL_len n j
      have hnok : ∀ x ∈ chL n j, NdOk x := fun x hx => by
        unfold chL at hx
        obtain ⟨q, hq, rfl⟩ := List.mem_map.1 hx
        exact ch0_ok HB.out.1 (by have := List.mem_range.1 hq; have := HB.out.2.1; omega)
      have hrd := hown.read hnok
      have HBG := Lib.hid (begun31_any (cap := k') hrd.2.2 (by have := HB.out.2.1; omega))
      have HBW := Lib.hid hbw
      have HJT := Lib.hid (show (j : Int) < j → False by omega)
      clear hown hbw hcl hnok hrd HJ
      go_wp2_with fail
      refine HBG.out.mono ?_
      rintro u w2 ⟨v, m, c, x, rfl, h2⟩
      obtain ⟨X, hX⟩ := h2.view_
      have hcw := hX.lt c hX.xc
      have hcB : w.heap.size ≤ c := by
        obtain ⟨X', p, q, r, a, z1, z2, z3, z4, z5, z6, z7, z8, z9⟩ := h2
        exact Nat.le_trans HBW.out.size (z7 c z1.xc).1
      have hb2 : Below w.heap.size w w2 := HBW.out.trans (h2.was.mono HBW.out.size)
      have hmany := h2.many.1.len
      obtain ⟨w3, hw3⟩ : ∃ w3, w3 = w2.alloc (.cells #[.int .i64 0, .int .i64 0, .int .i64 at_, .int .i64 n] 43 (0, 0)) := ⟨_, rfl⟩
      have hb3 : Below w2.heap.size w2 w3 := by rw [hw3]; exact (Below.refl _ _).alloc (Nat.le_refl _) _
      have hlok : LnOk ⟨0, 0, at_, n⟩ := by
        have h1 := HB.out.1
        have h2 := HB.out.2
        exact ⟨⟨by show _ ≤ (0 : Int); decide, by show (0 : Int) ≤ _; decide⟩, ⟨by show _ ≤ (0 : Int); decide, by show (0 : Int) ≤ _; decide⟩, ⟨by show _ ≤ (at_ : Int); omega, by show (at_ : Int) ≤ _; omega⟩, ⟨by show _ ≤ n; omega, by show n ≤ _; omega⟩⟩
      have HP := Lib.hid (preNew_any (cap := 1) (hX.below hb3) (y := 2020) (by unfold Nd64; omega) (l := [⟨0, 0, at_, n⟩]) (fun W hW => line_lit (w := w2) (x := ⟨0, 0, at_, n⟩) hlok (Nat.ne_of_lt hcw) (by rw [hw3] at hW; exact hW)) (Nat.le_refl 1) (by unfold maxLen; omega) (by have := HB.out.2.1; omega))
      obtain ⟨pf1, pf2⟩ := pre_open (S := begunS (chL n j)) HB.out.1 HB.out.2.2.1 HB.out.2.2.2 HB.out.2.1.2 (begunS_ok _) (begunS_year _) (begunS_seq _) (fun k => ch_at HB.out.1 (by have := HB.out.2.1; omega) k) (fun z k hz => hX.nodeOk hz)
      rw [pf1] at HP
      have HND := Lib.hid pf2
      have HB3 := Lib.hid (And.intro (hb2.trans (hb3.mono hb2.size)) hcB)
      clear h2 hX hb2 hb3 hcB hcw HBG HBW hmany hlok pf1 pf2 hlt HJT
      have hj0 : ¬ (j : Int) = 0 := by have := HB.out.2.1; omega
      have hwa : wrap64 (at_ : Int) = at_ := by have := HB.out.2; unfold wrap64; omega
      go_wp2_with fail
      rw [hwa]
      rw [← hw3]
      clear hw3 hwa
      refine HP.out.mono ?_
      rintro u w4 ⟨rfl, h4, t4⟩
      have HV4 := Lib.hid (And.intro h4 (HB3.out.1.trans (t4.below (fun k hk => by rw [hk]; exact HB3.out.2) HB3.out.1.size)))
      have HJP := Lib.hid HB.out.2.1
      clear h4 t4 HP HB3 hj0 hat' r2 hj
      go_wp2_with fail
      obtain ⟨wo, hwo⟩ : ∃ wo, wo = wr := ⟨_, rfl⟩
      subst hwo
      go_loopw [71] (fun iv wr => ∃ q : Nat, q ≤ j ∧ iv = .int .i64 q ∧ Hid (Below w4.heap.size w4 wr)) (fun iv _ => j - (intOf iv).toNat)
      case atStart => exact ⟨0, Nat.zero_le _, rfl, Lib.hid (Below.refl _ _)⟩
      case round =>
        obtain ⟨q, hq, rfl, HQ⟩ := hrel
        by_cases hlt : q < j
        · have hlt' : (q : Int) < (j : Int) := by omega
          have HG := Lib.hid (treeGet_any (HV4.out.1.below HQ.out) 2020 ((q : Int) + 1) (by unfold Nd64; omega) (by unfold Nd64; have := HJP.out; omega))
          rw [HND.out q hlt] at HG
          have hwq : wrap64 ((q : Int) + 1) = (q : Int) + 1 := by have := HJP.out; unfold wrap64; omega
          have hwq' : IntKind.i64.wrap ((q : Int) + 1) = (q : Int) + 1 := by rw [wrapI_is]; exact hwq
          simp only [ndW, ndO, Option.getD_some, chN, Option.isSome_some] at HG
          go_wp2_with fail
          refine HG.out.mono ?_
          rintro u w5 ⟨rfl, _, h5⟩
          have h45 := HQ.out.trans (h5.mono HQ.out.size)
          have HE := Lib.hid (show Below w4.heap.size w4 (w5.alloc (.cells #[.int .i64 2020, .int .i64 ((q : Int) + 1), .int .i64 q, .int .i64 0, .int .i64 0, .bool false, .int .i64 n, .int .i64 (if q + 1 ≤ at_ then n else 0), .int .i64 0, .int .i64 0, .int .i64 0, .int .i64 0] 41 (0, 0))) from h45.alloc h45.size _)
          clear h5 h45 HG
          by_cases ht : q + 1 ≤ at_
          · have k2 : decide ((q : Int) + 1 ≤ (at_ : Int)) = true := decide_eq_true (by omega)
            rw [if_pos ht] at HE ⊢
            clear ht
            go_wp2_with fail
            go_roundw
            case rel => exact ⟨q + 1, by omega, by go_num, HE⟩
            case measure => simp [intOf]; omega
          · have k2 : decide ((q : Int) + 1 ≤ (at_ : Int)) = false := decide_eq_false (by omega)
            rw [if_neg ht] at HE ⊢
            clear ht
            go_wp2_with fail
            go_roundw
            case rel => exact ⟨q + 1, by omega, by go_num, HE⟩
            case measure => simp [intOf]; omega
        · obtain rfl : q = j := by omega
          have HBF := Lib.hid (HV4.out.2.trans (HQ.out.mono HV4.out.2.size))
          have HAW := Lib.hid (HA.out wr)
          clear HQ hq hlt
          go_wp2_with fail
          refine HAW.out.mono ?_
          rintro u w7 ⟨rfl, h7⟩
          have HE := Lib.hid (HBF.out.trans (h7.mono HBF.out.size))
          clear h7
          go_wp2_with fail
          go_ret
          exact ⟨rfl, HE.out⟩
end Go.Proofs.YtlcbmobdokicaaaGreat
