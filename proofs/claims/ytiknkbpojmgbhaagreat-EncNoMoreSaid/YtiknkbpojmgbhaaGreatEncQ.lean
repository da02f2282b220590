/-
  What EncNoMore says, over plain lists: what goes over from a pre-encumbrance leaves what each node has used. No program; no condition beyond what each says.
-/
import Derived.Test.YtiknkbpojmgbhaaGreatEncM
import Derived.Test.YtiknkbpojmgbhaaGreatPreO
namespace Go.Proofs.YtiknkbpojmgbhaaGreat
open Go.RowKit Go.Maps
set_option maxRecDepth 100000
set_option linter.unusedVariables false

theorem rise_ext_mem {L M : TL} (hL : ZG L) (hM : ZG M) (h : ∀ p, p ∈ L ↔ p ∈ M) : L = M := by
  refine ZG.ext hL hM fun y => ?_
  cases e : Zf L y with
  | none =>
    cases e2 : Zf M y with
    | none => rfl
    | some v =>
      have := (h (y, v)).2 (Zao e2)
      exact absurd rfl (ZO.1 e _ this)
  | some v =>
    exact (hM.look ((h (y, v)).1 (Zao e))).symm
theorem scan_same {S T : VS} (hS : S.Ok) (hT : T.Ok) {y : Txt} (h : ∀ z, y.isPrefixOf z = true → S.now z = T.now z) : S.scan y = T.scan y := by
  refine rise_ext_mem (ZG.filter hS.nowL _) (ZG.filter hT.nowL _) fun p => ?_
  show p ∈ S.scan y ↔ p ∈ T.scan y
  rw [Zph hS, Zph hT]
  constructor
  · rintro ⟨a, b⟩
    exact ⟨(h _ b).symm.trans a, b⟩
  · rintro ⟨a, b⟩
    exact ⟨(h _ b).trans a, b⟩
/-- A key that begins as a year's nodes do has their tag. -/
theorem year_tag {y : Int} {z : Txt} (h : (tx (Zi 78 [y])).isPrefixOf z = true) {t : Int} (ht : 0 ≤ t ∧ t < 256) (hn : t ≠ 78) (l : List Int) : z ≠ tx (Zi t l) := fun e => by
  rw [List.isPrefixOf_iff_prefix] at h
  obtain ⟨r, hr⟩ := h
  have h1 : (tx [78]).isPrefixOf z = true := by
    rw [List.isPrefixOf_iff_prefix]
    refine ⟨tx (Zj 4 [Zn y]) ++ r, ?_⟩
    rw [← hr, ← List.append_assoc]
    rfl
  rw [tag_prefix (by omega), e, ZpG (Z3 ht _)] at h1
  unfold Zi ZdI at h1
  simp at h1
  exact hn h1
theorem all_of_at {S : VS} (h : S.Ok) {y i : Int} {n : Nd} (hn : nodeAt S y i = some n) : n ∈ allN S y := by
  obtain ⟨e1, e2, hy, hi⟩ := Zjq hn
  have hn' := hn
  rw [Zd2] at hn'
  cases e : S.now (nKy y i) with
  | none => rw [e] at hn'; cases hn'
  | some b =>
    unfold nodeAt at hn
    rw [hy, hi, if_pos (show (true && true) = true from rfl), e, Option.getD_some] at hn
    unfold allN
    rw [if_pos hy]
    unfold nodesK
    refine List.mem_filterMap.2 ⟨(Zi 78 [y, i], b), List.mem_map.2 ⟨(nKy y i, b), (Zph h).2 ⟨e, ?_⟩, ?_⟩, hn⟩
    · rw [List.isPrefixOf_iff_prefix]
      exact ⟨tx (Zj 4 [Zn i]), rfl⟩
    · show (by_ (nKy y i), b) = _
      rw [ZpG (Z3 (by omega) _)]
theorem all_congr {S T : VS} (hS : S.Ok) (hT : T.Ok) {y : Int} (h : ∀ z, (tx (Zi 78 [y])).isPrefixOf z = true → S.now z = T.now z) : allN S y = allN T y := by
  unfold allN
  rw [scan_same hS hT h]
theorem putDoc_other {S : VS} (h : S.Ok) {z : Txt} (hz : ∀ (t : Int) (l : List Int), t = 83 ∨ t = 76 ∨ t = 68 → z ≠ tx (Zi t l)) (d : Dc) (l : List Dl) : (putDoc S d l).2.now z = S.now z := by
  unfold putDoc
  split
  · rfl
  · split
    · show ((putLs (S.next 2) _ 0 l).put (tx (Zi 68 _)) _).now z = _
      rw [(putLs_ok _ l 0 (next_ok_ h 2)).now_put, if_neg (fun e => hz 68 _ (.inr (.inr rfl)) e.symm), putLs_other _ (fun j => hz 76 _ (.inr (.inl rfl))) l 0 (next_ok_ h 2)]
      unfold VS.next
      split
      · rfl
      · rw [h.now_put, if_neg (fun e => hz 83 _ (.inl rfl) e.symm)]
    · rfl
theorem putDoc_all {S : VS} (h : S.Ok) (d : Dc) (l : List Dl) (y : Int) : allN (putDoc S d l).2 y = allN S y :=
  all_congr (putDoc_okV h d l) h fun z hz => putDoc_other h (fun t m ht => year_tag hz (by omega) (by omega) m) d l
theorem putL_all {S : VS} (h : S.Ok) (i j : Int) (x : Dl) (y : Int) : allN (S.putL i j x) y = allN S y :=
  all_congr (ZbQ h i j x) h fun z hz => by
    unfold VS.putL
    rw [h.now_put, if_neg (fun e => year_tag hz (t := 76) (by omega) (by omega) _ e.symm)]
/-- A document that was put is got. -/
theorem doc_made {S : VS} (h : S.Ok) {q : Int} (hq : seqV (S.now (tx (Zi 83 [2]))) = q) (hq1 : 0 ≤ q ∧ q < 4294967295) {d : Dc} (hd : ZmW d) {l : List Dl} (hl : ∀ x ∈ l, ZaE x) (h1 : 1 ≤ l.length) (h6 : l.length ≤ 6) :
    (putDoc S d l).1 = (q + 1, 0) ∧ docGet (putDoc S d l).2 (q + 1) = some (⟨q + 1, d.k, d.y, d.f, l.length⟩, l) := by
  have he : (nextE q).2 = 0 := by unfold nextE; rw [if_neg (by omega)]
  have hp := putDoc_ok (S := S) (d := d) (l := l) (by omega) hq he
  rw [hp]
  refine ⟨rfl, ?_⟩
  have hok := next_ok_ h 2
  have hdc : ZmW ⟨q + 1, d.k, d.y, d.f, l.length⟩ := by
    intro v hv
    simp only [List.mem_cons, List.not_mem_nil, or_false] at hv
    rcases hv with rfl | rfl | rfl | rfl | rfl
    · omega
    · exact hd _ (by simp)
    · exact hd _ (by simp)
    · exact hd _ (by simp)
    · omega
  have hb : ZaQ (q + 1) = true := (Zaa _).2 (by omega)
  refine ZnW hb ?_ (by unfold Zcj; simp only [Bool.and_eq_true, decide_eq_true_eq]; omega) ?_
  · have hn : ((putLs (S.next 2) (q + 1) 0 l).putD ⟨q + 1, d.k, d.y, d.f, l.length⟩).now (dKy (q + 1)) = some (ZpZ ⟨q + 1, d.k, d.y, d.f, l.length⟩) := ((putLs_ok (q + 1) l 0 hok).now_put (dKy (q + 1)) (dKy (q + 1)) _).trans (if_pos (Eq.refl (dKy (q + 1))))
    have hm : dcK (Zi 68 [q + 1], ZpZ ⟨q + 1, d.k, d.y, d.f, l.length⟩) = some ⟨q + 1, d.k, d.y, d.f, l.length⟩ := dcK_made (x := ⟨q + 1, d.k, d.y, d.f, l.length⟩) hdc hb
    exact (congrArg (fun z => dcK (Zi 68 [q + 1], Option.getD z [])) hn).trans hm
  · have := linesAt_put hok hb hl (by omega) (d := ⟨q + 1, d.k, d.y, d.f, l.length⟩) l.length (Nat.le_refl _)
    rw [List.take_length] at this
    simpa using this
/-- Which errors a path's check tells. -/
theorem chkA_first {p e q : Int} : ∀ {l : List Nd}, (ZmP l p e q).2 ≠ 0 → ∃ z ∈ l, (chkN z p e q).2 = (ZmP l p e q).2
  | [], h => absurd rfl h
  | x :: r, h => by
    unfold ZmP at h ⊢
    split at h
    · rename_i h0
      rw [if_pos h0]
      split at h
      · exact absurd rfl h
      · rename_i h1
        rw [if_neg h1]
        obtain ⟨z, hz, e⟩ := chkA_first h1
        exact ⟨z, List.mem_cons_of_mem _ hz, e⟩
    · rename_i h0
      rw [if_neg h0]
      exact ⟨x, List.mem_cons_self, rfl⟩
theorem chkA_all {p e q : Int} : ∀ {l : List Nd}, (ZmP l p e q).2 = 0 → ∀ z ∈ l, (chkN z p e q).2 = 0
  | x :: r, h, z, hz => by
    unfold ZmP at h
    split at h
    · rename_i h0
      split at h
      · rename_i h1
        rcases List.mem_cons.1 hz with rfl | hz
        · exact h0
        · exact chkA_all h1 z hz
      · rename_i h1
        exact absurd h h1
    · rename_i h0
      exact absurd h h0
theorem inC_three {lo hi a b c : Int} : inC lo hi [a, b, c] = true ↔ (lo ≤ a ∧ a ≤ hi) ∧ (lo ≤ b ∧ b ≤ hi) ∧ (lo ≤ c ∧ c ≤ hi) := by
  unfold inC ZmC
  simp only [List.all_cons, List.all_nil, Bool.and_true, Bool.and_eq_true, Bool.not_eq_true', Bool.or_eq_false_iff, decide_eq_false_iff_not]
  omega
theorem inC_two {lo hi a b : Int} : inC lo hi [a, b] = true ↔ (lo ≤ a ∧ a ≤ hi) ∧ (lo ≤ b ∧ b ≤ hi) := by
  unfold inC ZmC
  simp only [List.all_cons, List.all_nil, Bool.and_true, Bool.and_eq_true, Bool.not_eq_true', Bool.or_eq_false_iff, decide_eq_false_iff_not]
  omega
theorem chk_zero {x : Nd} {p e q : Int} (h : (chkN x p e q).2 = 0) : rightN x = true ∧ rightN (growN x p e q) = true ∧ (allowsN x (wrap64 (wrap64 (p + e) + q))).1 = true ∧ (chkN x p e q).1 = (allowsN x (wrap64 (wrap64 (p + e) + q))).2 := by
  unfold chkN at h ⊢
  split at h
  · cases h
  · rename_i hr
    rw [if_neg hr]
    rw [not_or, Bool.not_eq_false, Bool.not_eq_false] at hr
    split at h
    · rename_i ha
      rw [if_pos ha]
      exact ⟨hr.1, hr.2, ha, rfl⟩
    · cases h
theorem allows_in {x : Nd} {m : Int} (h : (allowsN x m).1 = true) : inC (-1152921504606846976) 1152921504606846976 [usedN x, x.li] = true := by
  unfold allowsN at h
  split at h
  · cases h
  · rename_i hr
    rw [not_or, Bool.not_eq_false] at hr
    exact hr.2
/-- What goes over asks for no more. -/
theorem used_over {x : Nd} {m : Int} : usedN (growN x (-m) m 0) = usedN x := by
  unfold usedN growN wrap64
  simp only []
  omega
/-- A node that has grown by what it was allowed, and may not go over: it used more than may be. -/
theorem over_limit {z : Nd} {m n : Int} (hn : 1 ≤ n ∧ n ≤ m) (hm : m ≤ 4294967296) (h0 : (chkN z m 0 0).2 = 0) (h : (chkN (growN z m 0 0) (-n) n 0).2 ≠ 0) :
    (chkN (growN z m 0 0) (-n) n 0).2 = 9 ∨ ((chkN (growN z m 0 0) (-n) n 0).2 = 11 ∧ usedN (growN z m 0 0) > 1152921504606846976) := by
  obtain ⟨r1, r2, r3, _⟩ := chk_zero h0
  have hu := allows_in r3
  rw [inC_two] at hu
  unfold rightN at r1 r2
  rw [inC_three] at r1 r2
  generalize hG : growN z m 0 0 = G at h r2 ⊢
  have hli : G.li = z.li := by rw [← hG]; rfl
  unfold chkN at h ⊢
  split
  · exact .inl rfl
  · rename_i hr
    rw [if_neg hr] at h
    have hw : wrap64 (wrap64 (-n + n) + 0) = 0 := by unfold wrap64; omega
    rw [hw] at h ⊢
    split
    · rename_i ha
      rw [if_pos ha] at h
      exact absurd rfl h
    · rename_i ha
      refine .inr ⟨rfl, ?_⟩
      have hug : usedN G = G.pr + G.en + G.ex := by unfold usedN wrap64; omega
      unfold allowsN at ha
      split at ha
      · rename_i hc
        rcases hc with hc | hc
        · omega
        · by_cases hbig : usedN G > 1152921504606846976
          · exact hbig
          · exfalso
            rw [← Bool.not_eq_true, inC_two] at hc
            rw [hli] at hc
            apply hc
            omega
      · rename_i hc
        split at ha
        · exact absurd rfl ha
        · rename_i hc2
          exact absurd (.inl (by omega)) hc2
theorem charge_ok {S : VS} {y i p e q : Int} (h : (chargeR S y i p e q).1.2 = 0) : pathN S y 8 i ≠ [] ∧ inC (-9007199254740992) 9007199254740992 [p, e, q] = true ∧ (∀ x ∈ pathN S y 8 i, (chkN x p e q).2 = 0) ∧ (chargeR S y i p e q) = ((Zc3 (pathN S y 8 i) p e q, 0), ((pathN S y 8 i).map fun x => growN x p e q).foldl VS.putN S) := by
  unfold chargeR at h ⊢
  split at h
  · cases h
  · rename_i h1
    split at h
    · cases h
    · rename_i h2
      split at h
      · rename_i h3
        have hall := chkA_all h3
        rw [if_neg h1, if_neg h2, ZmQ hall, if_pos rfl]
        exact ⟨h1, by simpa using h2, hall, rfl⟩
      · rename_i h3
        exact absurd h h3
theorem lK_apart {a b j k : Int} (ha : a = 1) (hb : b = 2) : lKy a j ≠ lKy b k := fun e => by
  subst ha hb
  have h1 := Zlv (Z3 (by omega) _) (Z3 (by omega) _) e
  unfold Zi ZdI at h1
  injection h1 with _ h2
  have h3 : ZaS (Zn 1) 4 ++ Zj 4 [Zn j] = ZaS (Zn 2) 4 ++ Zj 4 [Zn k] := h2
  have h4 := (List.append_inj h3 (by decide)).1
  exact absurd h4 (by decide +kernel)
theorem dK_apart {a b : Int} (ha : a = 1) (hb : b = 2) : dKy a ≠ dKy b := fun e => by
  subst ha hb
  have h1 := Zlv (Z3 (by omega) _) (Z3 (by omega) _) e
  exact absurd h1 (by decide +kernel)
theorem linesAt_congr {S T : VS} {i : Int} (h : ∀ j, S.now (lKy i j) = T.now (lKy i j)) : ∀ n, ZM S i n = ZM T i n
  | 0 => rfl
  | n + 1 => by
    unfold ZM
    rw [linesAt_congr h n]
    unfold lineAt
    rw [h]
theorem docGet_congr {S T : VS} {i : Int} (h1 : S.now (dKy i) = T.now (dKy i)) (h2 : ∀ j, S.now (lKy i j) = T.now (lKy i j)) : docGet S i = docGet T i := by
  unfold docGet docAt
  rw [h1]
  simp only [linesAt_congr h2]
/-- The first document behind a second one's Put. -/
theorem doc_second {S : VS} (h : S.Ok) (hq : seqV (S.now (tx (Zi 83 [2]))) = 1) (d : Dc) (l : List Dl) : docGet (putDoc S d l).2 1 = docGet S 1 := by
  by_cases h1 : l.length < 1 ∨ l.length > 6
  · unfold putDoc
    rw [if_pos h1]
  · have hp := putDoc_ok (S := S) (d := d) (l := l) h1 hq (by decide +kernel)
    rw [hp]
    have hok := next_ok_ h 2
    have hnx : ∀ (t : Int) (K : List Int), 0 ≤ t ∧ t < 256 → t ≠ 83 → (S.next 2).now (tx (Zi t K)) = S.now (tx (Zi t K)) := fun t K ht hn => by
      unfold VS.next
      split
      · rfl
      · rw [h.now_put, if_neg (Zia (by omega) ht (fun e => hn e.symm) _ _)]
    refine docGet_congr ?_ fun j => ?_
    · show ((putLs (S.next 2) (1 + 1) 0 l).put (dKy (1 + 1)) _).now (dKy 1) = _
      rw [(putLs_ok _ l 0 hok).now_put, if_neg (fun e => dK_apart (a := 1) rfl (show (1 : Int) + 1 = 2 from rfl) e.symm), putLs_other _ (fun j e => Zia (by omega) (by omega) (by omega) _ _ e) l 0 hok, hnx 68 _ (by omega) (by omega)]
    · show ((putLs (S.next 2) (1 + 1) 0 l).put (dKy (1 + 1)) _).now (lKy 1 j) = _
      rw [(putLs_ok _ l 0 hok).now_put, if_neg (fun e => Zia (by omega) (by omega) (by omega) _ _ e), putLs_other _ (fun k e => lK_apart (a := 1) rfl (show (1 : Int) + 1 = 2 from rfl) e) l 0 hok, hnx 76 _ (by omega) (by omega)]
theorem putNs_tag {t : Int} (ht : 0 ≤ t ∧ t < 256) (hn : t ≠ 78) (l : List Int) (Q : List Nd) {S : VS} (h : S.Ok) : (Q.foldl VS.putN S).now (tx (Zi t l)) = S.now (tx (Zi t l)) :=
  putNs_other (fun y i e => Zia (by omega) ht (fun q => hn q.symm) _ _ e) Q h
/-- What EncNoMore needs. -/
def NoMore (S1 : VS) (n : Int) (E : (Int × Bool × Int) × VS) : Prop :=
  E.1.2.2 = 9 ∨ (E.1.2.2 = 11 ∧ ∃ x ∈ allN S1 2020, usedN x > 1152921504606846976) ∨
  (E.1.2.2 = 0 ∧ E.1.2.1 = false ∧ (allN E.2 2020).length = (allN S1 2020).length ∧ (∀ (k : Nat) (a b : Nd), (allN S1 2020)[k]? = some a → (allN E.2 2020)[k]? = some b → usedN b = usedN a) ∧ ∃ d z, docGet E.2 1 = some (d, [z]) ∧ rightL z = true ∧ z.l = n)
theorem one_ok (i a : Int) (hi : ZS i) (ha : ZS a) : ZaE ⟨i, a, 0, 0⟩ := by
  intro v hv
  simp only [List.mem_cons, List.not_mem_nil, or_false] at hv
  rcases hv with rfl | rfl | rfl | rfl
  · exact hi
  · exact ha
  · omega
  · omega
theorem enc_nomore {S0 S1 : VS} (h0 : S0.Ok) (hy : yChk S0 2020 = 0) (hq : S0.now (tx (Zi 83 [2])) = none) (hok0 : ∀ n i, nodeAt S0 2020 i = some n → ZbR n) (hok1 : ∀ n i, nodeAt S1 2020 i = some n → ZbR n) {i m : Int} (hi : 0 ≤ i ∧ i < 65536) (hm : 1 ≤ m ∧ m ≤ 4294967296) {r : Int × Bool × Int} (hr : preNew S0 2020 [⟨0, 0, i, m⟩] = (r, S1)) (hr0 : r.2.2 = 0) {n : Int} (hn : 1 ≤ n ∧ n ≤ m) :
    r.1 = 1 ∧ S1.Ok ∧ NoMore S1 n (encNew S1 2020 1 [⟨0, 0, 0, n⟩]) := by
  -- the pre-encumbrance
  have hchk : ∀ a : Int, (1 ≤ a ∧ a ≤ 4294967296) → ∀ k, preChk [(⟨0, 0, k, a⟩ : Ln)] = 0 := fun a ha k => by
    unfold preChk amtRightB
    rw [if_neg]
    simp
    omega
  unfold preNew at hr
  rw [if_pos hy, if_pos (hchk m hm i)] at hr
  unfold ZI at hr
  have hrunE : runC 2020 S0 false ([(⟨0, 0, i, m⟩ : Ln)].map preC) = if (chargeR S0 2020 i m 0 0).1.2 = 0 then (((chargeR S0 2020 i m 0 0).1.1, 0), (chargeR S0 2020 i m 0 0).2) else ((false, (chargeR S0 2020 i m 0 0).1.2), (chargeR S0 2020 i m 0 0).2) := by
    show runC 2020 S0 false [⟨i, m, 0, 0⟩] = _
    unfold runC
    simp only [Bool.false_or]
    rfl
  have hc0 : (chargeR S0 2020 i m 0 0).1.2 = 0 := by
    refine Classical.byContradiction fun hne => ?_
    rw [hrunE, if_neg hne] at hr
    simp only [] at hr
    rw [if_neg hne] at hr
    injection hr with h1 h2
    rw [← h1] at hr0
    exact hne hr0
  obtain ⟨hne, hin, hall, hch⟩ := charge_ok hc0
  rw [hrunE, if_pos hc0, hch] at hr
  simp only [if_true] at hr
  generalize hPath : pathN S0 2020 8 i = L at hne hall hch hr
  obtain ⟨P, hP⟩ : ∃ P, P = (L.map fun x => growN x m 0 0).foldl VS.putN S0 := ⟨_, rfl⟩
  rw [← hP] at hr
  have hPok : P.Ok := by rw [hP]; exact putNs_ok _ h0
  have hPq : seqV (P.now (tx (Zi 83 [2]))) = 0 := by rw [hP, putNs_tag (by omega) (by omega) _ _ h0, hq]; rfl
  have hd1 : ZmW ⟨0, 1, 2020, 0, 0⟩ := by intro v hv; simp only [List.mem_cons, List.not_mem_nil, or_false] at hv; rcases hv with rfl | rfl | rfl | rfl | rfl <;> omega
  have hl1 : ∀ x ∈ [(⟨i, m, 0, 0⟩ : Dl)], ZaE x := fun x hx => by
    obtain rfl := List.mem_singleton.1 hx
    exact one_ok _ _ (by unfold ZS; omega) (by unfold ZS; omega)
  obtain ⟨m1, m2⟩ := doc_made hPok hPq (by omega) hd1 hl1 (by simp) (by simp)
  have hmap : [(⟨0, 0, i, m⟩ : Ln)].map ZY = [(⟨i, m, 0, 0⟩ : Dl)] := rfl
  rw [hmap, m1] at hr
  simp only [] at hr
  rw [if_pos trivial] at hr
  injection hr with e1 e2
  have hS1 : S1.Ok := by rw [← e2]; exact putDoc_okV hPok _ _
  refine ⟨by rw [← e1]; rfl, hS1, ?_⟩
  rw [e2] at m2
  -- what stands then
  have hother : ∀ z, (∀ (t : Int) (K : List Int), t = 83 ∨ t = 76 ∨ t = 68 → z ≠ tx (Zi t K)) → S1.now z = P.now z := fun z hz => by rw [← e2]; exact putDoc_other hPok hz _ _
  have hnodeP : ∀ y k, nodeAt S1 y k = nodeAt P y k := fun y k => by
    rw [← e2]
    exact Zbj (fun y i => putDoc_node hPok _ _ y i) y k
  have hy1 : yChk S1 2020 = 0 := by
    unfold yChk at hy ⊢
    rw [hother _ (fun t K ht => Zia (by omega) (by omega) (by omega) _ _), hP, putNs_tag (by omega) (by omega) _ _ h0]
    exact hy
  have hq1 : S1.now (tx (Zi 83 [2])) = some (Zj 8 [1]) := by
    rw [← e2, putDoc_ok (S := P) (d := ⟨0, 1, 2020, 0, 0⟩) (l := [(⟨i, m, 0, 0⟩ : Dl)]) (by simp) hPq (by decide)]
    show ((putLs (P.next 2) (0 + 1) 0 [(⟨i, m, 0, 0⟩ : Dl)]).put (dKy (0 + 1)) _).now _ = _
    rw [(putLs_ok _ _ 0 (next_ok_ hPok 2)).now_put, if_neg (Zia (by omega) (by omega) (by omega) _ _), putLs_other _ (fun j => Zia (by omega) (by omega) (by omega) _ _) _ 0 (next_ok_ hPok 2)]
    unfold VS.next
    rw [hPq, if_neg (by omega), hPok.now_put, if_pos rfl]
    rfl
  have hnode : (∀ k, ∀ z ∈ L, z.i = k → nodeAt P 2020 k = some (growN z m 0 0)) ∧ (∀ k, (∀ z ∈ L, z.i ≠ k) → nodeAt P 2020 k = nodeAt S0 2020 k) := by
    refine ⟨fun k z hz hk => ?_, fun k hk => ?_⟩
    · have := (charge_node (S := S0) h0 (y := 2020) (by decide) hok0 (i := i) (p := m) (e := 0) (q := 0) k).1
      rw [hPath, ← hP] at this
      exact this z hz hk
    · have := (charge_node (S := S0) h0 (y := 2020) (by decide) hok0 (i := i) (p := m) (e := 0) (q := 0) k).2
      rw [hPath, ← hP] at this
      exact this hk
  have hPathP : pathN P 2020 8 i = L.map fun x => growN x m 0 0 := by
    rw [← hPath]
    refine path_grown (fun z hz => hnode.1 z.i z (by rw [← hPath]; exact hz) rfl) fun j hj => ?_
    rw [hnode.2 j fun z hz e => ?_, hj]
    have := ZgY (S := S0) (y := 2020) (k := 8) (i := i) (x := z) (by rw [hPath]; exact hz)
    rw [e, hj] at this
    cases this
  -- Take
  have hopen : openL ⟨i, m, 0, 0⟩ = m := by unfold openL wrap64; simp only []; omega
  have hwn : wrap64 (0 + n) = n := by unfold wrap64; omega
  have hliqE : Zez [(⟨i, m, 0, 0⟩ : Dl)] ⟨0, 0, 0, n⟩ = 0 := by
    unfold Zez
    rw [if_neg (by simp), if_neg]
    show ¬ openL ⟨i, m, 0, 0⟩ < n
    rw [hopen]
    omega
  have hliq : ZE [(⟨i, m, 0, 0⟩ : Dl)] [⟨0, 0, 0, n⟩] = (([⟨i, m, n, 0⟩], [⟨i, n, 0, 0⟩]), 0) := by
    unfold ZE
    rw [if_pos hliqE]
    show ((([ZjD ⟨i, m, 0, 0⟩ n], [_]), 0) : (List Dl × List Dl) × Int) = _
    unfold ZjD Zox
    simp only []
    rw [hwn]
    rfl
  obtain ⟨T, hT⟩ : ∃ T, T = S1.putL 1 0 ⟨i, m, n, 0⟩ := ⟨_, rfl⟩
  have hTok : T.Ok := by rw [hT]; exact ZbQ hS1 _ _ _
  have htake : takeR S1 1 2020 1 [⟨0, 0, 0, n⟩] = (([⟨i, n, 0, 0⟩], 0), T) := by
    unfold takeR
    rw [show (1 : Int) = 0 + 1 from rfl, m2]
    simp only []
    rw [if_neg (by simp), hliq, if_pos rfl, hT]
    show ((_, 0), S1.putL (0 + 1) 0 (ZjD ⟨i, m, 0, 0⟩ n)) = _
    unfold ZjD
    simp only []
    rw [hwn]
    rfl
  have hwneg : wrap64 (-n) = -n := by unfold wrap64; omega
  have hE : encNew S1 2020 1 [⟨0, 0, 0, n⟩] = ZI T 2020 2 1 [⟨i, -n, n, 0⟩] [⟨i, n, 0, 0⟩] := by
    unfold encNew
    rw [if_pos hy1, if_pos (hchk n (by omega) 0), if_neg (by omega), htake]
    simp only []
    rw [if_pos trivial]
    show ZI T 2020 2 1 [Zqx true ⟨i, n, 0, 0⟩] _ = _
    unfold Zqx
    simp only [if_true]
    rw [hwneg]
  rw [hE]
  -- the charge
  have hnodeT : ∀ y k, nodeAt T y k = nodeAt P y k := fun y k => by
    rw [← hnodeP, hT]
    exact Zbj (fun y i => ZaX hS1 (t := 76) (by omega) (by omega) _ _ _ _) y k
  have hpath_congr : ∀ (k : Nat) (j : Int), pathN T 2020 k j = pathN P 2020 k j := by
    intro k
    induction k with
    | zero => intro j; rfl
    | succ k ih =>
      intro j
      unfold pathN
      rw [hnodeT]
      simp only [ih]
  have hPathT : pathN T 2020 8 i = L.map fun x => growN x m 0 0 := by rw [hpath_congr, hPathP]
  have hokT : ∀ n i, nodeAt T 2020 i = some n → ZbR n := fun n i h => by rw [hnodeT, ← hnodeP] at h; exact hok1 n i h
  have hallT : allN T 2020 = allN S1 2020 := by rw [hT]; exact putL_all hS1 _ _ _ _
  have hrunT : runC 2020 T false [⟨i, -n, n, 0⟩] = if (chargeR T 2020 i (-n) n 0).1.2 = 0 then (((chargeR T 2020 i (-n) n 0).1.1, 0), (chargeR T 2020 i (-n) n 0).2) else ((false, (chargeR T 2020 i (-n) n 0).1.2), (chargeR T 2020 i (-n) n 0).2) := by
    unfold runC
    simp only [Bool.false_or]
    rfl
  by_cases hcT : (chargeR T 2020 i (-n) n 0).1.2 = 0
  · -- it goes over
    right; right
    obtain ⟨_, _, hallc, hcht⟩ := charge_ok hcT
    have hwarn : Zc3 (pathN T 2020 8 i) (-n) n 0 = false := List.any_eq_false.2 fun x hx => by
      have h4 := (chk_zero (hallc x hx)).2.2
      have hw0 : wrap64 (wrap64 (-n + n) + 0) = 0 := by unfold wrap64; omega
      rw [hw0] at h4
      rw [h4.2]
      unfold allowsN at h4 ⊢
      split
      · simp
      · rw [if_pos (.inl (by omega))]
        simp
    unfold ZI
    rw [hrunT, if_pos hcT, hcht, hwarn]
    simp only [if_true]
    obtain ⟨U, hU⟩ : ∃ U, U = ((pathN T 2020 8 i).map fun x => growN x (-n) n 0).foldl VS.putN T := ⟨_, rfl⟩
    rw [← hU]
    have hUok : U.Ok := by rw [hU]; exact putNs_ok _ hTok
    have hUq : seqV (U.now (tx (Zi 83 [2]))) = 1 := by
      rw [hU, putNs_tag (by omega) (by omega) _ _ hTok, hT]
      unfold VS.putL
      rw [hS1.now_put, if_neg (Zia (by omega) (by omega) (by omega) _ _), hq1]
      decide +kernel
    have hd2 : ZmW ⟨0, 2, 2020, 1, 0⟩ := by intro v hv; simp only [List.mem_cons, List.not_mem_nil, or_false] at hv; rcases hv with rfl | rfl | rfl | rfl | rfl <;> omega
    obtain ⟨u1, _⟩ := doc_made hUok hUq (by omega) hd2 (l := [(⟨i, n, 0, 0⟩ : Dl)]) (fun x hx => by
      obtain rfl := List.mem_singleton.1 hx
      exact one_ok _ _ (by unfold ZS; omega) (by unfold ZS; omega)) (by simp) (by simp)
    rw [u1]
    simp only [if_true]
    refine ⟨trivial, trivial, ?_⟩
    have hputs := all_puts (y := 2020) (S := T) ((pathN T 2020 8 i).map fun x => growN x (-n) n 0) hTok (fun x hx => by
      obtain ⟨u, hu, rfl⟩ := List.mem_map.1 hx
      have := path_in hokT u hu
      refine ⟨this.yr, ?_, this.there⟩
      exact (Zpk (Zmg hokT (k := 8) (i := i)) (-n) n 0 _ (List.mem_map.2 ⟨u, hu, rfl⟩)).1)
    rw [← hU] at hputs
    rw [putDoc_all hUok, hputs.2, hallT, List.length_map]
    refine ⟨rfl, fun k a b ha hb => ?_, ⟨1, 1, 2020, 0, 1⟩, ⟨i, m, n, 0⟩, ?_, ?_, rfl⟩
    · rw [List.getElem?_map, ha] at hb
      have hb := Option.some.inj (show some _ = some b from hb)
      rw [← hb]
      dsimp only
      rcases upds_grow (p := -n) (e := n) (q := 0) a (pathN T 2020 8 i) a (fun x hx hxi => by
        have h1 := ZgY hx
        have h2 := all_mem hTok (y := 2020) (n := a) (by rw [hallT]; exact List.mem_of_getElem? ha)
        rw [hxi, h2] at h1
        cases h1
        rfl) (.inl rfl) with h | h
      · rw [h]
      · rw [h.1]
        exact used_over
    · rw [doc_second hUok hUq]
      have hcong : docGet U 1 = docGet T 1 := docGet_congr (by rw [hU, putNs_tag (by omega) (by omega) _ _ hTok]) fun j => by rw [hU, putNs_tag (by omega) (by omega) _ _ hTok]
      rw [hcong, hT]
      exact Zfu hS1 (d := ⟨1, 1, 2020, 0, 1⟩) m2 (j := 0) (by simp) (by
        intro v hv
        simp only [List.mem_cons, List.not_mem_nil, or_false] at hv
        rcases hv with rfl | rfl | rfl | rfl <;> omega)
    · have : openL ⟨i, m, n, 0⟩ = m - n := by unfold openL wrap64; simp only []; omega
      unfold rightL
      simp only [List.all_cons, List.all_nil, Bool.and_true, this]
      simp only [Bool.and_eq_true, Bool.not_eq_true', Bool.or_eq_false_iff, decide_eq_false_iff_not]
      omega
  · -- it may not
    have hEE : (ZI T 2020 2 1 [⟨i, -n, n, 0⟩] [⟨i, n, 0, 0⟩]).1.2.2 = (chargeR T 2020 i (-n) n 0).1.2 := by
      unfold ZI
      rw [hrunT, if_neg hcT]
      simp only []
      rw [if_neg hcT]
    have hin2 : inC (-9007199254740992) 9007199254740992 [-n, n, 0] = true := inC_three.2 (by omega)
    have hneT : pathN T 2020 8 i ≠ [] := by
      rw [hPathT]
      intro e
      exact hne (List.map_eq_nil_iff.1 e)
    have hcc : (chargeR T 2020 i (-n) n 0).1.2 = (ZmP (pathN T 2020 8 i) (-n) n 0).2 := by
      unfold chargeR
      rw [if_neg hneT, if_neg (by rw [hin2]; decide)]
      split <;> rfl
    rw [hcc] at hcT
    obtain ⟨z, hz, ez⟩ := chkA_first hcT
    have hz' := hz
    rw [hPathT] at hz'
    obtain ⟨z0, hz0, rfl⟩ := List.mem_map.1 hz'
    unfold NoMore
    rw [hEE, hcc, ← ez]
    rw [← ez] at hcT
    rcases over_limit (z := z0) (m := m) (n := n) hn hm.2 (hall z0 hz0) hcT with h9 | ⟨h11, hbig⟩
    · exact .inl h9
    · refine .inr (.inl ⟨h11, growN z0 m 0 0, ?_, hbig⟩)
      rw [← hallT]
      exact all_of_at hTok (ZgY hz)
end Go.Proofs.YtiknkbpojmgbhaaGreat
