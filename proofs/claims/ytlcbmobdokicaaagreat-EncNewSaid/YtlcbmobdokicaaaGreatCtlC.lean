/-
  The texts CtlP, CtlA, CtlB, CtlC joined. Conditions: those that each part says at its head.
-/
import Derived.Test.YtlcbmobdokicaaaGreatTreP
import Derived.Test.YtlcbmobdokicaaaGreatManS
import Derived.Test.YtlcbmobdokicaaaGreatTreA
import Derived.Test.YtlcbmobdokicaaaGreatIntApp
import Derived.Laws.ResultCell

/-
  A charge of a budget over plain lists: whether a node allows more, what a charge of a path answers and leaves; that no node goes beyond its limit by it but with a warning, and none that is absolute. No program; no condition beyond what each says.
-/
namespace Go.Proofs.YtlcbmobdokicaaaGreat
open Go.RowKit Go.Maps
set_option maxRecDepth 100000
set_option linter.unusedVariables false

/-- Numbers that all lie from lo to hi. -/
def outC (lo hi x : Int) : Bool := decide (x < lo) || decide (x > hi)
def inC (lo hi : Int) (l : List Int) : Bool := l.all fun x => !(outC lo hi x)
def allowsN (x : Nd) (more : Int) : Bool × Bool :=
  if more > 1152921504606846976 ∨ inC (-1152921504606846976) 1152921504606846976 [usedN x, x.li] = false then (false, false)
  else if more < 1 ∨ wrap64 (usedN x + more) ≤ x.li then (true, false)
  else if x.ab = true then (false, false)
  else (true, true)
def rightN (x : Nd) : Bool := inC 0 1152921504606846976 [x.pr, x.en, x.ex]
/-- A node with these figures more. -/
def growN (x : Nd) (p e q : Int) : Nd := ⟨x.y, x.i, x.p, x.f, x.o, x.ab, x.li, wrap64 (x.pr + p), wrap64 (x.en + e), wrap64 (x.ex + q), x.la, x.ca⟩
def chkN (x : Nd) (p e q : Int) : Bool × Int :=
  if rightN x = false ∨ rightN (growN x p e q) = false then (false, 9)
  else if (allowsN x (wrap64 (wrap64 (p + e) + q))).1 = true then ((allowsN x (wrap64 (wrap64 (p + e) + q))).2, 0)
  else (false, 11)
def warnA (l : List Nd) (p e q : Int) : Bool := l.any fun x => (chkN x p e q).1
/-- What a path's check answers: its first error, or whether one warns. -/
def chkA : List Nd → Int → Int → Int → Bool × Int
  | [], _, _, _ => (false, 0)
  | x :: r, p, e, q => if (chkN x p e q).2 = 0 then (if (chkA r p e q).2 = 0 then ((chkN x p e q).1 || (chkA r p e q).1, 0) else (false, (chkA r p e q).2)) else (false, (chkN x p e q).2)
theorem chkA_ok {l : List Nd} {p e q : Int} (h : ∀ x ∈ l, (chkN x p e q).2 = 0) : chkA l p e q = (warnA l p e q, 0) := by
  induction l with
  | nil => rfl
  | cons x r ih =>
    have ih := ih fun y hy => h y (List.mem_cons_of_mem _ hy)
    unfold chkA
    rw [if_pos (h x List.mem_cons_self), ih, if_pos rfl]
    rfl
theorem chkA_bad {p e q : Int} : ∀ {l : List Nd} {j : Nat} {x : Nd}, l[j]? = some x → (∀ y ∈ l.take j, (chkN y p e q).2 = 0) → (chkN x p e q).2 ≠ 0 → chkA l p e q = (false, (chkN x p e q).2)
  | [], j, x, h, _, _ => by cases h
  | z :: r, 0, x, h, _, hx => by
    obtain rfl : z = x := by simpa using h
    unfold chkA
    rw [if_neg hx]
  | z :: r, j + 1, x, h, hb, hx => by
    have ih := chkA_bad (l := r) (j := j) (by simpa using h) (fun y hy => hb y (by rw [List.take_succ_cons]; exact List.mem_cons_of_mem _ hy)) hx
    unfold chkA
    rw [if_pos (hb z (by rw [List.take_succ_cons]; exact List.mem_cons_self)), ih, if_neg hx]
/-- What a charge answers, and leaves. -/
def chargeR (S : VS) (y i p e q : Int) : (Bool × Int) × VS :=
  if pathN S y 8 i = [] then ((false, 7), S)
  else if inC (-9007199254740992) 9007199254740992 [p, e, q] = false then ((false, 9), S)
  else if (chkA (pathN S y 8 i) p e q).2 = 0 then (chkA (pathN S y 8 i) p e q, ((pathN S y 8 i).map fun x => growN x p e q).foldl VS.putN S)
  else (chkA (pathN S y 8 i) p e q, S)
theorem inC_mem {lo hi : Int} {l : List Int} (h : inC lo hi l = true) : ∀ x ∈ l, lo ≤ x ∧ x ≤ hi := fun x hx => by
  have := List.all_eq_true.1 h x hx
  unfold outC at this
  simp only [Bool.not_eq_true', Bool.or_eq_false_iff, decide_eq_false_iff_not] at this
  omega
/-- What a node that was charged has to do with what it was. -/
def HoldN (a b : Nd) (warn : Bool) : Prop := usedN b > b.li → ¬ usedN a > a.li → b.ab = false ∧ warn = true
theorem HoldN.same (a : Nd) (warn : Bool) : HoldN a a warn := fun h g => absurd h g
theorem HoldN.mono {a b : Nd} {u v : Bool} (h : HoldN a b u) (huv : u = true → v = true) : HoldN a b v := fun x y => ⟨(h x y).1, huv (h x y).2⟩
theorem chk_holds {x : Nd} {p e q : Int} (hp : inC (-9007199254740992) 9007199254740992 [p, e, q] = true) (h : (chkN x p e q).2 = 0) : HoldN x (growN x p e q) (chkN x p e q).1 := by
  have bp := inC_mem hp p (by simp)
  have be := inC_mem hp e (by simp)
  have bq := inC_mem hp q (by simp)
  unfold chkN at h ⊢
  split at h
  · cases h
  · rename_i hr
    rw [if_neg hr]
    rw [not_or, Bool.not_eq_false, Bool.not_eq_false] at hr
    obtain ⟨r1, r2⟩ := hr
    have a1 := inC_mem r1 x.pr (by simp)
    have a2 := inC_mem r1 x.en (by simp)
    have a3 := inC_mem r1 x.ex (by simp)
    split at h
    · rename_i hal
      rw [if_pos hal]
      have hw : wrap64 (wrap64 (p + e) + q) = p + e + q := by unfold wrap64; omega
      have hu : usedN x = x.pr + x.en + x.ex := by unfold usedN wrap64; omega
      have hu' : usedN (growN x p e q) = x.pr + x.en + x.ex + (p + e + q) := by unfold usedN growN wrap64; simp only []; omega
      rw [hw] at hal ⊢
      intro g1 g2
      rw [hu', show (growN x p e q).li = x.li from rfl] at g1
      rw [hu] at g2
      show x.ab = false ∧ _
      unfold allowsN at hal ⊢
      rw [hu] at hal ⊢
      split at hal
      · cases hal
      · rename_i c1
        rw [if_neg c1]
        split at hal
        · rename_i c2
          exfalso
          rcases c2 with c2 | c2
          · omega
          · unfold wrap64 at c2; omega
        · rename_i c2
          rw [if_neg c2]
          split at hal
          · cases hal
          · rename_i c3
            rw [if_neg c3]
            exact ⟨by simpa using c3, rfl⟩
    · cases h

/-- A node of a view, which may be put there. -/
structure NodeIn (S : VS) (y : Int) (x : Nd) : Prop where
  yr : x.y = y
  ok : NdOk x
  there : (nodeAt S y x.i).isSome = true
theorem ndK_made {x : Nd} (h : NdOk x) (hy : heldB x.y = true) (hi : heldB x.i = true) : ndK (ndKey x, ndVal x) = some x := by
  have a := (heldB_iff _).1 hy
  have b := (heldB_iff _).1 hi
  unfold ndK ndKey ndVal
  rw [numsR_made (i := 2) (j := 10) (by intro v hv; simp only [List.mem_cons, List.not_mem_nil, or_false] at hv; rcases hv with rfl | rfl <;> omega) (by
    intro v hv
    simp only [List.mem_cons, List.not_mem_nil, or_false] at hv
    rcases hv with rfl | rfl | rfl | rfl | rfl | rfl | rfl | rfl | rfl | rfl
    · exact h _ (by simp)
    · exact h _ (by simp)
    · exact h _ (by simp)
    · unfold bitI; split <;> omega
    · exact h _ (by simp)
    · exact h _ (by simp)
    · exact h _ (by simp)
    · exact h _ (by simp)
    · exact h _ (by simp)
    · exact h _ (by simp)) rfl (by omega) rfl (by omega)]
  show some (ndOf _) = _
  congr 1
  obtain ⟨y, i, p, f, o, ab, li, pr, en, ex, la, ca⟩ := x
  cases ab <;> rfl
theorem nodeAt_now {S : VS} {y i : Int} (h : (nodeAt S y i).isSome = true) : (S.now (nKy y i)).isSome = true := by
  rw [nodeAt_ref] at h
  cases e : S.now (nKy y i) with
  | none => rw [e] at h; cases h
  | some b => rfl
theorem nKy_inj {y i j : Int} (hi : heldB i = true) (hj : heldB j = true) (h : nKy y i = nKy y j) : i = j := by
  have a := (heldB_iff _).1 hi
  have b := (heldB_iff _).1 hj
  have h1 := nd_split y i
  have h2 := nd_split y j
  rw [tx_inj (keyL_bytes (by omega) _) (keyL_bytes (by omega) _) h, h2] at h1
  have h3 : [held4 y, held4 j] = [held4 y, held4 i] := congrArg Prod.fst h1
  injection h3 with _ h4
  injection h4 with h5
  unfold held4 at h5
  omega
theorem nodeAt_put {S : VS} (h : S.Ok) {y : Int} {x : Nd} (hx : NodeIn S y x) (i : Int) : nodeAt (S.putN x) y i = if x.i = i then some x else nodeAt S y i := by
  obtain ⟨n0, hn0⟩ := Option.isSome_iff_exists.1 hx.there
  obtain ⟨_, _, hy, hi⟩ := nodeAt_id hn0
  unfold nodeAt VS.putN
  rw [hx.yr, h.now_put]
  by_cases e : x.i = i
  · subst e
    rw [if_pos rfl, if_pos rfl, hy, hi, if_pos (show (true && true) = true from rfl), Option.getD_some]
    have := ndK_made hx.ok (by rw [hx.yr]; exact hy) hi
    unfold ndKey at this
    rw [hx.yr] at this
    exact this
  · rw [if_neg e]
    by_cases hh : (heldB y && heldB i) = true
    · rw [if_pos hh, if_pos hh]
      rw [Bool.and_eq_true] at hh
      rw [if_neg (fun q => e (nKy_inj hi hh.2 q))]
    · rw [if_neg hh, if_neg hh]
/-- A list of nodes with one of them another. -/
def updNd (x n : Nd) : Nd := if n.i = x.i then x else n
theorem all_put {S : VS} (h : S.Ok) {y : Int} {x : Nd} (hx : NodeIn S y x) : allN (S.putN x) y = (allN S y).map (updNd x) := by
  obtain ⟨n0, hn0⟩ := Option.isSome_iff_exists.1 hx.there
  obtain ⟨_, _, hy, hi⟩ := nodeAt_id hn0
  have hyb := (heldB_iff _).1 hy
  have hib := (heldB_iff _).1 hi
  unfold allN
  rw [if_pos hy, if_pos hy]
  unfold VS.putN
  rw [hx.yr, scan_put h _ (nodeAt_now hx.there), List.map_map]
  unfold nodesK
  have key : ∀ L : TL, (∀ q ∈ L, q ∈ S.scan (tx (keyL 78 [y]))) → (L.map (kvOf ∘ setV (nKy y x.i) (ndVal x))).filterMap ndK = ((L.map kvOf).filterMap ndK).map (updNd x) := by
    intro L
    induction L with
    | nil => intro _; rfl
    | cons q r ih =>
      intro hL
      have ih := ih fun z hz => hL z (List.mem_cons_of_mem _ hz)
      have hq := hL q List.mem_cons_self
      rw [List.map_cons, List.map_cons, List.filterMap_cons, List.filterMap_cons, ih]
      simp only [Function.comp]
      by_cases e : q.1 = nKy y x.i
      · have e1 : ndK (kvOf (setV (nKy y x.i) (ndVal x) q)) = some x := by
          unfold setV
          rw [if_pos e]
          have := ndK_made hx.ok (by rw [hx.yr]; exact hy) hi
          unfold ndKey at this
          rw [hx.yr] at this
          show ndK (by_ q.1, ndVal x) = some x
          rw [e, by_tx (keyL_bytes (by omega) _)]
          exact this
        have e2 : ∃ n, ndK (kvOf q) = some n ∧ n.i = x.i := by
          have hnow := ((scan_mem h).1 hq).1
          have h2 : nodeAt S y x.i = ndK (kvOf q) := by
            unfold nodeAt
            rw [hy, hi, if_pos (show (true && true) = true from rfl), ← e, hnow, Option.getD_some]
            show ndK (keyL 78 [y, x.i], q.2) = ndK (by_ q.1, q.2)
            rw [e, by_tx (keyL_bytes (by omega) _)]
          rw [h2] at hn0
          exact ⟨n0, hn0, (nodeAt_id (h2.trans hn0)).2.1⟩
        obtain ⟨n, en, hni⟩ := e2
        rw [e1, en]
        simp only [List.map_cons]
        congr 1
        unfold updNd
        rw [if_pos hni]
      · have e1 : setV (nKy y x.i) (ndVal x) q = q := by unfold setV; rw [if_neg e]
        rw [e1]
        cases en : ndK (kvOf q) with
        | none => rfl
        | some n =>
          simp only [List.map_cons]
          congr 1
          obtain ⟨g1, g2, g3, g4, g5, g6⟩ := year_of h hq en
          unfold updNd
          rw [if_neg]
          intro e3
          refine e ?_
          rw [g6, e3, show n.y = y by unfold held4 at g1; omega]
  exact key _ fun q hq => hq
theorem all_puts {y : Int} : ∀ (Q : List Nd) {S : VS}, S.Ok → (∀ x ∈ Q, NodeIn S y x) → (Q.foldl VS.putN S).Ok ∧ allN (Q.foldl VS.putN S) y = (allN S y).map fun n => Q.foldl (fun n x => updNd x n) n
  | [], S, h, _ => ⟨h, by simp⟩
  | x :: Q, S, h, hq => by
    have hx := hq x List.mem_cons_self
    rw [List.foldl_cons]
    obtain ⟨h1, h2⟩ := all_puts Q (S := S.putN x) (h.put _ _) fun z hz => by
      have hz' := hq z (List.mem_cons_of_mem _ hz)
      refine ⟨hz'.yr, hz'.ok, ?_⟩
      rw [nodeAt_put h hx]
      split
      · rfl
      · exact hz'.there
    refine ⟨h1, ?_⟩
    rw [h2, all_put h hx, List.map_map]
    rfl
theorem upds_grow {p e q : Int} (n : Nd) : ∀ (P : List Nd) (m : Nd), (∀ x ∈ P, x.i = n.i → x = n) → (m = n ∨ m = growN n p e q) → (P.map fun x => growN x p e q).foldl (fun n x => updNd x n) m = m ∨ ((P.map fun x => growN x p e q).foldl (fun n x => updNd x n) m = growN n p e q ∧ n ∈ P)
  | [], m, _, hm => .inl rfl
  | x :: P, m, hP, hm => by
    rw [List.map_cons, List.foldl_cons]
    have hmi : m.i = n.i := by rcases hm with rfl | rfl <;> rfl
    by_cases hx : x.i = n.i
    · have hxn := hP x List.mem_cons_self hx
      subst hxn
      have h1 : updNd (growN x p e q) m = growN x p e q := by unfold updNd; rw [if_pos (show m.i = (growN x p e q).i from hmi)]
      rw [h1]
      rcases upds_grow x P (growN x p e q) (fun z hz => hP z (List.mem_cons_of_mem _ hz)) (.inr rfl) with h2 | h2
      · exact .inr ⟨h2, List.mem_cons_self⟩
      · exact .inr ⟨h2.1, List.mem_cons_self⟩
    · have h1 : updNd (growN x p e q) m = m := by
        unfold updNd
        rw [if_neg (fun z => hx (z.symm.trans hmi))]
      rw [h1]
      rcases upds_grow n P m (fun z hz => hP z (List.mem_cons_of_mem _ hz)) hm with h2 | h2
      · exact .inl h2
      · exact .inr ⟨h2.1, List.mem_cons_of_mem _ h2.2⟩
theorem path_mem {S : VS} {y : Int} : ∀ {k : Nat} {i : Int} {x : Nd}, x ∈ pathN S y k i → nodeAt S y x.i = some x
  | 0, i, x, h => by cases h
  | k + 1, i, x, h => by
    unfold pathN at h
    split at h
    · cases h
    · rename_i n e
      have hn : nodeAt S y n.i = some n := by rw [(nodeAt_id e).2.1]; exact e
      split at h
      · obtain rfl := List.mem_singleton.1 h
        exact hn
      · rcases List.mem_cons.1 h with rfl | h
        · exact hn
        · exact path_mem h
theorem all_mem {S : VS} (h : S.Ok) {y : Int} {n : Nd} (hn : n ∈ allN S y) : nodeAt S y n.i = some n := by
  unfold allN at hn
  split at hn
  · rename_i hy
    have hyb := (heldB_iff _).1 hy
    obtain ⟨x, hx, e⟩ := List.mem_filterMap.1 hn
    obtain ⟨q, hq, rfl⟩ := List.mem_map.1 hx
    obtain ⟨g1, g2, g3, g4, g5, g6⟩ := year_of h hq e
    have hny : n.y = y := by unfold held4 at g1; omega
    have hnow := ((scan_mem h).1 hq).1
    unfold nodeAt
    rw [hy, (heldB_iff n.i).2 ⟨g4, g5⟩, if_pos (show (true && true) = true from rfl), show nKy y n.i = q.1 by rw [g6, hny], hnow, Option.getD_some]
    have : keyL 78 [y, n.i] = by_ q.1 := by rw [g6, hny, by_tx (keyL_bytes (by omega) _)]
    rw [this]
    exact e
  · cases hn
/-- What P29.3 says: node by node, behind a charge that was done. -/
theorem charge_holds {S : VS} (h : S.Ok) {y : Int} (hok : ∀ n, ∀ i, nodeAt S y i = some n → NdOk n) {i p e q : Int} {wn : Bool} {S' : VS} (hc : chargeR S y i p e q = ((wn, 0), S')) :
    S'.Ok ∧ (allN S' y).length = (allN S y).length ∧ ∀ (k : Nat) (a b : Nd), (allN S y)[k]? = some a → (allN S' y)[k]? = some b → HoldN a b wn := by
  unfold chargeR at hc
  split at hc
  · injection hc with h1 h2; injection h1 with h3 h4; cases h4
  · split at hc
    · injection hc with h1 h2; injection h1 with h3 h4; cases h4
    · rename_i hin
      rw [Bool.not_eq_false] at hin
      split at hc
      · rename_i hz
        injection hc with h1 h2
        subst h2
        -- every node of the path is fit
        have hall : ∀ x ∈ pathN S y 8 i, (chkN x p e q).2 = 0 := by
          intro x hx
          obtain ⟨j, hj, rfl⟩ := List.getElem_of_mem hx
          refine Classical.byContradiction fun hne => ?_
          -- the first that is not
          have : ∃ k, k ≤ j ∧ ∃ z, (pathN S y 8 i)[k]? = some z ∧ (chkN z p e q).2 ≠ 0 ∧ ∀ u ∈ (pathN S y 8 i).take k, (chkN u p e q).2 = 0 := by
            clear hz h1 hx
            generalize pathN S y 8 i = L at hj hne ⊢
            induction L generalizing j with
            | nil => simp at hj
            | cons z r ih =>
              by_cases hz0 : (chkN z p e q).2 = 0
              · cases j with
                | zero => exact absurd hz0 (by simpa using hne)
                | succ j =>
                  obtain ⟨k, hk, u, hu, hun, hb⟩ := ih j (by simpa using hj) (by simpa using hne)
                  exact ⟨k + 1, by omega, u, by simpa using hu, hun, fun v hv => by
                    rw [List.take_succ_cons] at hv
                    rcases List.mem_cons.1 hv with rfl | hv
                    · exact hz0
                    · exact hb v hv⟩
              · exact ⟨0, Nat.zero_le _, z, rfl, hz0, fun v hv => by cases hv⟩
          obtain ⟨k, _, z, hkz, hzn, hb⟩ := this
          rw [chkA_bad hkz hb hzn] at hz
          exact hzn hz
        have hwn : wn = warnA (pathN S y 8 i) p e q := by
          rw [chkA_ok hall] at h1
          injection h1 with h1
          exact h1.symm
        have hin' : ∀ x ∈ ((pathN S y 8 i).map fun x => growN x p e q), NodeIn S y x := by
          intro x hx
          obtain ⟨z, hz, rfl⟩ := List.mem_map.1 hx
          have hzn := path_mem hz
          refine ⟨(nodeAt_id hzn).1, ?_, by show (nodeAt S y z.i).isSome = true; rw [hzn]; rfl⟩
          have hzo := hok z _ hzn
          intro v hv
          simp only [growN, List.mem_cons, List.not_mem_nil, or_false] at hv
          rcases hv with rfl | rfl | rfl | rfl | rfl | rfl | rfl | rfl | rfl | rfl | rfl
          · exact hzo _ (by simp)
          · exact hzo _ (by simp)
          · exact hzo _ (by simp)
          · exact hzo _ (by simp)
          · exact hzo _ (by simp)
          · exact hzo _ (by simp)
          · unfold wrap64; omega
          · unfold wrap64; omega
          · unfold wrap64; omega
          · exact hzo _ (by simp)
          · exact hzo _ (by simp)
        obtain ⟨g1, g2⟩ := all_puts _ h hin'
        refine ⟨g1, by rw [g2, List.length_map], fun k a b ha hb => ?_⟩
        rw [g2, List.getElem?_map, ha] at hb
        have hb := Option.some.inj hb
        have han := all_mem h (List.mem_of_getElem? ha)
        have hb : List.foldl (fun n x => updNd x n) a (List.map (fun x => growN x p e q) (pathN S y 8 i)) = b := hb
        rcases upds_grow (p := p) (e := e) (q := q) a (pathN S y 8 i) a (fun x hx hxi => by
          have h1 := path_mem hx
          rw [hxi, han] at h1
          exact (Option.some.inj h1).symm) (.inl rfl) with hu | ⟨hu, hap⟩
        · rw [← hb, hu]; exact HoldN.same _ _
        · rw [← hb, hu]
          refine (chk_holds hin (hall a hap)).mono fun hw => ?_
          rw [hwn]
          exact List.any_eq_true.2 ⟨a, hap, hw⟩
      · rename_i hz
        injection hc with h1 h2
        rw [h1] at hz
        exact absurd rfl hz
end Go.Proofs.YtlcbmobdokicaaaGreat

/-
  Contracts of ctrl: within, right, Allows, grown, check. Condition: which numbers are ints.
-/
namespace Go.Proofs.YtlcbmobdokicaaaGreat
open Go.RowKit Go.Maps
set_option maxRecDepth 100000
set_option linter.unusedVariables false

theorem withinFn_any (n lo hi : Int) (b1 b2 : Nat) (W : World) (h1 : W.cell? ⟨b1, 0, none⟩ = some (.int .i64 lo)) (h2 : W.cell? ⟨b2, 0, none⟩ = some (.int .i64 hi)) :
    Calls Tryz.prog 169 #[.int .i64 n, .pointer (some ⟨b1, 0, none⟩), .pointer (some ⟨b2, 0, none⟩)] W fun e w' => e = .returned (.bool (outC lo hi n)) ∧ W = w' := by
  unfold outC
  by_cases c1 : n < lo
  · have k1 : decide (n < lo) = true := decide_eq_true c1
    rw [k1, Bool.true_or]
    clear c1
    go_enter Tryz.func169, Tryz.ntmps169
    go_wp2_with fail
    go_ret
    exact ⟨rfl, rfl⟩
  · have k1 : decide (n < lo) = false := decide_eq_false c1
    rw [k1, Bool.false_or]
    clear c1
    go_enter Tryz.func169, Tryz.ntmps169
    go_wp2_with fail
    go_ret
    exact ⟨rfl, rfl⟩
set_option maxHeartbeats 800000 in
theorem withinIdx_any {w : World} {B n : Nat} {A : Option Addr} {l : List Int} (c : Nat) (hr : RI w B A n l) (hm : n ≤ maxLen) (lo hi : Int) (b1 b2 : Nat) (h1 : w.cell? ⟨b1, 0, none⟩ = some (.int .i64 lo)) (h2 : w.cell? ⟨b2, 0, none⟩ = some (.int .i64 hi)) :
    Calls Tryz.prog 189 #[.slice A n c, .func (.func 169) #[] #[.pointer (some ⟨b1, 0, none⟩), .pointer (some ⟨b2, 0, none⟩)]] w fun e w' => ∃ i : Int, e = .returned (.int .i64 i) ∧ decide (0 ≤ i) = !(inC lo hi l) ∧ w = w' := by
  unfold maxLen at hm
  have HR := Lib.hid hr
  have HF := Lib.hid (fun x => withinFn_any x lo hi b1 b2 w h1 h2)
  clear hr h1 h2
  go_enter Tryz.func189, Tryz.ntmps189
  go_wp2_with fail
  go_loop [8] (fun i => ∃ j : Nat, j ≤ n ∧ i = .int .i64 j ∧ Hid (∀ (m : Nat) (y : Int), m < j → l[m]? = some y → outC lo hi y = false)) (fun i => n - (intOf i).toNat)
  case atStart => exact ⟨0, Nat.zero_le _, rfl, Lib.hid (fun m y hm => absurd hm (by omega))⟩
  case round =>
    obtain ⟨j, hj, rfl, hbef⟩ := hrel
    by_cases hlt : j < n
    · obtain ⟨b, off, rfl, hb, hat⟩ := HR.out.2.2 (by omega)
      have hc := hat j hlt
      obtain ⟨y, hy⟩ : ∃ y, l[j]? = some y := ⟨_, List.getElem?_eq_getElem (by rw [HR.out.len]; exact hlt)⟩
      rw [hy, Option.getD_some] at hc
      have HC := Lib.hid (HF.out y)
      have HY := Lib.hid hy
      clear hat hy
      have hlt' : (j : Int) < (n : Int) := by omega
      cases hk : outC lo hi y
      · rw [hk] at HC
        have hn := Lib.hid (fun (m : Nat) (z : Int) (hm : m < j + 1) => show l[m]? = some z → outC lo hi z = false by
          intro hz
          rcases Nat.lt_or_ge m j with h | h
          · exact hbef.out m z h hz
          · obtain rfl : m = j := by omega
            rw [HY.out] at hz
            cases hz
            exact hk)
        clear hk
        go_wp2_with fail
        refine HC.out.mono ?_
        rintro e w' ⟨rfl, rfl⟩
        clear hc
        go_wp2
        go_round
        case rel => exact ⟨j + 1, by omega, by go_num, hn⟩
        case measure => simp [intOf]; omega
      · rw [hk] at HC
        have HEX := Lib.hid (show inC lo hi l = false from by
          unfold inC
          rw [List.all_eq_false]
          exact ⟨y, List.mem_of_getElem? HY.out, by rw [hk]; decide⟩)
        clear hk
        go_wp2_with fail
        refine HC.out.mono ?_
        rintro e w' ⟨rfl, rfl⟩
        clear hc
        go_wp2
        go_ret
        exact ⟨_, rfl, by rw [HEX.out]; exact decide_eq_true (by omega), rfl⟩
    · obtain rfl : j = n := by omega
      have HEX := Lib.hid (show inC lo hi l = true from by
        unfold inC
        rw [List.all_eq_true]
        intro y hy
        obtain ⟨k, hk, rfl⟩ := List.getElem_of_mem hy
        rw [hbef.out k _ (by rw [HR.out.len] at hk; exact hk) (List.getElem?_eq_getElem hk)]
        rfl)
      go_wp2
      go_ret
      exact ⟨_, rfl, by rw [HEX.out]; decide, rfl⟩
set_option maxHeartbeats 800000 in
theorem within_any {w : World} {B n : Nat} {A : Option Addr} {l : List Int} (c : Nat) (hr : RI w B A n l) (hB : B ≤ w.heap.size) (hm : n ≤ maxLen) (lo hi : Int) :
    Calls Tryz.prog 146 #[.int .i64 lo, .int .i64 hi, .slice A n c] w fun e w' => e = .returned (.bool (inC lo hi l)) ∧ Below w.heap.size w w' := by
  obtain ⟨w1, hw1⟩ : ∃ w1, w1 = (w.alloc (.cells #[.int .i64 lo] 3)).alloc (.cells #[.int .i64 hi] 3) := ⟨_, rfl⟩
  have hb1 : Below w.heap.size w w1 := by rw [hw1]; exact ((Below.refl _ _).alloc (Nat.le_refl _) _).alloc (by simp) _
  have c0 : w1.cell? ⟨w.heap.size, 0, none⟩ = some (.int .i64 lo) := by
    rw [hw1]
    exact cell_of_row _ _ 0 _ _ (0, 0) ((((Below.refl (w.alloc _).heap.size _).alloc (Nat.le_refl _) _).block _ (by simp)).trans (heap_alloc_new w _))
  have c1 : w1.cell? ⟨w.heap.size + 1, 0, none⟩ = some (.int .i64 hi) := by
    rw [hw1]
    exact cell_of_row _ _ 0 _ _ (0, 0) (heap_alloc2_new _ _ _)
  have HI := Lib.hid (withinIdx_any c (hr.below (hb1.mono hB)) hm lo hi w.heap.size (w.heap.size + 1) c0 c1)
  have HC : Hid (Calls Tryz.prog 168 #[.slice A n c, .func (.func 169) #[] #[.pointer (some ⟨w.heap.size, 0, none⟩), .pointer (some ⟨w.heap.size + 1, 0, none⟩)]] w1 fun e w' => e = .returned (.bool (!(inC lo hi l))) ∧ w1 = w') := Lib.hid (by
    generalize inC lo hi l = bb at HI ⊢
    clear hr c0 c1 hw1 hb1
    go_enter Tryz.func168, Tryz.ntmps168
    go_wp2_with fail
    refine HI.out.mono ?_
    rintro e w' ⟨i, rfl, hi, rfl⟩
    have HI := Lib.hid hi
    clear hi
    go_wp2
    go_ret
    rw [← HI.out]
    exact ⟨rfl, rfl⟩)
  have HB := Lib.hid hb1
  clear hr c0 c1 hb1 HI
  generalize inC lo hi l = bb at HC ⊢
  go_enter Tryz.func146, Tryz.ntmps146
  go_wp2_with fail
  rw [← hw1]
  clear hw1
  refine HC.out.mono ?_
  rintro e w' ⟨rfl, rfl⟩
  go_wp2_with fail
  go_ret
  exact ⟨rfl, HB.out⟩
/-- A row of ints that a call lays as its argument. -/
theorem ri_lit (W : World) (T : TypeId) (l : List Int) (cs : Array Value) (hcs : cs = (l.map (Value.int .i64)).toArray) (h : In64 l) : RI (W.alloc (.cells cs T)) (W.heap.size + 1) (some ⟨W.heap.size, 0, none⟩) l.length l := by
  subst hcs
  refine ⟨rfl, h, fun _ => ⟨W.heap.size, 0, rfl, Nat.lt_succ_self _, fun j hj => ?_⟩⟩
  rw [Nat.zero_add, cell_of_row _ _ j _ _ (0, 0) (heap_alloc_new W _)]
  simp [List.getElem?_eq_getElem hj]
theorem ri_litAt (W : World) (g : Nat) (hg : W.heap.size = g) (T : TypeId) (l : List Int) (cs : Array Value) (hcs : cs = (l.map (Value.int .i64)).toArray) (h : In64 l) : RI (W.alloc (.cells cs T)) (g + 1) (some ⟨g, 0, none⟩) l.length l := by
  subst hg
  exact ri_lit W T l cs hcs h
theorem wrapC_in (n : Int) : -9223372036854775808 ≤ wrap64 n ∧ wrap64 n ≤ 9223372036854775807 := by unfold wrap64; omega
set_option maxHeartbeats 800000 in
theorem ctlRight_any (x : Nd) (hx : NdOk x) (w : World) : Calls Tryz.prog 170 #[.agg #[.int .i64 x.y, .int .i64 x.i, .int .i64 x.p, .int .i64 x.f, .int .i64 x.o, .bool x.ab, .int .i64 x.li, .int .i64 x.pr, .int .i64 x.en, .int .i64 x.ex, .int .i64 x.la, .int .i64 x.ca]] w fun e w' => e = .returned (.bool (rightN x)) ∧ Below w.heap.size w w' := by
  have hb1 : Below w.heap.size w ((w.alloc (.cells #[.int .i64 x.y, .int .i64 x.i, .int .i64 x.p, .int .i64 x.f, .int .i64 x.o, .bool x.ab, .int .i64 x.li, .int .i64 x.pr, .int .i64 x.en, .int .i64 x.ex, .int .i64 x.la, .int .i64 x.ca] 41)).alloc (.cells #[.int .i64 x.pr, .int .i64 x.en, .int .i64 x.ex] 3)) := ((Below.refl _ _).alloc (Nat.le_refl _) _).alloc (by simp) _
  have HW := Lib.hid (within_any (n := 3) 3 (ri_litAt (w.alloc (.cells #[.int .i64 x.y, .int .i64 x.i, .int .i64 x.p, .int .i64 x.f, .int .i64 x.o, .bool x.ab, .int .i64 x.li, .int .i64 x.pr, .int .i64 x.en, .int .i64 x.ex, .int .i64 x.la, .int .i64 x.ca] 41)) (w.heap.size + 1) (by simp) 3 [x.pr, x.en, x.ex] _ rfl (by
    intro v hv
    simp only [List.mem_cons, List.not_mem_nil, or_false] at hv
    rcases hv with rfl | rfl | rfl
    · exact hx _ (by simp)
    · exact hx _ (by simp)
    · exact hx _ (by simp))) (by simp) (by decide) 0 1152921504606846976)
  have HB := Lib.hid hb1
  unfold rightN
  generalize inC 0 1152921504606846976 [x.pr, x.en, x.ex] = bb at HW ⊢
  clear hb1 hx
  obtain ⟨y, i, p, f, o, ab, li, pr, en, ex, la, ca⟩ := x
  simp only at HW HB ⊢
  go_enter Tryz.func170, Tryz.ntmps170
  go_wp2_with fail
  refine HW.out.mono ?_
  rintro e w' ⟨rfl, hb⟩
  have HE := Lib.hid (HB.out.trans (hb.mono HB.out.size))
  clear hb
  go_wp2_with fail
  go_ret
  exact ⟨rfl, HE.out⟩
end Go.Proofs.YtlcbmobdokicaaaGreat

/-
  Contracts of ctrl: Allows, grown, check. Condition: which numbers are ints.
-/
namespace Go.Proofs.YtlcbmobdokicaaaGreat
open Go.RowKit Go.Maps
set_option maxRecDepth 100000
set_option linter.unusedVariables false

theorem twoIn_any (a b : Int) (ha : Nd64 a) (hb : Nd64 b) (W : World) : Calls Tryz.prog 146 #[.int .i64 (-1152921504606846976), .int .i64 1152921504606846976, .slice (some ⟨W.heap.size, 0, none⟩) 2 2] (W.alloc (.cells #[.int .i64 a, .int .i64 b] 3)) fun e w' => e = .returned (.bool (inC (-1152921504606846976) 1152921504606846976 [a, b])) ∧ Below (W.alloc (.cells #[.int .i64 a, .int .i64 b] 3)).heap.size (W.alloc (.cells #[.int .i64 a, .int .i64 b] 3)) w' := by
  have hr := ri_lit W 3 [a, b] #[.int .i64 a, .int .i64 b] rfl (by
    intro v hv
    simp only [List.mem_cons, List.not_mem_nil, or_false] at hv
    rcases hv with rfl | rfl
    · exact ha
    · exact hb)
  have hs : W.heap.size + 1 ≤ (W.alloc (.cells #[.int .i64 a, .int .i64 b] 3)).heap.size := by simp
  exact within_any (n := 2) 2 hr hs (by decide) _ _
theorem usedN_in (x : Nd) : Nd64 (usedN x) := wrapC_in _
set_option maxHeartbeats 3200000 in
theorem allows_any (x : Nd) (hx : NdOk x) (more : Int) (hm : Nd64 more) (w : World) : Calls Tryz.prog 171 #[.agg #[.int .i64 x.y, .int .i64 x.i, .int .i64 x.p, .int .i64 x.f, .int .i64 x.o, .bool x.ab, .int .i64 x.li, .int .i64 x.pr, .int .i64 x.en, .int .i64 x.ex, .int .i64 x.la, .int .i64 x.ca], .int .i64 more] w fun e w' => e = .returned (.tuple #[.bool (allowsN x more).1, .bool (allowsN x more).2]) ∧ Below w.heap.size w w' := by
  obtain ⟨w1, hw1⟩ : ∃ w1, w1 = w.alloc (.cells #[.int .i64 x.y, .int .i64 x.i, .int .i64 x.p, .int .i64 x.f, .int .i64 x.o, .bool x.ab, .int .i64 x.li, .int .i64 x.pr, .int .i64 x.en, .int .i64 x.ex, .int .i64 x.la, .int .i64 x.ca] 41) := ⟨_, rfl⟩
  have hb1 : Below w.heap.size w w1 := by rw [hw1]; exact (Below.refl _ _).alloc (Nat.le_refl _) _
  have hblk : w1.heap[w.heap.size]? = some (.cells #[.int .i64 x.y, .int .i64 x.i, .int .i64 x.p, .int .i64 x.f, .int .i64 x.o, .bool x.ab, .int .i64 x.li, .int .i64 x.pr, .int .i64 x.en, .int .i64 x.ex, .int .i64 x.la, .int .i64 x.ca] 41 (0, 0)) := by rw [hw1]; exact heap_alloc_new w _
  have hs1 : w1.heap.size = w.heap.size + 1 := by rw [hw1]; simp
  have HU := Lib.hid (used_any x w1)
  have HC := Lib.hid (show ∀ W, Below w1.heap.size w1 W → W.cell? ⟨w.heap.size, 5, none⟩ = some (.bool x.ab) ∧ W.cell? ⟨w.heap.size, 6, none⟩ = some (.int .i64 x.li) from fun W hW => by
    have hb := (hW.block w.heap.size (by omega)).trans hblk
    exact ⟨cell_of_row _ _ 5 _ _ (0, 0) hb, cell_of_row _ _ 6 _ _ (0, 0) hb⟩)
  have HB := Lib.hid hb1
  have hu := usedN_in x
  have hli : Nd64 x.li := hx _ (by simp)
  have HIN := Lib.hid (fun W => twoIn_any (usedN x) x.li hu hli W)
  have e1 : more > 1152921504606846976 → allowsN x more = (false, false) := fun h => by unfold allowsN; rw [if_pos (.inl h)]
  have e2 : inC (-1152921504606846976) 1152921504606846976 [usedN x, x.li] = false → allowsN x more = (false, false) := fun h => by unfold allowsN; rw [if_pos (.inr h)]
  have e3 : ¬ more > 1152921504606846976 → inC (-1152921504606846976) 1152921504606846976 [usedN x, x.li] = true → (more < 1 ∨ wrap64 (usedN x + more) ≤ x.li) → allowsN x more = (true, false) := fun h g k => by unfold allowsN; rw [if_neg (by rw [g]; simp; omega), if_pos k]
  have e4 : ¬ more > 1152921504606846976 → inC (-1152921504606846976) 1152921504606846976 [usedN x, x.li] = true → ¬ (more < 1 ∨ wrap64 (usedN x + more) ≤ x.li) → allowsN x more = (if x.ab = true then (false, false) else (true, true)) := fun h g k => by unfold allowsN; rw [if_neg (by rw [g]; simp; omega), if_neg k]
  have E := Lib.hid (And.intro e1 (And.intro e2 (And.intro e3 e4)))
  clear e1 e2 e3 e4
  generalize inC (-1152921504606846976) 1152921504606846976 [usedN x, x.li] = bb at HIN E
  generalize usedN x = us at HU HIN E hu
  generalize allowsN x more = res at E ⊢
  obtain ⟨y, i, p, f, o, ab, li, pr, en, ex, la, ca⟩ := x
  simp only at HU HC HIN E hw1 hli ⊢
  clear hblk hs1 hx hb1
  by_cases c1 : more > 1152921504606846976
  · have k1 : decide (more > 1152921504606846976) = true := decide_eq_true c1
    obtain rfl := E.out.1 c1
    clear c1 E HIN
    go_enter Tryz.func171, Tryz.ntmps171
    go_wp2_with fail
    rw [← hw1]
    clear hw1
    refine HU.out.mono ?_
    rintro e w2 ⟨rfl, hb2⟩
    have HE := Lib.hid (HB.out.trans (hb2.mono HB.out.size))
    clear hb2 HU HC HB
    go_wp2_with fail
    go_ret2
    exact ⟨rfl, HE.out⟩
  have k1 : decide (more > 1152921504606846976) = false := decide_eq_false c1
  go_enter Tryz.func171, Tryz.ntmps171
  go_wp2_with fail
  rw [← hw1]
  clear hw1
  refine HU.out.mono ?_
  rintro e w2 ⟨rfl, hb2⟩
  have HB2 := Lib.hid hb2
  obtain ⟨c5, c6⟩ := HC.out w2 hb2
  have HW := Lib.hid (HIN.out w2)
  have HX := Lib.hid c1
  clear hb2 HU HIN c1
  go_wp2_with fail
  refine HW.out.mono ?_
  rintro e w3 ⟨rfl, hb3⟩
  have hb23 : Below w2.heap.size w2 w3 := ((Below.refl _ _).alloc (Nat.le_refl _) _).trans (hb3.mono (by simp))
  have hb13 := HB2.out.trans (hb23.mono HB2.out.size)
  have HE := Lib.hid (HB.out.trans (hb13.mono HB.out.size))
  obtain ⟨d5, d6⟩ := HC.out w3 hb13
  clear hb3 hb23 hb13 HW HC HB HB2 c5 c6
  cases bb with
  | false =>
    obtain rfl := E.out.2.1 rfl
    clear E
    go_wp2_with fail
    go_ret2
    exact ⟨rfl, HE.out⟩
  | true =>
    have e3 := E.out.2.2.1 HX.out rfl
    have e4 := E.out.2.2.2 HX.out rfl
    have E3 := Lib.hid e3
    have E4 := Lib.hid e4
    clear E e3 e4
    by_cases c2 : more < 1
    · have k2 : decide (more < 1) = true := decide_eq_true c2
      obtain rfl := E3.out (.inl c2)
      clear E3 E4 c2
      go_wp2_with fail
      go_ret2
      exact ⟨rfl, HE.out⟩
    · have k2 : decide (more < 1) = false := decide_eq_false c2
      by_cases c3 : wrap64 (us + more) ≤ li
      · have k3 : decide (wrap64 (us + more) ≤ li) = true := decide_eq_true c3
        obtain rfl := E3.out (.inr c3)
        clear E3 E4 c2 c3
        go_wp2_with fail
        go_ret2
        exact ⟨rfl, HE.out⟩
      · have k3 : decide (wrap64 (us + more) ≤ li) = false := decide_eq_false c3
        have e4 := E4.out (by omega)
        clear E3 E4 c2 c3
        cases ab with
        | true =>
          obtain rfl := e4
          go_wp2_with fail
          go_ret2
          exact ⟨rfl, HE.out⟩
        | false =>
          obtain rfl := e4
          go_wp2_with fail
          go_ret2
          exact ⟨rfl, HE.out⟩
end Go.Proofs.YtlcbmobdokicaaaGreat

/-
  Contracts of ctrl: grown, check. Condition: which numbers are ints.
-/
namespace Go.Proofs.YtlcbmobdokicaaaGreat
open Go.RowKit Go.Maps
set_option maxRecDepth 100000
set_option linter.unusedVariables false

theorem growN_ok {x : Nd} (h : NdOk x) (p e q : Int) : NdOk (growN x p e q) := by
  intro v hv
  simp only [growN, List.mem_cons, List.not_mem_nil, or_false] at hv
  rcases hv with rfl | rfl | rfl | rfl | rfl | rfl | rfl | rfl | rfl | rfl | rfl
  · exact h _ (by simp)
  · exact h _ (by simp)
  · exact h _ (by simp)
  · exact h _ (by simp)
  · exact h _ (by simp)
  · exact h _ (by simp)
  · exact wrapC_in _
  · exact wrapC_in _
  · exact wrapC_in _
  · exact h _ (by simp)
  · exact h _ (by simp)
set_option maxHeartbeats 3200000 in
theorem grown_any (x : Nd) (p e q : Int) (w : World) : Calls Tryz.prog 148 #[.agg #[.int .i64 x.y, .int .i64 x.i, .int .i64 x.p, .int .i64 x.f, .int .i64 x.o, .bool x.ab, .int .i64 x.li, .int .i64 x.pr, .int .i64 x.en, .int .i64 x.ex, .int .i64 x.la, .int .i64 x.ca], .int .i64 p, .int .i64 e, .int .i64 q] w fun r w' => r = .returned (.agg #[.int .i64 (growN x p e q).y, .int .i64 (growN x p e q).i, .int .i64 (growN x p e q).p, .int .i64 (growN x p e q).f, .int .i64 (growN x p e q).o, .bool (growN x p e q).ab, .int .i64 (growN x p e q).li, .int .i64 (growN x p e q).pr, .int .i64 (growN x p e q).en, .int .i64 (growN x p e q).ex, .int .i64 (growN x p e q).la, .int .i64 (growN x p e q).ca]) ∧ Below w.heap.size w w' := by
  unfold growN
  obtain ⟨y, i, pp, f, o, ab, li, pr, en, ex, la, ca⟩ := x
  simp only
  go_enter Tryz.func148, Tryz.ntmps148
  go_wp2_with fail
  refine bodyPost_ret (results_cell_row rfl _ _ (w.heap.size + 1) _ _ _ _ rfl (heap_alloc2_new w _ _) Tryz.underlying41 rfl node_size) rfl ?_
  exact ⟨rfl, ((Below.refl _ _).alloc (Nat.le_refl _) _).alloc (by simp) _⟩
set_option maxHeartbeats 3200000 in
theorem check_any (x : Nd) (hx : NdOk x) (p e q : Int) (w : World) : Calls Tryz.prog 147 #[.agg #[.int .i64 x.y, .int .i64 x.i, .int .i64 x.p, .int .i64 x.f, .int .i64 x.o, .bool x.ab, .int .i64 x.li, .int .i64 x.pr, .int .i64 x.en, .int .i64 x.ex, .int .i64 x.la, .int .i64 x.ca], .int .i64 p, .int .i64 e, .int .i64 q] w fun r w' => r = .returned (.tuple #[.bool (chkN x p e q).1, .int .i64 (chkN x p e q).2]) ∧ Below w.heap.size w w' := by
  obtain ⟨w1, hw1⟩ : ∃ w1, w1 = w.alloc (.cells #[.int .i64 x.y, .int .i64 x.i, .int .i64 x.p, .int .i64 x.f, .int .i64 x.o, .bool x.ab, .int .i64 x.li, .int .i64 x.pr, .int .i64 x.en, .int .i64 x.ex, .int .i64 x.la, .int .i64 x.ca] 41) := ⟨_, rfl⟩
  have hb1 : Below w.heap.size w w1 := by rw [hw1]; exact (Below.refl _ _).alloc (Nat.le_refl _) _
  have hblk : w1.heap[w.heap.size]? = some (.cells #[.int .i64 x.y, .int .i64 x.i, .int .i64 x.p, .int .i64 x.f, .int .i64 x.o, .bool x.ab, .int .i64 x.li, .int .i64 x.pr, .int .i64 x.en, .int .i64 x.ex, .int .i64 x.la, .int .i64 x.ca] 41 (0, 0)) := by rw [hw1]; exact heap_alloc_new w _
  have hs1 : w1.heap.size = w.heap.size + 1 := by rw [hw1]; simp
  have HR1 := Lib.hid (fun W => ctlRight_any x hx W)
  have HG := Lib.hid (fun W => grown_any x p e q W)
  have HR2 := Lib.hid (fun W => ctlRight_any (growN x p e q) (growN_ok hx p e q) W)
  have HAL := Lib.hid (fun W => allows_any x hx (wrap64 (wrap64 (p + e) + q)) (wrapC_in _) W)
  have HC := Lib.hid (show ∀ W, Below w1.heap.size w1 W → W.heap[w.heap.size]? = some (.cells #[.int .i64 x.y, .int .i64 x.i, .int .i64 x.p, .int .i64 x.f, .int .i64 x.o, .bool x.ab, .int .i64 x.li, .int .i64 x.pr, .int .i64 x.en, .int .i64 x.ex, .int .i64 x.la, .int .i64 x.ca] 41 (0, 0)) from fun W hW => (hW.block w.heap.size (by omega)).trans hblk)
  have HB := Lib.hid hb1
  have e1 : rightN x = false → chkN x p e q = (false, 9) := fun h => by unfold chkN; rw [if_pos (.inl h)]
  have e2 : rightN (growN x p e q) = false → chkN x p e q = (false, 9) := fun h => by unfold chkN; rw [if_pos (.inr h)]
  have e3 : rightN x = true → rightN (growN x p e q) = true → (allowsN x (wrap64 (wrap64 (p + e) + q))).1 = true → chkN x p e q = ((allowsN x (wrap64 (wrap64 (p + e) + q))).2, 0) := fun h g k => by unfold chkN; rw [if_neg (by rw [h, g]; simp), if_pos k]
  have e4 : rightN x = true → rightN (growN x p e q) = true → (allowsN x (wrap64 (wrap64 (p + e) + q))).1 = false → chkN x p e q = (false, 11) := fun h g k => by unfold chkN; rw [if_neg (by rw [h, g]; simp), if_neg (by rw [k]; decide)]
  have E := Lib.hid (And.intro e1 (And.intro e2 (And.intro e3 e4)))
  clear e1 e2 e3 e4 hx hblk hs1 hb1
  generalize growN x p e q = G at HG HR2 E
  generalize rightN x = r1 at HR1 E
  generalize rightN G = r2 at HR2 E
  generalize allowsN x (wrap64 (wrap64 (p + e) + q)) = al at HAL E
  generalize chkN x p e q = res at E ⊢
  obtain ⟨al1, al2⟩ := al
  obtain ⟨y, i, pp, f, o, ab, li, pr, en, ex, la, ca⟩ := x
  simp only at HR1 HG HAL HC E hw1 ⊢
  go_enter Tryz.func147, Tryz.ntmps147
  go_wp2_with fail
  rw [← hw1]
  clear hw1
  refine (HR1.out _).mono ?_
  rintro r w2 ⟨rfl, hb2⟩
  obtain ⟨z0, z1, z2, z3, z4, z5, z6, z7, z8, z9, z10, z11⟩ := node_cells (HC.out w2 hb2)
  have HB2 := Lib.hid hb2
  clear hb2 HR1
  cases r1 with
  | false =>
    obtain rfl := E.out.1 rfl
    have HE := Lib.hid (HB.out.trans (HB2.out.mono HB.out.size))
    clear E HC HG HR2 HAL
    go_wp2_with fail
    go_ret2
    exact ⟨rfl, HE.out⟩
  | true =>
    go_wp2_with fail
    refine (HG.out _).mono ?_
    rintro r w3 ⟨rfl, hb3⟩
    have hb13 := HB2.out.trans (hb3.mono HB2.out.size)
    obtain ⟨y0, y1, y2, y3, y4, y5, y6, y7, y8, y9, y10, y11⟩ := node_cells (HC.out w3 hb13)
    have HB3 := Lib.hid hb13
    clear hb3 hb13 HG HB2 z0 z1 z2 z3 z4 z5 z6 z7 z8 z9 z10 z11
    go_wp2_with fail
    refine (HR2.out _).mono ?_
    rintro r w4 ⟨rfl, hb4⟩
    have hb14 := HB3.out.trans (hb4.mono HB3.out.size)
    obtain ⟨x0, x1, x2, x3, x4, x5, x6, x7, x8, x9, x10, x11⟩ := node_cells (HC.out w4 hb14)
    have HB4 := Lib.hid hb14
    clear hb4 hb14 HR2 HB3 y0 y1 y2 y3 y4 y5 y6 y7 y8 y9 y10 y11
    cases r2 with
    | false =>
      obtain rfl := E.out.2.1 rfl
      have HE := Lib.hid (HB.out.trans (HB4.out.mono HB.out.size))
      clear E HC HAL
      go_wp2_with fail
      go_ret2
      exact ⟨rfl, HE.out⟩
    | true =>
      go_wp2_with fail
      refine (HAL.out _).mono ?_
      rintro r w5 ⟨rfl, hb5⟩
      have HE := Lib.hid (HB.out.trans ((HB4.out.trans (hb5.mono HB4.out.size)).mono HB.out.size))
      clear hb5 HAL HB4 HC x0 x1 x2 x3 x4 x5 x6 x7 x8 x9 x10 x11
      cases al1 with
      | true =>
        obtain rfl := E.out.2.2.1 (by first | rfl | trivial) (by first | rfl | trivial) (by first | rfl | trivial)
        clear E
        go_wp2_with fail
        go_ret2
        exact ⟨rfl, HE.out⟩
      | false =>
        obtain rfl := E.out.2.2.2 (by first | rfl | trivial) (by first | rfl | trivial) (by first | rfl | trivial)
        clear E
        go_wp2_with fail
        go_ret2
        exact ⟨rfl, HE.out⟩
end Go.Proofs.YtlcbmobdokicaaaGreat
