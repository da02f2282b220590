/-
  The texts ChaA, ManS joined. Conditions: those that each part says at its head.
-/
import Derived.Test.YtlcbmobdokicaaaGreatViewC
import Derived.Test.YtlcbmobdokicaaaGreatIntApp
import Derived.Test.YtlcbmobdokicaaaGreatKeyB
import Derived.Test.YtlcbmobdokicaaaGreatNumsP

/-
  Contract of chart.numbers over a view in memory: the numbers behind a tag in its keys, in a row of the call's own; nothing that was there is written. Condition: what a scan of the tag comes to.
-/
namespace Go.Proofs.YtlcbmobdokicaaaGreat
open Go.RowKit Go.Maps
set_option maxRecDepth 100000
set_option linter.unusedVariables false

/-- What a scan asks of a view. -/
structure ScanOk (S : VS) : Prop where
  wf : S.W.length ≤ 2147483647
  wk : ∀ p ∈ S.W, p.1.length ≤ 140737488355328
  cf : S.C.length ≤ 32767
  ck : ∀ p ∈ S.C, p.1.length ≤ 140737488355328
theorem one_len (L : TL) (p : Txt × Option (List Int)) : (VS.one L p).length ≤ L.length + 1 := by
  unfold VS.one
  split
  · exact setT_len _ _ _
  · exact Nat.le_succ_of_le (delT_len _ _)
theorem fold_len : ∀ (C : List (Txt × Option (List Int))) (L : TL), (C.foldl VS.one L).length ≤ L.length + C.length
  | [], L => Nat.le_refl _
  | p :: C, L => by
    have h1 := fold_len C (VS.one L p)
    have h2 := one_len L p
    rw [List.foldl_cons, List.length_cons]
    omega
theorem scan_len (S : VS) (x : Txt) : (S.scan x).length ≤ S.W.length + S.C.length := Nat.le_trans (List.length_filter_le _ _) (fold_len _ _)
theorem keyTag (t : Int) : keyL t [] = [t] := rfl
theorem numsK_len (ps : List KV) : (numsK ps).length ≤ ps.length := List.length_filterMap_le _ _
theorem numsK_step {ps : List KV} {k : Nat} {x : KV} (h : ps[k]? = some x) : numsK (ps.take (k + 1)) = numsK (ps.take k) ++ (oneOf x.1).toList := by
  obtain ⟨hk, rfl⟩ := List.getElem?_eq_some_iff.1 h
  unfold numsK
  rw [List.take_succ_eq_append_getElem hk, List.filterMap_append]
  congr 1
theorem numsK_ints {ps : List KV} (h : ∀ x ∈ ps, AllBytes x.1) : ∀ x ∈ numsK ps, -9223372036854775808 ≤ x ∧ x ≤ 9223372036854775807 := by
  intro x hx
  obtain ⟨q, hq, e⟩ := List.mem_filterMap.1 hx
  unfold oneOf at e
  split at e
  · cases e
    exact numOf_bound _ ((h q hq).drop 1 |>.take 4)
  · cases e
theorem kv_bytes {L : TL} : ∀ x ∈ L.map kvOf, AllBytes x.1 := fun x hx => by
  obtain ⟨p, _, rfl⟩ := List.mem_map.1 hx
  exact by_bytes p.1
/-- What a scan of one tag answers, from a world on. -/
def ScansAt (w : World) (v : Nat) (t : Int) (ps : List KV) : Prop :=
  ∀ W A k, Below w.heap.size w W → RB W W.heap.size A 1 [t] → Calls Tryz.prog 89 #[.pointer (some ⟨v, 0, none⟩), .slice A 1 k] W fun e w' => ∃ A' n' k', e = .returned (.slice A' n' k') ∧ n' ≤ k' ∧ RPairs w' w'.heap.size A' n' ps ∧ Below W.heap.size W w'
section
variable {w w' : World} {v : Nat}
end
end Go.Proofs.YtlcbmobdokicaaaGreat

/-
  A view in memory with not many keys, all of them short: what calls leave of that; and what a scan tells behind a Put of a key that is there. Plain facts; no condition beyond what each says.
-/
namespace Go.Proofs.YtlcbmobdokicaaaGreat
open Go.RowKit
set_option maxRecDepth 100000
set_option linter.unusedVariables false

theorem mem_oneM {L : TL} {p : Txt × Option (List Int)} {q : Txt × List Int} (h : q ∈ VS.one L p) : q ∈ L ∨ q.1 = p.1 := by
  unfold VS.one at h
  split at h
  · rcases mem_setT h with rfl | h
    · exact Or.inr rfl
    · exact Or.inl h
  · exact Or.inl (List.mem_filter.1 h).1
theorem fold_keysM : ∀ (C : List (Txt × Option (List Int))) (L : TL), (∀ p ∈ L, p.1.length ≤ 60) → (∀ p ∈ C, p.1.length ≤ 60) → ∀ q ∈ C.foldl VS.one L, q.1.length ≤ 60
  | [], L, h, g => h
  | p :: C, L, h, g => by
    rw [List.foldl_cons]
    refine fold_keysM C _ (fun q hq => ?_) fun q hq => g q (List.mem_cons_of_mem _ hq)
    rcases mem_oneM hq with hq | e
    · exact h q hq
    · rw [e]; exact g p List.mem_cons_self
/-- A view with at most n keys, all of them short. -/
structure ManyS (S : VS) (n : Nat) : Prop where
  ok : S.Ok
  len : S.W.length + S.C.length ≤ n
  wk : ∀ p ∈ S.W, p.1.length ≤ 60
  ck : ∀ p ∈ S.C, p.1.length ≤ 60
theorem ManyS.start : ManyS ⟨[], []⟩ 0 := ⟨⟨List.Pairwise.nil, List.Pairwise.nil⟩, Nat.le_refl _, (fun p (h : p ∈ ([] : TL)) => absurd h List.not_mem_nil), fun p (h : p ∈ ([] : List (Txt × Option (List Int)))) => absurd h List.not_mem_nil⟩
theorem ManyS.more {S : VS} {n k : Nat} (h : ManyS S n) (hk : n ≤ k) : ManyS S k := ⟨h.ok, Nat.le_trans h.len hk, h.wk, h.ck⟩
theorem ManyS.put {S : VS} {n : Nat} (h : ManyS S n) {x : Txt} (hx : x.length ≤ 60) (v : List Int) : ManyS (S.put x v) (n + 1) :=
  ⟨h.ok.put x v, by
    have h1 := h.len
    have h2 : (setT S.C x (some v)).length ≤ S.C.length + 1 := setT_len _ _ _
    show S.W.length + (setT S.C x (some v)).length ≤ n + 1
    omega, h.wk, fun p hp => by
    rcases mem_setT hp with rfl | hp
    · exact hx
    · exact h.ck p hp⟩
theorem ManyS.commit {S : VS} {n : Nat} (h : ManyS S n) : ManyS S.commit n := by
  refine ⟨h.ok.commit, ?_, ?_, fun p (hp : p ∈ ([] : List (Txt × Option (List Int)))) => absurd hp List.not_mem_nil⟩
  · show S.commit.W.length + 0 ≤ n
    rw [h.ok.commitW]
    exact Nat.le_trans (fold_len _ _) h.len
  · rw [h.ok.commitW]
    exact fold_keysM _ _ h.wk h.ck
theorem ManyS.abort {S : VS} {n : Nat} (h : ManyS S n) : ManyS S.abort n :=
  ⟨h.ok.abort, Nat.le_trans (Nat.add_le_add_left (Nat.zero_le _) _) h.len, h.wk, fun p (hp : p ∈ ([] : List (Txt × Option (List Int)))) => absurd hp List.not_mem_nil⟩
theorem ManyS.scanOk {S : VS} {n : Nat} (h : ManyS S n) (hn : n ≤ 32767) : ScanOk S :=
  ⟨by have := h.len; omega, (fun p hp => Nat.le_trans (h.wk p hp) (by decide)), by have := h.len; omega, fun p hp => Nat.le_trans (h.ck p hp) (by decide)⟩
theorem ManyS.scan {S : VS} {n : Nat} (h : ManyS S n) (x : Txt) : ((S.scan x).map kvOf).length ≤ n := by
  rw [List.length_map]
  exact Nat.le_trans (scan_len S x) h.len

/-- One pair of a list with another value. -/
def setV (x : Txt) (v : List Int) (q : Txt × List Int) : Txt × List Int := if q.1 = x then (q.1, v) else q
theorem setV_key (x : Txt) (v : List Int) (q : Txt × List Int) : (setV x v q).1 = q.1 := by
  unfold setV
  split <;> rfl
theorem setV_look (L : TL) (x : Txt) (v : List Int) (y : Txt) : lookT (L.map (setV x v)) y = if x = y then (lookT L y).map (fun _ => v) else lookT L y := by
  induction L with
  | nil => simp [lookT]
  | cons p r ih =>
    rw [List.map_cons, lookT_cons, lookT_cons, setV_key, ih]
    by_cases h : p.1 = y
    · rw [if_pos h, if_pos h]
      unfold setV
      by_cases e : x = y
      · rw [if_pos e, if_pos (h.trans e.symm)]; rfl
      · rw [if_neg e, if_neg (fun q => e (q.symm.trans h))]
    · rw [if_neg h, if_neg h]
theorem setV_rise {L : TL} (h : RiseT L) (x : Txt) (v : List Int) : RiseT (L.map (setV x v)) := by
  unfold RiseT at *
  rw [List.pairwise_map]
  refine h.imp fun {a b} hab => ?_
  rw [setV_key, setV_key]
  exact hab
theorem scan_put {S : VS} (h : S.Ok) {x : Txt} (v : List Int) (hx : (S.now x).isSome = true) (y : Txt) : (S.put x v).scan y = (S.scan y).map (setV x v) := by
  have e : (S.put x v).nowL = S.nowL.map (setV x v) := RiseT.ext (h.put x v).nowL (setV_rise h.nowL x v) fun z => by
    rw [(h.put x v).look, h.now_put, setV_look, h.look]
    by_cases e : x = z
    · subst e
      rw [if_pos rfl, if_pos rfl]
      obtain ⟨b, hb⟩ := Option.isSome_iff_exists.1 hx
      rw [hb]; rfl
    · rw [if_neg e, if_neg e]
  show (S.put x v).nowL.filter _ = (S.nowL.filter _).map _
  rw [e, List.filter_map]
  congr 1
  refine List.filter_congr fun q _ => ?_
  simp only [Function.comp, setV_key]
end Go.Proofs.YtlcbmobdokicaaaGreat
