/-
  A view over plain lists: what the store has, what was changed since; what Get, Put, Delete, Scan, Changes, Commit and Abort come to. Plain facts; no condition.
-/
import Derived.Test.YtihjlhegcoceoaaGreatTxtP
namespace Go.Proofs.YtihjlhegcoceoaaGreat
set_option linter.unusedVariables false

/-- Pairs, rising by their keys. -/
abbrev TL := List (Txt × List Int)
/-- A view: what its store has, and the changes since (a value, or gone). -/
structure VS where
  W : TL
  C : List (Txt × Option (List Int))
namespace VS
/-- What a key will have. -/
def now (S : VS) (x : Txt) : Option (List Int) := match lookT S.C x with
  | some c => c
  | none => lookT S.W x
def put (S : VS) (x : Txt) (v : List Int) : VS := ⟨S.W, setT S.C x (some v)⟩
def del (S : VS) (x : Txt) : VS := ⟨S.W, setT S.C x none⟩
def abort (S : VS) : VS := ⟨S.W, []⟩
/-- One change, done. -/
def one (L : TL) (p : Txt × Option (List Int)) : TL := match p.2 with
  | some v => setT L p.1 v
  | none => delT L p.1
/-- All pairs as they will be. -/
def nowL (S : VS) : TL := S.C.foldl one S.W
def putsF (W : TL) (p : Txt × Option (List Int)) : Option (Txt × List Int) := match p.2 with
  | some v => if lookT W p.1 = some v then none else some (p.1, v)
  | none => none
def delsF (W : TL) (p : Txt × Option (List Int)) : Option Txt := match p.2 with
  | some v => none
  | none => if (lookT W p.1).isSome then some p.1 else none
def puts (S : VS) : TL := S.C.filterMap (putsF S.W)
def dels (S : VS) : List Txt := S.C.filterMap (delsF S.W)
def written (W : TL) (puts : TL) (dels : List Txt) : TL := puts.foldl (fun L p => setT L p.1 p.2) (dels.foldl delT W)
def commit (S : VS) : VS := ⟨written S.W S.puts S.dels, []⟩
def scan (S : VS) (x : Txt) : TL := S.nowL.filter fun p => x.isPrefixOf p.1
/-- Both lists rise. -/
structure Ok (S : VS) : Prop where
  w : RiseT S.W
  c : RiseT S.C

theorem one_rise {L : TL} (h : RiseT L) (p : Txt × Option (List Int)) : RiseT (one L p) := by
  unfold one
  split
  · exact h.set _ _
  · exact h.del _
theorem one_look {L : TL} (h : RiseT L) (p : Txt × Option (List Int)) (y : Txt) : lookT (one L p) y = if p.1 = y then p.2 else lookT L y := by
  unfold one
  split
  · rename_i v e
    rw [lookT_setT h, e]
  · rename_i e
    rw [lookT_delT, e]
theorem fold_one : ∀ (C : List (Txt × Option (List Int))) (L : TL), RiseT L → RiseT C → RiseT (C.foldl one L) ∧ ∀ y, lookT (C.foldl one L) y = match lookT C y with | some c => c | none => lookT L y
  | [], L, h, _ => ⟨h, fun y => by simp [lookT]⟩
  | p :: C, L, h, hC => by
    have ih := fold_one C (one L p) (one_rise h p) hC.tail
    refine ⟨ih.1, fun y => ?_⟩
    rw [List.foldl_cons, ih.2 y, one_look h]
    rw [lookT_cons]
    by_cases e : p.1 = y
    · have : lookT C y = none := lookT_none.2 fun q hq e' => by
        have := hC.head q hq
        rw [e', e] at this
        exact tlt_irrefl _ this
      rw [this, if_pos e, if_pos e]
    · rw [if_neg e, if_neg e]
theorem Ok.nowL {S : VS} (h : S.Ok) : RiseT S.nowL := (fold_one S.C S.W h.w h.c).1
theorem Ok.look {S : VS} (h : S.Ok) (y : Txt) : lookT S.nowL y = S.now y := (fold_one S.C S.W h.w h.c).2 y
theorem Ok.put {S : VS} (h : S.Ok) (x : Txt) (v : List Int) : (S.put x v).Ok := ⟨h.w, h.c.set _ _⟩
theorem Ok.del {S : VS} (h : S.Ok) (x : Txt) : (S.del x).Ok := ⟨h.w, h.c.set _ _⟩
theorem Ok.abort {S : VS} (h : S.Ok) : S.abort.Ok := ⟨h.w, List.Pairwise.nil⟩
theorem Ok.now_put {S : VS} (h : S.Ok) (x y : Txt) (v : List Int) : (S.put x v).now y = if x = y then some v else S.now y := by
  unfold now
  show (match lookT (setT S.C x (some v)) y with | some c => c | none => lookT S.W y) = _
  rw [lookT_setT h.c]
  by_cases e : x = y
  · rw [if_pos e, if_pos e]
  · rw [if_neg e, if_neg e]
theorem Ok.now_del {S : VS} (h : S.Ok) (x y : Txt) : (S.del x).now y = if x = y then none else S.now y := by
  unfold now
  show (match lookT (setT S.C x none) y with | some c => c | none => lookT S.W y) = _
  rw [lookT_setT h.c]
  by_cases e : x = y
  · rw [if_pos e, if_pos e]
  · rw [if_neg e, if_neg e]
theorem now_abort (S : VS) (y : Txt) : S.abort.now y = lookT S.W y := rfl
theorem sets_look : ∀ (P : TL) (L : TL), RiseT L → RiseT P → RiseT (P.foldl (fun L p => setT L p.1 p.2) L) ∧ ∀ y, lookT (P.foldl (fun L p => setT L p.1 p.2) L) y = match lookT P y with | some v => some v | none => lookT L y
  | [], L, h, _ => ⟨h, fun y => by simp [lookT]⟩
  | p :: C, L, h, hC => by
    have ih := sets_look C (setT L p.1 p.2) (h.set _ _) hC.tail
    refine ⟨ih.1, fun y => ?_⟩
    rw [List.foldl_cons, ih.2 y, lookT_setT h]
    rw [lookT_cons]
    by_cases e : p.1 = y
    · have : lookT C y = none := lookT_none.2 fun q hq e' => by
        have := hC.head q hq
        rw [e', e] at this
        exact tlt_irrefl _ this
      rw [this, if_pos e, if_pos e]
    · rw [if_neg e, if_neg e]
theorem dels_look : ∀ (P : List Txt) (L : TL), RiseT L → RiseT (P.foldl delT L) ∧ ∀ y, lookT (P.foldl delT L) y = if y ∈ P then none else lookT L y
  | [], L, h => ⟨h, fun y => by simp⟩
  | p :: C, L, h => by
    have ih := dels_look C (delT L p) (h.del _)
    refine ⟨ih.1, fun y => ?_⟩
    rw [List.foldl_cons, ih.2 y, lookT_delT]
    by_cases e : p = y
    · subst e
      simp
    · by_cases e2 : y ∈ C
      · rw [if_pos e2, if_pos (List.mem_cons_of_mem _ e2)]
      · rw [if_neg e2, if_neg e, if_neg (fun h => by
          rcases List.mem_cons.1 h with a | a
          · exact e a.symm
          · exact e2 a)]
theorem rise_fm {f : Txt × Option (List Int) → Option (Txt × List Int)} (hf : ∀ p q, f p = some q → q.1 = p.1) : ∀ {C : List (Txt × Option (List Int))}, RiseT C → RiseT (C.filterMap f) := by
  intro C hC
  refine List.Pairwise.filterMap f ?_ hC
  intro a a' h b hb b' hb'
  rw [hf a b hb, hf a' b' hb']
  exact h
theorem putsF_key {W : TL} {p : Txt × Option (List Int)} {q : Txt × List Int} (h : putsF W p = some q) : q.1 = p.1 ∧ p.2 = some q.2 ∧ lookT W p.1 ≠ p.2 := by
  unfold putsF at h
  split at h
  · rename_i v e
    split at h
    · cases h
    · rename_i e1
      cases h
      exact ⟨rfl, e, by rw [e]; exact e1⟩
  · cases h
theorem Ok.puts {S : VS} (h : S.Ok) : RiseT S.puts := rise_fm (fun p q e => (putsF_key e).1) h.c
theorem Ok.puts_look {S : VS} (h : S.Ok) (y : Txt) : lookT S.puts y = match lookT S.C y with | some (some v) => if lookT S.W y = some v then none else some v | _ => none := by
  cases hc : lookT S.C y with
  | none =>
    show lookT S.puts y = none
    rw [lookT_none]
    intro q hq e
    obtain ⟨p, hp, hpq⟩ := List.mem_filterMap.1 hq
    have := lookT_none.1 hc p hp
    exact this ((putsF_key hpq).1.symm.trans e)
  | some c =>
    have hm := lookT_mem hc
    cases c with
    | none =>
      show lookT S.puts y = none
      rw [lookT_none]
      intro q hq e
      obtain ⟨p, hp, hpq⟩ := List.mem_filterMap.1 hq
      obtain ⟨k1, k2, _⟩ := putsF_key hpq
      have h1 := h.c.look (show (p.1, p.2) ∈ S.C from hp)
      rw [← k1, e, hc, k2] at h1
      cases h1
    | some v =>
      show lookT S.puts y = if lookT S.W y = some v then none else some v
      by_cases e : lookT S.W y = some v
      · rw [if_pos e, lookT_none]
        intro q hq e'
        obtain ⟨p, hp, hpq⟩ := List.mem_filterMap.1 hq
        obtain ⟨k1, k2, k3⟩ := putsF_key hpq
        have h1 := h.c.look (show (p.1, p.2) ∈ S.C from hp)
        have k4 : p.1 = y := k1.symm.trans e'
        rw [k4, hc] at h1
        have h2 : some v = p.2 := Option.some.inj h1
        rw [k4, e] at k3
        exact k3 h2
      · rw [if_neg e]
        refine h.puts.look (List.mem_filterMap.2 ⟨(y, some v), hm, ?_⟩)
        show (if lookT S.W y = some v then none else some (y, v)) = some (y, v)
        rw [if_neg e]
theorem Ok.mem_dels {S : VS} (h : S.Ok) (y : Txt) : y ∈ S.dels ↔ lookT S.C y = some none ∧ (lookT S.W y).isSome = true := by
  unfold dels
  rw [List.mem_filterMap]
  constructor
  · rintro ⟨p, hp, hpq⟩
    unfold delsF at hpq
    split at hpq
    · cases hpq
    · rename_i e
      split at hpq
      · rename_i e1
        cases hpq
        refine ⟨?_, e1⟩
        have := h.c.look (show (p.1, p.2) ∈ S.C from hp)
        rw [this, e]
      · cases hpq
  · rintro ⟨h1, h2⟩
    refine ⟨(y, none), lookT_mem h1, ?_⟩
    show (if (lookT S.W y).isSome = true then some y else none) = some y
    rw [if_pos h2]
theorem Ok.written {S : VS} (h : S.Ok) : RiseT (VS.written S.W S.puts S.dels) ∧ ∀ y, lookT (VS.written S.W S.puts S.dels) y = S.now y := by
  have h1 := dels_look S.dels S.W h.w
  have h2 := sets_look S.puts _ h1.1 h.puts
  refine ⟨h2.1, fun y => ?_⟩
  unfold VS.written
  rw [h2.2 y, h.puts_look y, h1.2 y]
  unfold now
  cases hc : lookT S.C y with
  | none =>
    show (if y ∈ S.dels then none else lookT S.W y) = lookT S.W y
    rw [if_neg (fun hm => by
      have := ((h.mem_dels y).1 hm).1
      rw [hc] at this
      cases this)]
  | some c =>
    cases c with
    | none =>
      show (if y ∈ S.dels then none else lookT S.W y) = none
      by_cases hm : y ∈ S.dels
      · rw [if_pos hm]
      · rw [if_neg hm]
        cases hw : lookT S.W y with
        | none => rfl
        | some u => exact absurd ((h.mem_dels y).2 ⟨hc, by rw [hw]; rfl⟩) hm
    | some v =>
      show (match (if lookT S.W y = some v then none else some v) with | some v => some v | none => if y ∈ S.dels then none else lookT S.W y) = some v
      by_cases e : lookT S.W y = some v
      · rw [if_pos e]
        show (if y ∈ S.dels then none else lookT S.W y) = some v
        rw [if_neg (fun hm => by
          have := ((h.mem_dels y).1 hm).1
          rw [hc] at this
          cases this), e]
      · rw [if_neg e]
theorem Ok.commit {S : VS} (h : S.Ok) : S.commit.Ok := ⟨h.written.1, List.Pairwise.nil⟩
theorem Ok.commitW {S : VS} (h : S.Ok) : S.commit.W = S.nowL := RiseT.ext h.written.1 h.nowL fun y => (h.written.2 y).trans (h.look y).symm
end VS

end Go.Proofs.YtihjlhegcoceoaaGreat
