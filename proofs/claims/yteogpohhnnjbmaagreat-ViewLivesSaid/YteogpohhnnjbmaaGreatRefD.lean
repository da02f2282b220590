/-
  What the program's view holds and what the document's holds, as plain lists: both tell the same changes. No condition.
-/
import Derived.Test.YteogpohhnnjbmaaGreatRefC
namespace Go.Proofs.YteogpohhnnjbmaaGreat
set_option linter.unusedVariables false

section
variable {β β' γ : Type}
theorem fm_congr {α δ : Type} {f g : α → Option δ} : ∀ {L : List α}, (∀ x ∈ L, f x = g x) → L.filterMap f = L.filterMap g
  | [], _ => rfl
  | x :: L, h => by
    rw [List.filterMap_cons, List.filterMap_cons, h x List.mem_cons_self, fm_congr fun y hy => h y (List.mem_cons_of_mem _ hy)]
/-- What g says of a list's keys. -/
def keysOf (g : Txt → Option γ) (L : List (Txt × β)) : List (Txt × γ) := L.filterMap fun p => (g p.1).map fun v => (p.1, v)
theorem keysOf_mem {g : Txt → Option γ} {L : List (Txt × β)} {q : Txt × γ} : q ∈ keysOf g L ↔ (∃ p ∈ L, p.1 = q.1) ∧ g q.1 = some q.2 := by
  unfold keysOf
  rw [List.mem_filterMap]
  constructor
  · rintro ⟨p, hp, h⟩
    obtain ⟨v, hv, rfl⟩ := Option.map_eq_some_iff.1 h
    exact ⟨⟨p, hp, rfl⟩, hv⟩
  · rintro ⟨⟨p, hp, e⟩, h⟩
    exact ⟨p, hp, by rw [e, h]; rfl⟩
theorem keysOf_rise {g : Txt → Option γ} {L : List (Txt × β)} (h : RiseT L) : RiseT (keysOf g L) := by
  unfold keysOf RiseT
  rw [List.pairwise_filterMap]
  refine List.Pairwise.imp ?_ h
  intro p q hpq b hb b' hb'
  obtain ⟨v, _, rfl⟩ := Option.map_eq_some_iff.1 hb
  obtain ⟨v', _, rfl⟩ := Option.map_eq_some_iff.1 hb'
  exact hpq
theorem keysOf_look {g : Txt → Option γ} {L : List (Txt × β)} (h : RiseT L) (y : Txt) : lookT (keysOf g L) y = if (lookT L y).isSome then g y else none := by
  cases hl : lookT L y with
  | none =>
    refine lookT_none.2 fun q hq e => ?_
    obtain ⟨⟨p, hp, e'⟩, _⟩ := keysOf_mem.1 hq
    exact (lookT_none.1 hl) p hp (e'.trans e)
  | some v =>
    have hm := lookT_mem hl
    show _ = g y
    cases hg : g y with
    | none =>
      refine lookT_none.2 fun q hq e => ?_
      have := (keysOf_mem.1 hq).2
      rw [e, hg] at this
      cases this
    | some u => exact (keysOf_rise h).look (keysOf_mem.2 ⟨⟨_, hm, rfl⟩, hg⟩)
theorem keysOf_same {g : Txt → Option γ} {L : List (Txt × β)} {M : List (Txt × β')} (hL : RiseT L) (hM : RiseT M) (h1 : ∀ y, (g y).isSome = true → (lookT L y).isSome = true) (h2 : ∀ y, (g y).isSome = true → (lookT M y).isSome = true) : keysOf g L = keysOf g M := by
  refine RiseT.ext (keysOf_rise hL) (keysOf_rise hM) fun y => ?_
  rw [keysOf_look hL, keysOf_look hM]
  cases hg : g y with
  | none => simp
  | some u => rw [if_pos (h1 y (by rw [hg]; rfl)), if_pos (h2 y (by rw [hg]; rfl))]
end

/-- The plain view's lists beside what the program's view holds. -/
structure Link (S : VS) (a b d : TL) : Prop where
  ok : S.Ok
  was : a = S.W
  rb : RiseT b
  now : ∀ y, lookT b y = S.now y
  rd : RiseT d
  diff : ∀ y, S.now y ≠ lookT S.W y → (lookT d y).isSome = true
section
variable {S : VS} {a b d : TL}
def putG (S : VS) (y : Txt) : Option (List Int) := match S.now y with
  | some v => if lookT S.W y = some v then none else some v
  | none => none
def delG (S : VS) (y : Txt) : Option Unit := match S.now y with
  | some v => none
  | none => if (lookT S.W y).isSome then some () else none
theorem putG_diff {y : Txt} (h : (putG S y).isSome = true) : S.now y ≠ lookT S.W y := by
  intro e
  unfold putG at h
  rw [e] at h
  cases hw : lookT S.W y with
  | none => rw [hw] at h; cases h
  | some v => rw [hw] at h; simp at h
theorem delG_diff {y : Txt} (h : (delG S y).isSome = true) : S.now y ≠ lookT S.W y := by
  intro e
  unfold delG at h
  rw [e] at h
  cases hw : lookT S.W y with
  | none => rw [hw] at h; simp at h
  | some v => rw [hw] at h; cases h
theorem diff_C {y : Txt} (h : S.now y ≠ lookT S.W y) : (lookT S.C y).isSome = true := by
  unfold VS.now at h
  cases hc : lookT S.C y with
  | none => rw [hc] at h; exact absurd rfl h
  | some c => rfl
theorem now_C (h : S.Ok) {p : Txt × Option (List Int)} (hp : p ∈ S.C) : S.now p.1 = p.2 := by
  unfold VS.now
  rw [h.c.look (x := p.1) (v := p.2) hp]
theorem puts_G (h : S.Ok) : S.puts = keysOf (putG S) S.C := by
  unfold VS.puts keysOf
  refine fm_congr fun p hp => ?_
  unfold VS.putsF putG
  rw [now_C h hp]
  cases p.2 with
  | none => rfl
  | some v =>
    show (if lookT S.W p.1 = some v then none else some (p.1, v)) = Option.map _ (if lookT S.W p.1 = some v then none else some v)
    split <;> rfl
theorem dels_G (h : S.Ok) : S.dels = (keysOf (delG S) S.C).map fun q => q.1 := by
  unfold VS.dels keysOf
  rw [List.map_filterMap]
  refine fm_congr fun p hp => ?_
  unfold VS.delsF delG
  rw [now_C h hp]
  cases p.2 with
  | some v => rfl
  | none =>
    show (if (lookT S.W p.1).isSome = true then some p.1 else none) = Option.map _ (Option.map _ (if (lookT S.W p.1).isSome = true then some () else none))
    split <;> rfl
theorem Link.puts (h : Link S a b d) : d.filterMap (refPutF a b) = S.puts := by
  rw [puts_G h.ok, ← keysOf_same (g := putG S) h.rd h.ok.c (fun y hy => h.diff y (putG_diff hy)) (fun y hy => diff_C (putG_diff hy))]
  unfold keysOf
  refine fm_congr fun p hp => ?_
  unfold refPutF putG
  rw [h.now, h.was]
  cases S.now p.1 with
  | none => rfl
  | some v =>
    show (if lookT S.W p.1 = some v then none else some (p.1, v)) = Option.map _ (if lookT S.W p.1 = some v then none else some v)
    split <;> rfl
theorem Link.dels (h : Link S a b d) : d.filterMap (refDelF a b) = S.dels := by
  rw [dels_G h.ok, ← keysOf_same (g := delG S) h.rd h.ok.c (fun y hy => h.diff y (delG_diff hy)) (fun y hy => diff_C (delG_diff hy))]
  unfold keysOf
  rw [List.map_filterMap]
  refine fm_congr fun p hp => ?_
  unfold refDelF delG
  rw [h.now, h.was]
  cases S.now p.1 with
  | some v => rfl
  | none =>
    show (if (lookT S.W p.1).isSome = true then some p.1 else none) = Option.map _ (Option.map _ (if (lookT S.W p.1).isSome = true then some () else none))
    split <;> rfl
theorem Link.nowL (h : Link S a b d) : b = S.nowL := RiseT.ext h.rb h.ok.nowL fun y => (h.now y).trans (h.ok.look y).symm
theorem Link.start : Link ⟨[], []⟩ [] [] [] := ⟨⟨List.Pairwise.nil, List.Pairwise.nil⟩, rfl, List.Pairwise.nil, fun y => rfl, List.Pairwise.nil, fun y h => absurd rfl h⟩
theorem Link.put (h : Link S a b d) (x : Txt) (v : List Int) : Link (S.put x v) a (setT b x v) (setT d x []) := by
  refine ⟨h.ok.put x v, h.was, h.rb.set x v, fun y => ?_, h.rd.set x [], fun y hy => ?_⟩
  · rw [lookT_setT h.rb, h.ok.now_put, h.now]
  · rw [lookT_setT h.rd]
    by_cases e : x = y
    · rw [if_pos e]; rfl
    · rw [if_neg e]
      rw [h.ok.now_put, if_neg e] at hy
      exact h.diff y hy
theorem Link.del (h : Link S a b d) (x : Txt) : Link (S.del x) a (if (lookT b x).isSome then delT b x else b) (if (lookT b x).isSome then setT d x [] else d) := by
  cases hb : lookT b x with
  | none =>
    have hn : S.now x = none := (h.now x).symm.trans hb
    refine ⟨h.ok.del x, h.was, h.rb, fun y => ?_, h.rd, fun y hy => ?_⟩
    · show lookT b y = _
      rw [h.ok.now_del, h.now]
      by_cases e : x = y
      · rw [if_pos e, ← e, hn]
      · rw [if_neg e]
    · rw [h.ok.now_del] at hy
      by_cases e : x = y
      · rw [if_pos e] at hy
        exact h.diff y (by rw [← e, hn, e]; exact hy)
      · rw [if_neg e] at hy
        exact h.diff y hy
  | some u =>
    refine ⟨h.ok.del x, h.was, h.rb.del x, fun y => ?_, h.rd.set x [], fun y hy => ?_⟩
    · show lookT (delT b x) y = _
      rw [lookT_delT, h.ok.now_del, h.now]
    · show (lookT (setT d x []) y).isSome = true
      rw [lookT_setT h.rd]
      by_cases e : x = y
      · rw [if_pos e]; rfl
      · rw [if_neg e]
        rw [h.ok.now_del, if_neg e] at hy
        exact h.diff y hy
theorem Link.commit (h : Link S a b d) : Link S.commit b b [] := by
  have e : b = S.commit.W := h.nowL.trans h.ok.commitW.symm
  exact ⟨h.ok.commit, e, h.rb, fun y => by rw [e]; rfl, List.Pairwise.nil, fun y hy => absurd rfl hy⟩
theorem Link.abort (h : Link S a b d) : Link S.abort a a [] :=
  ⟨h.ok.abort, h.was, by rw [h.was]; exact h.ok.w, fun y => by rw [h.was]; rfl, List.Pairwise.nil, fun y hy => absurd rfl hy⟩
end

end Go.Proofs.YteogpohhnnjbmaaGreat
