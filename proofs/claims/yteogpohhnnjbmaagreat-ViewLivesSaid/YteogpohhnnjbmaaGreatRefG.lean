/-
  How large both views' lists may be behind j calls; the document's changes told as the program's. No condition.
-/
import Derived.Test.YteogpohhnnjbmaaGreatRefF
import Derived.Test.YteogpohhnnjbmaaGreatDos14
namespace Go.Proofs.YteogpohhnnjbmaaGreat
open Go.RowKit Go.Maps
set_option linter.unusedVariables false

/-- Behind j calls, each with a key of at most 60 bytes. -/
structure Small (S : VS) (a b d : TL) (j : Nat) : Prop where
  c : S.C.length ≤ j
  a : a.length ≤ j
  b : b.length ≤ j
  d : d.length ≤ j
  kw : ∀ p ∈ S.W, p.1.length ≤ 60
  kc : ∀ p ∈ S.C, p.1.length ≤ 60
section
variable {S : VS} {a b d : TL} {j : Nat}
theorem Small.start : Small ⟨[], []⟩ [] [] [] 0 := ⟨Nat.le_refl _, Nat.le_refl _, Nat.le_refl _, Nat.le_refl _, fun p (h : p ∈ ([] : TL)) => absurd h List.not_mem_nil, fun p (h : p ∈ ([] : List (Txt × Option (List Int)))) => absurd h List.not_mem_nil⟩
theorem Small.more (h : Small S a b d j) : Small S a b d (j + 1) := ⟨Nat.le_succ_of_le h.c, Nat.le_succ_of_le h.a, Nat.le_succ_of_le h.b, Nat.le_succ_of_le h.d, h.kw, h.kc⟩
theorem Small.put (h : Small S a b d j) {x : Txt} (hx : x.length ≤ 60) (v : List Int) : Small (S.put x v) a (setT b x v) (setT d x []) (j + 1) :=
  ⟨Nat.le_trans (setT_len _ _ _) (Nat.succ_le_succ h.c), Nat.le_succ_of_le h.a, Nat.le_trans (setT_len _ _ _) (Nat.succ_le_succ h.b), Nat.le_trans (setT_len _ _ _) (Nat.succ_le_succ h.d), h.kw, fun p hp => by
    rcases mem_setT hp with rfl | hp
    · exact hx
    · exact h.kc p hp⟩
theorem Small.del (h : Small S a b d j) {x : Txt} (hx : x.length ≤ 60) : Small (S.del x) a (if (lookT b x).isSome then delT b x else b) (if (lookT b x).isSome then setT d x [] else d) (j + 1) := by
  refine ⟨Nat.le_trans (setT_len _ _ _) (Nat.succ_le_succ h.c), Nat.le_succ_of_le h.a, ?_, ?_, h.kw, fun p hp => ?_⟩
  · split
    · exact Nat.le_succ_of_le (Nat.le_trans (delT_len _ _) h.b)
    · exact Nat.le_succ_of_le h.b
  · split
    · exact Nat.le_trans (setT_len _ _ _) (Nat.succ_le_succ h.d)
    · exact Nat.le_succ_of_le h.d
  · rcases mem_setT hp with rfl | hp
    · exact hx
    · exact h.kc p hp
theorem Small.commit (h : Small S a b d j) (hl : Link S a b d) : Small S.commit b b [] (j + 1) := by
  refine ⟨Nat.zero_le _, Nat.le_succ_of_le h.b, Nat.le_succ_of_le h.b, Nat.zero_le _, fun p hp => ?_, fun p hp => by cases hp⟩
  rw [hl.ok.commitW, ← hl.nowL] at hp
  have h1 : lookT b p.1 = some p.2 := hl.rb.look hp
  rw [hl.now] at h1
  unfold VS.now at h1
  cases hc : lookT S.C p.1 with
  | some c => exact h.kc _ (lookT_mem hc)
  | none =>
    rw [hc] at h1
    exact h.kw _ (lookT_mem h1)
theorem Small.abort (h : Small S a b d j) : Small S.abort a a [] (j + 1) := ⟨Nat.zero_le _, Nat.le_succ_of_le h.a, Nat.le_succ_of_le h.a, Nat.zero_le _, h.kw, fun p hp => by cases hp⟩
end

section
variable {w w' : World} {X : Nat → Prop} {v m c x p q r : Nat} {a b d : TL} {S : VS}
theorem bothChanges_any (h : Both w X v m c x p q r S a b d) (ha : a.length ≤ 2147483647) (hb : b.length ≤ 2147483647) (hd : d.length ≤ 2147483647) :
    Calls Tryz.prog 23 #[.pointer (some ⟨x, 0, none⟩)] w fun e w' => ∃ A n k A' n' k', e = .returned (.tuple #[.slice A n k, .slice A' n' k']) ∧ n ≤ k ∧ RPairs w' w'.heap.size A n (S.puts.map kvOf) ∧ n' ≤ k' ∧ RTexts w' w'.heap.size A' n' (S.dels.map by_) ∧ Below w.heap.size w w' := by
  have := refChanges_any h.ref ha hb hd
  rwa [h.link.puts, h.link.dels] at this
end

end Go.Proofs.YteogpohhnnjbmaaGreat
