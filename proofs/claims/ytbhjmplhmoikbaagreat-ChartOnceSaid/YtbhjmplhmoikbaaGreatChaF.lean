/-
  Funds that are made one behind the other, over plain lists: each is there once, never more than may be. Plain facts; no condition.
-/
import Derived.Test.YtbhjmplhmoikbaaGreatChaE
namespace Go.Proofs.YtbhjmplhmoikbaaGreat
open Go.RowKit Go.Maps
set_option linter.unusedVariables false

theorem nodup_subI : ∀ (l m : List Int), l.Nodup → (∀ x ∈ l, x ∈ m) → l.length ≤ m.length
  | [], m, _, _ => Nat.zero_le _
  | x :: r, m, hn, h => by
    have hn' := List.nodup_cons.1 hn
    have h1 := nodup_subI r (m.erase x) hn'.2 (fun y hy => (List.mem_erase_of_ne (fun e => hn'.1 (by rw [← e]; exact hy))).2 (h y (List.mem_cons_of_mem _ hy)))
    have h2 := List.length_erase_of_mem (h x (List.mem_cons_self ..))
    have h3 : 0 < m.length := List.length_pos_of_mem (h x (List.mem_cons_self ..))
    rw [List.length_cons]
    omega
theorem rise_nodup {l : List Int} (h : l.Pairwise (· < ·)) : l.Nodup := h.imp fun {a b} hab e => by rw [e] at hab; omega
theorem keyOne_injT {t n m : Int} (ht : 0 ≤ t ∧ t < 256) (hn : 0 ≤ n ∧ n < 4294967296) (hm : 0 ≤ m ∧ m < 4294967296) (h : tx (keyL t [n]) = tx (keyL t [m])) : n = m := by
  have e := tx_inj (key_bytes ht) (key_bytes ht) h
  have h1 := oneOf_key t n hn
  rw [e, oneOf_key t m hm] at h1
  exact (Option.some.inj h1).symm
theorem nums_put {S : VS} (h : S.Ok) {t f : Int} (ht : 0 ≤ t ∧ t < 256) (hf : 0 ≤ f ∧ f < 4294967296) (v : List Int) (x : Int) :
    x ∈ numsK (((S.put (tx (keyL t [f])) v).scan (tx [t])).map kvOf) ↔ x = f ∨ x ∈ numsK ((S.scan (tx [t])).map kvOf) := by
  rw [nums_mem (h.put _ _) ht, nums_mem h ht, h.now_put]
  constructor
  · rintro ⟨hx, hs⟩
    by_cases e : tx (keyL t [f]) = tx (keyL t [x])
    · exact .inl (keyOne_injT ht hf hx e).symm
    · rw [if_neg e] at hs
      exact .inr ⟨hx, hs⟩
  · rintro (rfl | ⟨hx, hs⟩)
    · exact ⟨hf, by rw [if_pos rfl]; rfl⟩
    · refine ⟨hx, ?_⟩
      split
      · rfl
      · exact hs
theorem nums_put_len {S : VS} (h : S.Ok) {t f : Int} (ht : 0 ≤ t ∧ t < 256) (hf : 0 ≤ f ∧ f < 4294967296) (v : List Int) :
    (numsK (((S.put (tx (keyL t [f])) v).scan (tx [t])).map kvOf)).length ≤ (numsK ((S.scan (tx [t])).map kvOf)).length + 1 :=
  nodup_subI _ (f :: _) (rise_nodup (nums_rise (h.put _ _) ht)) fun x hx => by
    rcases (nums_put h ht hf v x).1 hx with rfl | hx
    · exact List.mem_cons_self
    · exact List.mem_cons_of_mem _ hx
/-- Behind k rounds. -/
structure OnceS (S : VS) (k : Nat) : Prop where
  ok : S.Ok
  w : S.W = []
  c : S.C.length ≤ k
  ck : ∀ p ∈ S.C, p.1.length ≤ 60
  few : (fundsL S).length ≤ 40
/-- What is to be answered: was it there, and how many there were. -/
def onceE (b : Bool) (n : Nat) : Int := if b = true then 8 else if 40 ≤ n then 11 else 0
section
variable {S : VS} {k : Nat}
theorem OnceS.scanOk (h : OnceS S k) (hk : k ≤ 32767) : ScanOk S :=
  ⟨by rw [h.w]; decide, (fun p hp => by rw [h.w] at hp; cases hp), Nat.le_trans h.c hk, fun p hp => Nat.le_trans (h.ck p hp) (by decide)⟩
theorem OnceS.start : OnceS ⟨[], []⟩ 0 := ⟨⟨List.Pairwise.nil, List.Pairwise.nil⟩, rfl, Nat.le_refl _, (fun p (h : p ∈ ([] : List (Txt × Option (List Int)))) => absurd h List.not_mem_nil), by decide⟩
theorem OnceS.step (h : OnceS S k) {f : Int} (hf : 100 ≤ f ∧ f ≤ 999) {x : Txt} (hx : nameB x = true) :
    OnceS (newFund S f x) (k + 1) ∧ newFundE S f x = onceE (decide (f ∈ fundsL S)) (fundsL S).length := by
  have hb : (fundB f && nameB x) = true := by rw [hx, (fund_iff f).2 hf]; rfl
  have hm : f ∈ fundsL S ↔ (S.now (tx (keyL 70 [f]))).isSome = true := by
    unfold fundsL
    rw [nums_mem h.ok (by omega)]
    exact ⟨fun q => q.2, fun q => ⟨by omega, q⟩⟩
  have hd : decide (f ∈ fundsL S) = (S.now (tx (keyL 70 [f]))).isSome := by
    cases hs : (S.now (tx (keyL 70 [f]))).isSome with
    | true => exact decide_eq_true (hm.2 hs)
    | false => exact decide_eq_false fun q => by have := hm.1 q; rw [hs] at this; cases this
  have he : newFundE S f x = onceE (decide (f ∈ fundsL S)) (fundsL S).length := by
    unfold newFundE onceE
    rw [if_pos hb, hd]
  refine ⟨?_, he⟩
  unfold newFund
  rw [he]
  cases hq : decide (f ∈ fundsL S) with
  | true =>
    rw [if_neg (by show ¬ (8 : Int) = 0; decide)]
    exact ⟨h.ok, h.w, Nat.le_succ_of_le h.c, h.ck, h.few⟩
  | false =>
    by_cases q2 : 40 ≤ (fundsL S).length
    · rw [show onceE false (fundsL S).length = 11 by unfold onceE; rw [if_neg (by decide), if_pos q2], if_neg (by decide)]
      exact ⟨h.ok, h.w, Nat.le_succ_of_le h.c, h.ck, h.few⟩
    · rw [show onceE false (fundsL S).length = 0 by unfold onceE; rw [if_neg (by decide), if_neg q2], if_pos rfl]
      refine ⟨h.ok.put _ _, h.w, Nat.le_trans (setT_len _ _ _) (Nat.succ_le_succ h.c), fun p hp => ?_, ?_⟩
      · rcases mem_setT hp with rfl | hp
        · show (tx (keyL 70 [f])).length ≤ 60
          rw [tx_length, keyLen1]; omega
        · exact h.ck p hp
      · have := nums_put_len h.ok (t := 70) (f := f) (by omega) (by omega) (by_ x)
        unfold fundsL at q2 ⊢
        omega
end
end Go.Proofs.YtbhjmplhmoikbaaGreat
