/-
  Balances over plain lists: what adding to one makes of what stands there, and that what was added is taken off by its contrary, the last first. No program; no condition beyond what each says.
-/
import Derived.Test.YtihjlhegcoceoaaGreatSeqP
import Derived.Test.YtihjlhegcoceoaaGreatNumsP
import Derived.Test.YtihjlhegcoceoaaGreatAmtV
namespace Go.Proofs.YtihjlhegcoceoaaGreat
open Go.RowKit Go.Maps
set_option maxRecDepth 100000
set_option linter.unusedVariables false

/-- A balance's key. -/
abbrev bKy (y f o : Int) : Txt := tx (keyL 66 [y, f, o])
theorem bKyLen (y f o : Int) : (keyL 66 [y, f, o]).length = 13 := by unfold keyL; rw [tagL_length]; rfl
theorem bKy_len (y f o : Int) : (bKy y f o).length = 13 := by rw [tx_length, bKyLen]
def FitsI (n : Int) : Prop := -4611686018427387904 ≤ n ∧ n ≤ 4611686018427387904
/-- What setting a balance leaves; what adding to it does. -/
def VS.setB (S : VS) (x : Txt) (n : Int) : VS := if n = 0 then S.del x else S.put x (packN 8 [n])
def VS.addB (S : VS) (x : Txt) (a : Int) : VS := if (amtAddR (seqV (S.now x)) a).2 = 0 then S.setB x (amtAddR (seqV (S.now x)) a).1 else S
/-- What stands behind j calls, from nothing on: numbers that fit, none of them nought. -/
structure BalS (S : VS) (j : Nat) : Prop where
  ok : S.Ok
  w : S.W = []
  c : S.C.length ≤ j
  ck : ∀ p ∈ S.C, p.1.length ≤ 60
  num : ∀ x v, S.now x = some v → ∃ n, n ≠ 0 ∧ FitsI n ∧ v = packN 8 [n]
theorem amtAdd_yes {b a : Int} (h : (amtAddR b a).2 = 0) : FitsI b ∧ FitsI a ∧ FitsI (b + a) ∧ (amtAddR b a).1 = b + a := by
  unfold amtAddR at h ⊢
  split
  · rename_i hh
    simp only [Bool.and_eq_true, amtFits_iff] at hh
    exact ⟨hh.1.1, hh.1.2, hh.2, rfl⟩
  · rename_i hh
    rw [if_neg hh] at h
    exact absurd h (by decide)
theorem amtAdd_fits {b a : Int} (h1 : FitsI b) (h2 : FitsI a) (h3 : FitsI (b + a)) : amtAddR b a = (b + a, 0) := by
  unfold amtAddR
  rw [if_pos]
  simp only [Bool.and_eq_true, amtFits_iff]
  exact ⟨⟨h1, h2⟩, h3⟩
section
variable {S : VS} {j : Nat}
theorem BalS.start : BalS ⟨[], []⟩ 0 := ⟨⟨List.Pairwise.nil, List.Pairwise.nil⟩, rfl, Nat.le_refl _, (fun p (h : p ∈ ([] : List (Txt × Option (List Int)))) => absurd h List.not_mem_nil), fun x v h => by cases h⟩
theorem BalS.more (h : BalS S j) : BalS S (j + 1) := ⟨h.ok, h.w, Nat.le_succ_of_le h.c, h.ck, h.num⟩
theorem BalS.fits (h : BalS S j) (x : Txt) : FitsI (seqV (S.now x)) := by
  cases e : S.now x with
  | none => exact ⟨by decide, by decide⟩
  | some v =>
    obtain ⟨n, _, hf, rfl⟩ := h.num x v e
    rw [seqV_pack ⟨by have := hf.1; omega, by have := hf.2; omega⟩]
    exact hf
theorem BalS.none_ (h : BalS S j) {x : Txt} (h0 : seqV (S.now x) = 0) : S.now x = none := by
  cases e : S.now x with
  | none => rfl
  | some v =>
    obtain ⟨n, hn, hf, rfl⟩ := h.num x v e
    rw [e, seqV_pack ⟨by have := hf.1; omega, by have := hf.2; omega⟩] at h0
    exact absurd h0 hn
theorem BalS.set (h : BalS S j) {x : Txt} (hx : x.length ≤ 60) {n : Int} (hn : FitsI n) : BalS (S.setB x n) (j + 1) ∧ ∀ y, seqV ((S.setB x n).now y) = if y = x then n else seqV (S.now y) := by
  unfold VS.setB
  split
  · rename_i h0
    subst h0
    refine ⟨⟨h.ok.del _, h.w, Nat.le_trans (setT_len _ _ _) (Nat.succ_le_succ h.c), fun p hp => ?_, fun y v hv => ?_⟩, fun y => ?_⟩
    · rcases mem_setT hp with rfl | hp
      · exact hx
      · exact h.ck p hp
    · rw [h.ok.now_del] at hv
      split at hv
      · cases hv
      · exact h.num y v hv
    · rw [h.ok.now_del]
      by_cases e : y = x
      · rw [if_pos e.symm, if_pos e]; rfl
      · rw [if_neg (fun q => e q.symm), if_neg e]
  · rename_i h0
    refine ⟨⟨h.ok.put _ _, h.w, Nat.le_trans (setT_len _ _ _) (Nat.succ_le_succ h.c), fun p hp => ?_, fun y v hv => ?_⟩, fun y => ?_⟩
    · rcases mem_setT hp with rfl | hp
      · exact hx
      · exact h.ck p hp
    · rw [h.ok.now_put] at hv
      split at hv
      · cases hv
        exact ⟨n, h0, hn, rfl⟩
      · exact h.num y v hv
    · rw [h.ok.now_put]
      by_cases e : y = x
      · rw [if_pos e.symm, if_pos e, seqV_pack ⟨by have := hn.1; omega, by have := hn.2; omega⟩]
      · rw [if_neg (fun q => e q.symm), if_neg e]
theorem BalS.add (h : BalS S j) {x : Txt} (hx : x.length ≤ 60) (a : Int) : BalS (S.addB x a) (j + 1) := by
  unfold VS.addB
  split
  · rename_i h0
    obtain ⟨_, _, h3, h4⟩ := amtAdd_yes h0
    rw [h4]
    exact (h.set hx h3).1
  · exact h.more
theorem BalS.added (h : BalS S j) {x : Txt} (hx : x.length ≤ 60) {a : Int} (h0 : (amtAddR (seqV (S.now x)) a).2 = 0) (y : Txt) : seqV ((S.addB x a).now y) = if y = x then seqV (S.now x) + a else seqV (S.now y) := by
  unfold VS.addB
  obtain ⟨_, _, h3, h4⟩ := amtAdd_yes h0
  rw [if_pos h0, h4, (h.set hx h3).2]
end
/-- What was done, the last first, and what stands then. -/
def Chain : List (Txt × Int) → (Txt → Int) → Prop
  | [], V => ∀ x, V x = 0
  | (x, a) :: r, V => FitsI a ∧ FitsI (V x) ∧ ∃ V', Chain r V' ∧ FitsI (V' x) ∧ ∀ y, V y = if y = x then V' x + a else V' y
theorem chain_same : ∀ {l : List (Txt × Int)} {V U : Txt → Int}, Chain l V → (∀ x, U x = V x) → Chain l U
  | [], V, U, h, e => fun x => (e x).trans (h x)
  | (x, a) :: r, V, U, h, e => by
    obtain ⟨h1, h2, V', h3, h4, h5⟩ := h
    exact ⟨h1, by rw [e]; exact h2, V', h3, h4, fun y => (e y).trans (h5 y)⟩
theorem Chain.add {S : VS} {j : Nat} {l : List (Txt × Int)} (hc : Chain l (fun x => seqV (S.now x))) (h : BalS S j) {x : Txt} (hx : x.length ≤ 60) {a : Int} (h0 : (amtAddR (seqV (S.now x)) a).2 = 0) : Chain ((x, a) :: l) (fun y => seqV ((S.addB x a).now y)) := by
  obtain ⟨h1, h2, h3, h4⟩ := amtAdd_yes h0
  refine ⟨h2, ?_, _, hc, h1, fun y => h.added hx h0 y⟩
  show FitsI (seqV ((S.addB x a).now x))
  rw [h.added hx h0, if_pos rfl]
  exact h3
theorem Chain.back {S : VS} {j : Nat} {l : List (Txt × Int)} {x : Txt} {a : Int} (hc : Chain ((x, a) :: l) (fun x => seqV (S.now x))) (h : BalS S j) (hx : x.length ≤ 60) : (amtAddR (seqV (S.now x)) (-a)).2 = 0 ∧ Chain l (fun y => seqV ((S.addB x (-a)).now y)) := by
  obtain ⟨h1, h2, V', h3, h4, h5⟩ := hc
  have e : seqV (S.now x) + -a = V' x := by
    have := h5 x
    rw [if_pos rfl] at this
    have this : seqV (S.now x) = V' x + a := this
    omega
  have h0 : (amtAddR (seqV (S.now x)) (-a)).2 = 0 := by
    rw [amtAdd_fits h2 ⟨by have := h1.2; omega, by have := h1.1; omega⟩ (by rw [e]; exact h4)]
  refine ⟨h0, chain_same h3 fun y => ?_⟩
  show seqV ((S.addB x (-a)).now y) = V' y
  rw [h.added hx h0, e]
  by_cases q : y = x
  · rw [if_pos q, q]
  · rw [if_neg q]
    have := h5 y
    rw [if_neg q] at this
    exact this
theorem Chain.done {S : VS} {j : Nat} (hc : Chain [] (fun x => seqV (S.now x))) (h : BalS S j) (x : Txt) : S.scan x = [] := by
  refine List.eq_nil_iff_forall_not_mem.2 fun p hp => ?_
  have h1 := ((scan_mem h.ok).1 hp).1
  rw [h.none_ (hc p.1)] at h1
  cases h1
theorem BalS.scanOk_w {S : VS} {j : Nat} (h : BalS S j) (hj : j ≤ 32767) : S.W.length ≤ 2147483647 ∧ (∀ p ∈ S.W, p.1.length ≤ 140737488355328) ∧ S.C.length ≤ 32767 ∧ ∀ p ∈ S.C, p.1.length ≤ 140737488355328 :=
  ⟨by rw [h.w]; decide, (fun p hp => by rw [h.w] at hp; cases hp), Nat.le_trans h.c hj, fun p hp => Nat.le_trans (h.ck p hp) (by decide)⟩
end Go.Proofs.YtihjlhegcoceoaaGreat
