/-
  Entries of the journal over plain lists: what making one leaves, and what it does to the sums of balances. No program; no condition beyond what each says.
-/
import Derived.Test.YtilhcchnlbdlhaaGreatTriP
import Derived.Test.YtilhcchnlbdlhaaGreatYrB
namespace Go.Proofs.YtilhcchnlbdlhaaGreat
open Go.RowKit Go.Maps
set_option maxRecDepth 100000
set_option linter.unusedVariables false

/-- What the lines of entry id leave, from the k-th on, and the error. -/
def entLines (y id : Int) : VS → Nat → List Ln → VS × Int
  | S, _, [] => (S, 0)
  | S, k, l :: r => if (amtAddR (seqV ((S.put (tx (keyL 74 [id, (k : Int)])) (packN 8 [l.f, l.o, l.a])).now (bKy y l.f l.o))) l.a).2 = 0 then entLines y id ((S.put (tx (keyL 74 [id, (k : Int)])) (packN 8 [l.f, l.o, l.a])).addB (bKy y l.f l.o) l.a) (k + 1) r else ((S.put (tx (keyL 74 [id, (k : Int)])) (packN 8 [l.f, l.o, l.a])).addB (bKy y l.f l.o) l.a, (amtAddR (seqV ((S.put (tx (keyL 74 [id, (k : Int)])) (packN 8 [l.f, l.o, l.a])).now (bKy y l.f l.o))) l.a).2)
/-- What an entry of just these lines leaves, its ID and the error. -/
def entAdd (S : VS) (y kind of_ : Int) (all : List Ln) : VS × Int × Int :=
  if chkE (stV (S.now (yKey y))) ≠ 0 then (S, 0, chkE (stV (S.now (yKey y))))
  else if (nextE (seqV (S.now (tx (keyL 83 [1]))))).2 ≠ 0 then (S.next 1, 0, (nextE (seqV (S.now (tx (keyL 83 [1]))))).2)
  else if (entLines y (nextE (seqV (S.now (tx (keyL 83 [1]))))).1 (S.next 1) 0 all).2 ≠ 0 then ((entLines y (nextE (seqV (S.now (tx (keyL 83 [1]))))).1 (S.next 1) 0 all).1, 0, (entLines y (nextE (seqV (S.now (tx (keyL 83 [1]))))).1 (S.next 1) 0 all).2)
  else ((entLines y (nextE (seqV (S.now (tx (keyL 83 [1]))))).1 (S.next 1) 0 all).1.put (tx (keyL 69 [(nextE (seqV (S.now (tx (keyL 83 [1]))))).1])) (packN 8 [y, kind, (all.length : Int), of_, 0]), (nextE (seqV (S.now (tx (keyL 83 [1]))))).1, 0)
def entPut (S : VS) (y kind of_ : Int) (l : List Ln) : VS × Int × Int := if l.length < 1 ∨ 200 < l.length then (S, 0, 1) else entAdd S y kind of_ (l ++ balL (fundsOf l))

/-- A view that came of another by few changes, whose store stays. -/
structure Came_ (S S' : VS) (n : Nat) : Prop where
  ok : S'.Ok
  w : S'.W = S.W
  c : S'.C.length ≤ S.C.length + n
  ck : (∀ p ∈ S.C, p.1.length ≤ 60) → ∀ p ∈ S'.C, p.1.length ≤ 60
theorem Came_.refl {S : VS} (h : S.Ok) : Came_ S S 0 := ⟨h, rfl, Nat.le_refl _, fun h => h⟩
theorem Came_.trans {S S1 S2 : VS} {n m : Nat} (h : Came_ S S1 n) (g : Came_ S1 S2 m) : Came_ S S2 (n + m) := ⟨g.ok, g.w.trans h.w, by have := h.c; have := g.c; omega, fun q => g.ck (h.ck q)⟩
theorem Came_.more {S S1 : VS} {n m : Nat} (h : Came_ S S1 n) (hm : n ≤ m) : Came_ S S1 m := ⟨h.ok, h.w, by have := h.c; omega, h.ck⟩
theorem Came_.put {S : VS} (h : S.Ok) {x : Txt} (hx : x.length ≤ 60) (v : List Int) : Came_ S (S.put x v) 1 := ⟨h.put x v, rfl, setT_len _ _ _, fun q p hp => by
  rcases mem_setT hp with rfl | hp
  · exact hx
  · exact q p hp⟩
theorem Came_.del {S : VS} (h : S.Ok) {x : Txt} (hx : x.length ≤ 60) : Came_ S (S.del x) 1 := ⟨h.del x, rfl, setT_len _ _ _, fun q p hp => by
  rcases mem_setT hp with rfl | hp
  · exact hx
  · exact q p hp⟩
theorem Came_.addB {S : VS} (h : S.Ok) {x : Txt} (hx : x.length ≤ 60) (a : Int) : Came_ S (S.addB x a) 1 := by
  unfold VS.addB VS.setB
  split
  · split
    · exact .del h hx
    · exact .put h hx _
  · exact (Came_.refl h).more (Nat.zero_le _)
theorem key_short (t : Int) (l : List Int) : (tx (keyL t l)).length ≤ 60 := by
  rw [tx_length]
  unfold keyL
  rw [tagL_length, List.length_map, List.length_take]
  omega
theorem Came_.next {S : VS} (h : S.Ok) (n : Int) : Came_ S (S.next n) 1 := by
  unfold VS.next
  split
  · exact (Came_.refl h).more (Nat.zero_le _)
  · exact .put h (key_short _ _) _
theorem entLines_came (y id : Int) : ∀ (r : List Ln) (S : VS) (k : Nat), S.Ok → Came_ S (entLines y id S k r).1 (2 * r.length)
  | [], S, k, h => Came_.refl h
  | l :: r, S, k, h => by
    have h1 := Came_.put h (key_short 74 [id, (k : Int)]) (packN 8 [l.f, l.o, l.a])
    have h2 := h1.trans (Came_.addB h1.ok (show (bKy y l.f l.o).length ≤ 60 by rw [bKy_len]; omega) l.a)
    unfold entLines
    split
    · exact (h2.trans (entLines_came y id r _ (k + 1) h2.ok)).more (by rw [List.length_cons]; omega)
    · exact h2.more (by rw [List.length_cons]; omega)
theorem entLines_sum (p : Int → Int → Bool) (y id : Int) : ∀ (r : List Ln) (S : VS) (k : Nat), S.Ok → (entLines y id S k r).2 = 0 → balW p y (entLines y id S k r).1.nowL = balW p y S.nowL + sumIf (fun f o => p (held4 f) (held4 o)) r
  | [], S, k, h, _ => by rw [sumIf_nil, Int.add_zero]; rfl
  | l :: r, S, k, h, h0 => by
    have h1 := Came_.put h (key_short 74 [id, (k : Int)]) (packN 8 [l.f, l.o, l.a])
    have h2 := Came_.addB h1.ok (show (bKy y l.f l.o).length ≤ 60 by rw [bKy_len]; omega) l.a
    unfold entLines at h0 ⊢
    split at h0
    · rename_i hz
      rw [if_pos hz, entLines_sum p y id r _ (k + 1) h2.ok h0, balW_addB h1.ok p y _ _ _ hz, balW_other h p y (by omega) (by omega), sumIf_cons]
      omega
    · rename_i hz
      exact absurd h0 hz
theorem entAdd_came {S : VS} (h : S.Ok) (y kind of_ : Int) (all : List Ln) : Came_ S (entAdd S y kind of_ all).1 (2 * all.length + 2) := by
  have h1 := Came_.next h 1
  have h2 := h1.trans (entLines_came y (nextE (seqV (S.now (tx (keyL 83 [1]))))).1 all _ 0 h1.ok)
  unfold entAdd
  split
  · exact (Came_.refl h).more (by omega)
  · split
    · exact h1.more (by omega)
    · split
      · exact h2.more (by omega)
      · exact (h2.trans (Came_.put h2.ok (key_short _ _) _)).more (by omega)
theorem entAdd_sum {S : VS} (h : S.Ok) (p : Int → Int → Bool) (y kind of_ : Int) (all : List Ln) (h0 : (entAdd S y kind of_ all).2.2 = 0) : balW p y (entAdd S y kind of_ all).1.nowL = balW p y S.nowL + sumIf (fun f o => p (held4 f) (held4 o)) all := by
  have h1 := Came_.next h 1
  have h2 := entLines_came y (nextE (seqV (S.now (tx (keyL 83 [1]))))).1 all _ 0 h1.ok
  have h3 := entLines_sum p y (nextE (seqV (S.now (tx (keyL 83 [1]))))).1 all (S.next 1) 0 h1.ok
  have h4 : balW p y (S.next 1).nowL = balW p y S.nowL := by
    unfold VS.next
    split
    · rfl
    · exact balW_other h p y (by omega) (by omega) _ _
  unfold entAdd at h0 ⊢
  split at h0
  · rename_i hz; exact absurd h0 hz
  · rename_i hz
    rw [if_neg hz]
    split at h0
    · rename_i hz2; exact absurd h0 hz2
    · rename_i hz2
      rw [if_neg hz2]
      split at h0
      · rename_i hz3; exact absurd h0 hz3
      · rename_i hz3
        rw [if_neg hz3]
        rw [balW_other h2.ok p y (by omega) (by omega), h3 (Classical.not_not.1 hz3), h4]
/-- What stands in a year's books, as P27.2 has it: each fund has nothing, nor have all accounts by which funds owe one another. -/
def BooksOk (S : VS) (y : Int) : Prop := (∀ F, balW (fun f _ => f == F) y S.nowL % 18446744073709551616 = 0) ∧ balW (fun _ o => dueB o) y S.nowL % 18446744073709551616 = 0
theorem entPut_books {S : VS} (h : S.Ok) {y kind of_ : Int} {l : List Ln} (hb : BooksOk S y) (hl : ∀ x ∈ l, LnOk x) (hz : sumAll l % 18446744073709551616 = 0) (hd : ∀ x ∈ l, x.o ≠ 1900 ∧ x.o ≠ 2900) (h0 : (entPut S y kind of_ l).2.2 = 0) : BooksOk (entPut S y kind of_ l).1 y := by
  unfold entPut at h0 ⊢
  split at h0
  · cases h0
  · rename_i hlen
    rw [if_neg hlen]
    refine ⟨fun F => ?_, ?_⟩
    · rw [entAdd_sum h _ _ _ _ _ h0]
      have h1 := hb.1 F
      have h2 := sum_funds (fun f => held4 f == F) _ (l ++ balL (fundsOf l)) (Nat.le_refl _) (sumAt_all l hl)
      omega
    · rw [entAdd_sum h _ _ _ _ _ h0]
      have h1 := hb.2
      have h2 := sum_due hz (fun x hx => held_due (hd x hx).1 (hd x hx).2)
      omega
theorem BooksOk.level {S : VS} {y : Int} (hb : BooksOk S y) (h : S.Ok) (hy : 0 ≤ y ∧ y < 4294967296) : ∀ s ∈ sumsF (linesK ((S.scan (tx (keyL 66 [y]))).map kvOf)), s.d = s.c := by
  refine sums_level (lines_rise h hy) fun F => ?_
  rw [sumAt_if, balW_scan]
  exact hb.1 F
/-- What is due from funds, and to them. -/
def dueFrom (L : List Ln) : Int := IntKind.i64.wrap (sumIf (fun _ o => o == 1900) L)
def dueTo (L : List Ln) : Int := IntKind.i64.wrap (-(sumIf (fun _ o => o == 2900) L))
theorem sumIf_or : ∀ (L : List Ln), sumIf (fun _ o => dueB o) L = sumIf (fun _ o => o == 1900) L + sumIf (fun _ o => o == 2900) L
  | [] => rfl
  | x :: r => by
    have ih := sumIf_or r
    rw [sumIf_cons, sumIf_cons, sumIf_cons, ih]
    unfold dueB
    by_cases e : x.o = 1900
    · rw [e]; simp; omega
    · by_cases e2 : x.o = 2900
      · rw [e2]; simp; omega
      · simp [e, e2]
theorem BooksOk.due {S : VS} {y : Int} (hb : BooksOk S y) : dueFrom (linesK ((S.scan (tx (keyL 66 [y]))).map kvOf)) = dueTo (linesK ((S.scan (tx (keyL 66 [y]))).map kvOf)) := by
  have h1 := hb.2
  rw [← balW_scan, sumIf_or] at h1
  unfold dueFrom dueTo
  exact wrap_same (by omega)
theorem BooksOk.commit {S : VS} {y : Int} (hb : BooksOk S y) (h : S.Ok) : BooksOk S.commit y := by
  have e : S.commit.nowL = S.nowL := h.commitW
  unfold BooksOk
  rw [e]
  exact hb
theorem BooksOk.start (y : Int) : BooksOk ⟨[], []⟩ y := ⟨fun F => rfl, rfl⟩
theorem BooksOk.open_ {S : VS} {y : Int} (hb : BooksOk S y) (h : S.Ok) (n : Int) : BooksOk (S.open_ n) y := by
  unfold BooksOk VS.open_
  split
  · have e : ∀ p, balW p y (S.put (yKey n) (packN 8 [1])).nowL = balW p y S.nowL := fun p => balW_other h p y (by omega) (by omega) _ _
    rw [e]
    exact ⟨fun F => by rw [e]; exact hb.1 F, hb.2⟩
  · exact hb
end Go.Proofs.YtilhcchnlbdlhaaGreat
