/-
  The texts LinP, LinA joined. Conditions: those that each part says at its head.
-/
import Derived.Test.YtilhcchnlbdlhaaGreatBase
import Derived.Test.YtilhcchnlbdlhaaGreatIntApp
import Derived.Test.YtilhcchnlbdlhaaGreatEqual
import Derived.Maps.AppendAt
import Derived.Deep.AppendLies
import Derived.Laws.AppendOwnNone

/-
  Lines of entries as plain lists: what the lines of each fund are together (modulo 2^64), rising; lines in another order have the same; with what balances them each fund has nothing. Plain facts; no condition beyond what each says.
-/
namespace Go.Proofs.YtilhcchnlbdlhaaGreat
set_option maxRecDepth 100000
set_option linter.unusedVariables false

/-- A line: fund, object, node, amount. -/
structure Ln where
  f : Int
  o : Int
  n : Int
  a : Int
def B64 (x : Int) : Prop := -9223372036854775808 ≤ x ∧ x ≤ 9223372036854775807
/-- Its numbers are ints. -/
def LnOk (x : Ln) : Prop := B64 x.f ∧ B64 x.o ∧ B64 x.n ∧ B64 x.a
/-- Funds, each with a number. -/
abbrev FL := List (Int × Int)
def addF : FL → Int → Int → FL
  | [], f, a => [(f, a)]
  | p :: r, f, a => if p.1 < f then p :: addF r f a else if p.1 = f then (f, IntKind.i64.wrap (p.2 + a)) :: r else (f, a) :: p :: r
def fundsOf (l : List Ln) : FL := l.foldl (fun out x => addF out x.f x.a) []
def lookF : FL → Int → Option Int
  | [], _ => none
  | p :: r, f => if p.1 = f then some p.2 else lookF r f
def RiseF (L : FL) : Prop := L.Pairwise (fun p q => p.1 < q.1)

theorem wrap_wrap (x : Int) : IntKind.i64.wrap (IntKind.i64.wrap x) = IntKind.i64.wrap x := by simp only [IntKind.wrap_i64]; omega
theorem wrap_same {x y : Int} (h : (x - y) % 18446744073709551616 = 0) : IntKind.i64.wrap x = IntKind.i64.wrap y := by simp only [IntKind.wrap_i64]; omega
theorem wrap_mod (x : Int) : (IntKind.i64.wrap x - x) % 18446744073709551616 = 0 := by simp only [IntKind.wrap_i64]; omega
theorem wrap_in (x : Int) : B64 (IntKind.i64.wrap x) := by unfold B64; simp only [IntKind.wrap_i64]; omega
theorem wrap_id {x : Int} (h : B64 x) : IntKind.i64.wrap x = x := by unfold B64 at h; simp only [IntKind.wrap_i64]; omega

theorem addF_keys : ∀ (L : FL) (f a : Int) (p : Int × Int), p ∈ addF L f a → p.1 = f ∨ ∃ q ∈ L, q.1 = p.1
  | [], f, a, p, h => .inl (by obtain rfl := List.mem_singleton.1 h; rfl)
  | q :: r, f, a, p, h => by
    unfold addF at h
    split at h
    · rcases List.mem_cons.1 h with rfl | h
      · exact .inr ⟨p, List.mem_cons_self .., rfl⟩
      · rcases addF_keys r f a p h with e | ⟨q', hq, e⟩
        · exact .inl e
        · exact .inr ⟨q', List.mem_cons_of_mem _ hq, e⟩
    · split at h
      · rcases List.mem_cons.1 h with rfl | h
        · exact .inl rfl
        · exact .inr ⟨p, List.mem_cons_of_mem _ h, rfl⟩
      · rcases List.mem_cons.1 h with rfl | h
        · exact .inl rfl
        · exact .inr ⟨p, h, rfl⟩
theorem addF_rise : ∀ {L : FL} (f a : Int), RiseF L → RiseF (addF L f a)
  | [], f, a, _ => List.pairwise_singleton _ _
  | q :: r, f, a, h => by
    obtain ⟨h1, h2⟩ := List.pairwise_cons.1 h
    unfold addF
    split
    · rename_i hlt
      refine List.pairwise_cons.2 ⟨fun p hp => ?_, addF_rise f a h2⟩
      rcases addF_keys r f a p hp with e | ⟨q', hq, e⟩
      · rw [e]; exact hlt
      · rw [← e]; exact h1 q' hq
    · split
      · rename_i e
        exact List.pairwise_cons.2 ⟨fun p hp => by rw [← e]; exact h1 p hp, h2⟩
      · rename_i n1 n2
        refine List.pairwise_cons.2 ⟨fun p hp => ?_, h⟩
        rcases List.mem_cons.1 hp with rfl | hp
        · show f < p.1; omega
        · have := h1 p hp; show f < p.1; omega
theorem lookF_lt : ∀ {L : FL} {f : Int}, (∀ p ∈ L, f < p.1) → lookF L f = none
  | [], f, _ => rfl
  | q :: r, f, h => by
    unfold lookF
    have := h q (List.mem_cons_self ..)
    rw [if_neg (by omega)]
    exact lookF_lt fun p hp => h p (List.mem_cons_of_mem _ hp)
theorem addF_look : ∀ {L : FL} (f a g : Int), RiseF L → B64 a → lookF (addF L f a) g = if g = f then some (IntKind.i64.wrap ((lookF L f).getD 0 + a)) else lookF L g
  | [], f, a, g, _, ha => by
    unfold addF lookF
    by_cases e : g = f
    · rw [if_pos e.symm, if_pos e]
      show some a = some (IntKind.i64.wrap (0 + a))
      rw [Int.zero_add, wrap_id ha]
    · rw [if_neg (fun h => e h.symm), if_neg e]; rfl
  | q :: r, f, a, g, h, ha => by
    obtain ⟨h1, h2⟩ := List.pairwise_cons.1 h
    have ih := addF_look (L := r) f a g h2 ha
    unfold addF
    split
    · rename_i hlt
      rw [lookF, ih]
      by_cases e : g = f
      · rw [if_neg (by omega), if_pos e, if_pos e, lookF, if_neg (by omega)]
      · rw [if_neg e, if_neg e, lookF]
    · split
      · rename_i e0
        rw [lookF]
        by_cases e : g = f
        · rw [if_pos e.symm, if_pos e, lookF, if_pos e0]; rfl
        · rw [if_neg (fun h => e h.symm), if_neg e, lookF, if_neg (fun h => e (by omega))]
      · rename_i n1 n2
        rw [lookF]
        by_cases e : g = f
        · rw [if_pos e.symm, if_pos e, lookF, if_neg n2, lookF_lt (fun p hp => by have := h1 p hp; omega)]
          show some a = some (IntKind.i64.wrap (0 + a))
          rw [Int.zero_add, wrap_id ha]
        · rw [if_neg (fun h => e h.symm), if_neg e]
theorem lookF_mem : ∀ {L : FL} {f s : Int}, lookF L f = some s → (f, s) ∈ L
  | [], f, s, h => by cases h
  | q :: r, f, s, h => by
    unfold lookF at h
    split at h
    · rename_i e
      cases h
      rw [← e]
      exact List.mem_cons_self ..
    · exact List.mem_cons_of_mem _ (lookF_mem h)
theorem RiseF.look : ∀ {L : FL} {p : Int × Int}, RiseF L → p ∈ L → lookF L p.1 = some p.2
  | q :: r, p, h, hp => by
    obtain ⟨h1, h2⟩ := List.pairwise_cons.1 h
    unfold lookF
    rcases List.mem_cons.1 hp with rfl | hp
    · rw [if_pos rfl]
    · have := h1 p hp
      rw [if_neg (by omega)]
      exact RiseF.look h2 hp
theorem RiseF.nodup {L : FL} (h : RiseF L) : L.Nodup := List.nodup_iff_pairwise_ne.2 (h.imp fun {a b} h e => by rw [e] at h; omega)
theorem rise_perm : ∀ {L M : FL}, RiseF L → RiseF M → L.Perm M → L = M
  | L, M, h1, h2, hp => hp.eq_of_pairwise (fun a b _ _ h h' => by omega) h1 h2
theorem rise_ext {L M : FL} (h1 : RiseF L) (h2 : RiseF M) (h : ∀ g, lookF L g = lookF M g) : L = M :=
  rise_perm h1 h2 ((List.perm_ext_iff_of_nodup h1.nodup h2.nodup).2 fun p => ⟨fun hp => lookF_mem (by rw [← h, h1.look hp]), fun hp => lookF_mem (by rw [h, h2.look hp])⟩)

theorem fundsOf_snoc (l : List Ln) (x : Ln) : fundsOf (l ++ [x]) = addF (fundsOf l) x.f x.a := by unfold fundsOf; rw [List.foldl_append]; rfl
theorem snoc_ind {P : List Ln → Prop} (h0 : P []) (h1 : ∀ l x, P l → P (l ++ [x])) (l : List Ln) : P l := by
  have : ∀ n (l : List Ln), l.length = n → P l := by
    intro n
    induction n with
    | zero => intro l hl; obtain rfl := List.eq_nil_of_length_eq_zero hl; exact h0
    | succ n ih =>
      intro l hl
      have hne : l ≠ [] := fun e => by rw [e] at hl; cases hl
      rw [← List.dropLast_concat_getLast hne]
      exact h1 _ _ (ih _ (by rw [List.length_dropLast]; omega))
  exact this _ l rfl
theorem fundsOf_rise (l : List Ln) : RiseF (fundsOf l) := snoc_ind (P := fun l => RiseF (fundsOf l)) List.Pairwise.nil (fun l x h => by rw [fundsOf_snoc]; exact addF_rise _ _ h) l
theorem addF_len : ∀ (L : FL) (f a : Int), (addF L f a).length ≤ L.length + 1
  | [], f, a => Nat.le_refl _
  | q :: r, f, a => by
    have := addF_len r f a
    unfold addF
    split
    · rw [List.length_cons, List.length_cons]; omega
    · split
      · simp only [List.length_cons]; omega
      · simp only [List.length_cons]; omega
theorem fundsOf_len (l : List Ln) : (fundsOf l).length ≤ l.length := snoc_ind (P := fun l => (fundsOf l).length ≤ l.length) (Nat.le_refl _) (fun l x h => by
  rw [fundsOf_snoc, List.length_append]
  have := addF_len (fundsOf l) x.f x.a
  show _ ≤ l.length + 1
  omega) l
/-- What the lines of a fund are together. -/
def sumAt (l : List Ln) (g : Int) : Int := ((l.filter fun x => x.f == g).map Ln.a).sum
theorem sumAt_append (l m : List Ln) (g : Int) : sumAt (l ++ m) g = sumAt l g + sumAt m g := by unfold sumAt; rw [List.filter_append, List.map_append, List.sum_append]
theorem sumAt_one (x : Ln) (g : Int) : sumAt [x] g = if x.f = g then x.a else 0 := by
  unfold sumAt
  by_cases e : x.f = g
  · rw [if_pos e, List.filter_cons, if_pos (by simpa using e)]; simp
  · rw [if_neg e, List.filter_cons, if_neg (by simpa using e)]; rfl
theorem fundsOf_look (l : List Ln) (hl : ∀ x ∈ l, LnOk x) (g : Int) : lookF (fundsOf l) g = if l.any (fun x => x.f == g) then some (IntKind.i64.wrap (sumAt l g)) else none := by
  revert hl
  refine snoc_ind (P := fun l => (∀ x ∈ l, LnOk x) → lookF (fundsOf l) g = if l.any (fun x => x.f == g) then some (IntKind.i64.wrap (sumAt l g)) else none) (fun _ => rfl) (fun l x ih hl => ?_) l
  have ih := ih fun y hy => hl y (List.mem_append_left _ hy)
  rw [fundsOf_snoc, addF_look _ _ _ (fundsOf_rise l) (hl x (by simp)).2.2.2, List.any_append, sumAt_append, sumAt_one]
  by_cases e : g = x.f
  · subst e
    rw [if_pos rfl, if_pos rfl, ih]
    have h1 : ([x].any fun y => y.f == x.f) = true := by simp
    rw [h1, Bool.or_true, if_pos rfl]
    split
    · congr 1
      exact wrap_same (by have := wrap_mod (sumAt l x.f); simp only [Option.getD_some]; omega)
    · rename_i hn
      have : sumAt l x.f = 0 := by
        unfold sumAt
        rw [List.filter_eq_nil_iff.2 (fun y hy h => hn (List.any_eq_true.2 ⟨y, hy, h⟩))]
        rfl
      rw [this]; rfl
  · rw [if_neg e, if_neg (show ¬ x.f = g from fun h => e h.symm), ih]
    have h1 : ([x].any fun y => y.f == g) = false := by simpa using fun h => e h.symm
    rw [h1, Bool.or_false, Int.add_zero]
theorem any_perm {l m : List Ln} (h : l.Perm m) (p : Ln → Bool) : l.any p = m.any p := by
  rw [Bool.eq_iff_iff, List.any_eq_true, List.any_eq_true]
  exact ⟨fun ⟨x, a, b⟩ => ⟨x, h.mem_iff.1 a, b⟩, fun ⟨x, a, b⟩ => ⟨x, h.mem_iff.2 a, b⟩⟩
theorem sum_perm {l m : List Int} (h : l.Perm m) : l.sum = m.sum := by
  induction h with
  | nil => rfl
  | cons x _ ih => rw [List.sum_cons, List.sum_cons, ih]
  | swap x y l => simp only [List.sum_cons]; omega
  | trans _ _ h1 h2 => exact h1.trans h2
theorem sumAt_perm {l m : List Ln} (h : l.Perm m) (g : Int) : sumAt l g = sumAt m g := sum_perm ((h.filter _).map _)
/-- Lines in another order have the same funds. -/
theorem fundsOf_perm {l m : List Ln} (h : l.Perm m) (hl : ∀ x ∈ l, LnOk x) : fundsOf l = fundsOf m :=
  rise_ext (fundsOf_rise l) (fundsOf_rise m) fun g => by
    rw [fundsOf_look l hl, fundsOf_look m (fun x hx => hl x (h.mem_iff.2 hx)), any_perm h, sumAt_perm h]
theorem fundsOf_in (l : List Ln) (hl : ∀ x ∈ l, LnOk x) : ∀ p ∈ fundsOf l, B64 p.1 ∧ B64 p.2 := by
  intro p hp
  have h1 := (fundsOf_rise l).look hp
  rw [fundsOf_look l hl] at h1
  split at h1
  · rename_i h2
    obtain ⟨x, hx, e⟩ := List.any_eq_true.1 h2
    injection h1 with h1
    exact ⟨by rw [← eq_of_beq e]; exact (hl x hx).1, by rw [← h1]; exact wrap_in _⟩
  · cases h1
/-- Has each fund nothing? -/
def evenF (L : FL) : Bool := L.all fun p => p.2 == 0

/-- A line that balances a fund. -/
def dueOf (s : Int) : Int := if 0 < s then 2900 else 1900
def balF (p : Int × Int) : Option Ln := if p.2 = 0 then none else some ⟨p.1, dueOf p.2, 0, IntKind.i64.wrap (-p.2)⟩
def balL (L : FL) : List Ln := L.filterMap balF
def fundLn (p : Int × Int) : Ln := ⟨p.1, 0, 0, p.2⟩
theorem balL_at (L : FL) (h : RiseF L) (g : Int) : (sumAt (balL L) g + (lookF L g).getD 0) % 18446744073709551616 = 0 := by
  induction L with
  | nil => rfl
  | cons p r ih =>
    obtain ⟨h1, h2⟩ := List.pairwise_cons.1 h
    have ih := ih h2
    have hsplit : sumAt (balL (p :: r)) g = (if p.1 = g then (if p.2 = 0 then 0 else IntKind.i64.wrap (-p.2)) else 0) + sumAt (balL r) g := by
      unfold balL
      rw [List.filterMap_cons]
      unfold balF
      by_cases e : p.2 = 0
      · rw [if_pos e, if_pos e]
        show sumAt _ _ = _
        simp
      · rw [if_neg e, if_neg e]
        show sumAt ([_] ++ _) g = _
        rw [sumAt_append, sumAt_one]
    rw [hsplit, lookF]
    by_cases e : p.1 = g
    · have hn : lookF r g = none := lookF_lt fun q hq => by have := h1 q hq; omega
      rw [hn] at ih
      rw [if_pos e, if_pos e]
      simp only [Option.getD_none, Option.getD_some] at ih ⊢
      split
      · omega
      · have := wrap_mod (-p.2); omega
    · rw [if_neg e, if_neg e]
      omega
/-- With what balances them each fund has nothing. -/
theorem balanced_even (l : List Ln) (hl : ∀ x ∈ l, LnOk x) (hb : ∀ x ∈ balL (fundsOf l), LnOk x) : evenF (fundsOf (l ++ balL (fundsOf l))) = true := by
  unfold evenF
  rw [List.all_eq_true]
  intro p hp
  have hok : ∀ x ∈ l ++ balL (fundsOf l), LnOk x := fun x hx => by
    rcases List.mem_append.1 hx with h | h
    · exact hl x h
    · exact hb x h
  have h1 := (fundsOf_rise _).look hp
  rw [fundsOf_look _ hok, sumAt_append] at h1
  have h2 := balL_at (fundsOf l) (fundsOf_rise l) p.1
  rw [fundsOf_look l hl] at h2
  split at h1
  · injection h1 with h1
    have h3 : (sumAt l p.1 + sumAt (balL (fundsOf l)) p.1) % 18446744073709551616 = 0 := by
      split at h2
      · have := wrap_mod (sumAt l p.1); simp only [Option.getD_some] at h2; omega
      · rename_i hn
        have : sumAt l p.1 = 0 := by
          unfold sumAt
          rw [List.filter_eq_nil_iff.2 (fun y hy h => hn (List.any_eq_true.2 ⟨y, hy, h⟩))]
          rfl
        simp only [Option.getD_none] at h2; omega
    have h4 : IntKind.i64.wrap (sumAt l p.1 + sumAt (balL (fundsOf l)) p.1) = IntKind.i64.wrap 0 := wrap_same (by omega)
    rw [h4] at h1
    rw [← h1]
    rfl
  · cases h1
theorem balL_ok {L : FL} (h : ∀ p ∈ L, B64 p.1 ∧ B64 p.2) : ∀ x ∈ balL L, LnOk x := by
  intro x hx
  obtain ⟨p, hp, e⟩ := List.mem_filterMap.1 hx
  unfold balF at e
  split at e
  · cases e
  · cases e
    refine ⟨(h p hp).1, ?_, by show B64 0; unfold B64; omega, wrap_in _⟩
    show B64 (dueOf p.2)
    unfold dueOf B64
    split <;> omega
theorem balL_len (L : FL) : (balL L).length ≤ L.length := List.length_filterMap_le _ _
/-- All amounts together. -/
def sumAll (l : List Ln) : Int := (l.map Ln.a).sum
theorem addF_sum : ∀ (L : FL) (f a : Int), (((addF L f a).map Prod.snd).sum - ((L.map Prod.snd).sum + a)) % 18446744073709551616 = 0
  | [], f, a => by unfold addF; simp
  | q :: r, f, a => by
    have ih := addF_sum r f a
    unfold addF
    split
    · simp only [List.map_cons, List.sum_cons]; omega
    · split
      · simp only [List.map_cons, List.sum_cons]; have := wrap_mod (q.2 + a); omega
      · simp only [List.map_cons, List.sum_cons]; omega
theorem fundsOf_sum (l : List Ln) : (((fundsOf l).map Prod.snd).sum - sumAll l) % 18446744073709551616 = 0 := by
  refine snoc_ind (P := fun l => (((fundsOf l).map Prod.snd).sum - sumAll l) % 18446744073709551616 = 0) rfl (fun l x ih => ?_) l
  have h1 := addF_sum (fundsOf l) x.f x.a
  have h2 : sumAll (l ++ [x]) = sumAll l + x.a := by unfold sumAll; simp
  rw [fundsOf_snoc, h2]
  omega
theorem balL_sum : ∀ (L : FL), (sumAll (balL L) + (L.map Prod.snd).sum) % 18446744073709551616 = 0
  | [] => rfl
  | p :: r => by
    have ih := balL_sum r
    have : sumAll (balL (p :: r)) = (if p.2 = 0 then 0 else IntKind.i64.wrap (-p.2)) + sumAll (balL r) := by
      unfold balL
      rw [List.filterMap_cons]
      unfold balF
      by_cases e : p.2 = 0
      · rw [if_pos e, if_pos e]
        simp
      · rw [if_neg e, if_neg e]
        unfold sumAll
        rw [List.map_cons, List.sum_cons]
    rw [this, List.map_cons, List.sum_cons]
    split
    · omega
    · have := wrap_mod (-p.2); omega
theorem bal_nothing {l : List Ln} (h : sumAll l % 18446744073709551616 = 0) : sumAll (balL (fundsOf l)) % 18446744073709551616 = 0 := by
  have h1 := fundsOf_sum l
  have h2 := balL_sum (fundsOf l)
  omega
end Go.Proofs.YtilhcchnlbdlhaaGreat

/-
  Words for a slice of lines as it lies in memory, and for a row of lines that a call builds by append: what keeps it, how it grows, how it is read. Condition of an append: fewer than 2^32 lines.
-/
namespace Go.Proofs.YtilhcchnlbdlhaaGreat
open Go.RowKit
set_option maxRecDepth 100000
set_option linter.unusedVariables false

def lnV (x : Ln) : List Value := [.int .i64 x.f, .int .i64 x.o, .int .i64 x.n, .int .i64 x.a]
def lnsV (l : List Ln) : List Value := l.flatMap lnV
theorem lnsV_length (l : List Ln) : (lnsV l).length = l.length * 4 := by
  unfold lnsV
  induction l with
  | nil => rfl
  | cons x r ih => rw [List.flatMap_cons, List.length_append, ih, List.length_cons]; show 4 + _ = _; omega
theorem lnsV_append (l m : List Ln) : lnsV (l ++ m) = lnsV l ++ lnsV m := List.flatMap_append
theorem lnsV_at : ∀ {l : List Ln} {i : Nat} {x : Ln}, l[i]? = some x → (lnsV l)[i * 4]? = some (.int .i64 x.f) ∧ (lnsV l)[i * 4 + 1]? = some (.int .i64 x.o) ∧ (lnsV l)[i * 4 + 2]? = some (.int .i64 x.n) ∧ (lnsV l)[i * 4 + 3]? = some (.int .i64 x.a)
  | [], i, x, h => by cases h
  | y :: r, 0, x, h => by
    obtain rfl : y = x := by simpa using h
    exact ⟨rfl, rfl, rfl, rfl⟩
  | y :: r, i + 1, x, h => by
    obtain ⟨h0, h1, h2, h3⟩ := lnsV_at (l := r) (i := i) (x := x) (by simpa using h)
    have e : ∀ k, (lnsV (y :: r))[k + 4]? = (lnsV r)[k]? := fun k => by
      show (lnV y ++ lnsV r)[k + 4]? = _
      rw [List.getElem?_append_right (by show 4 ≤ _; omega)]
      show (lnsV r)[k + 4 - 4]? = _
      rw [Nat.add_sub_cancel]
    rw [show (i + 1) * 4 = i * 4 + 4 by omega, show i * 4 + 4 + 1 = i * 4 + 1 + 4 by omega, show i * 4 + 4 + 2 = i * 4 + 2 + 4 by omega, show i * 4 + 4 + 3 = i * 4 + 3 + 4 by omega, e, e, e, e]
    exact ⟨h0, h1, h2, h3⟩
theorem lnsV_one (l : List Ln) : ∀ u ∈ lnsV l, u.oneCell' = true := by
  intro u hu
  obtain ⟨x, _, hx⟩ := List.mem_flatMap.1 hu
  unfold lnV at hx
  simp only [List.mem_cons, List.not_mem_nil, or_false] at hx
  rcases hx with rfl | rfl | rfl | rfl <;> rfl

/-- A line at some place. -/
def LnAt (w : World) (b off : Nat) (x : Ln) : Prop :=
  w.cell? ⟨b, off, none⟩ = some (.int .i64 x.f) ∧ w.cell? ⟨b, off + 1, none⟩ = some (.int .i64 x.o) ∧ w.cell? ⟨b, off + 2, none⟩ = some (.int .i64 x.n) ∧ w.cell? ⟨b, off + 3, none⟩ = some (.int .i64 x.a)
/-- The slice at A of n lines reads as the list l in w, and lies below block B. -/
def RL (w : World) (B : Nat) (A : Option Addr) (n : Nat) (l : List Ln) : Prop :=
  l.length = n ∧ (∀ x ∈ l, LnOk x) ∧ (0 < n → ∃ b off, A = some ⟨b, off, none⟩ ∧ b < B ∧ ∀ j x, l[j]? = some x → LnAt w b (off + j * 4) x)

section
variable {w w' : World} {B B' n base : Nat} {A : Option Addr} {l : List Ln}
theorem LnAt.keep {b off : Nat} {x : Ln} (h : LnAt w b off x) (hb : b < B) (hk : ∀ b o, b < B → w'.cell? ⟨b, o, none⟩ = w.cell? ⟨b, o, none⟩) : LnAt w' b off x := by
  obtain ⟨h0, h1, h2, h3⟩ := h
  exact ⟨(hk _ _ hb).trans h0, (hk _ _ hb).trans h1, (hk _ _ hb).trans h2, (hk _ _ hb).trans h3⟩
theorem RL.nil_ : RL w B A 0 [] := ⟨rfl, (fun _ h => by cases h), fun h => absurd h (by omega)⟩
theorem RL.len (h : RL w B A n l) : l.length = n := h.1
theorem RL.ok (h : RL w B A n l) : ∀ x ∈ l, LnOk x := h.2.1
theorem RL.keep (h : RL w B A n l) (hk : ∀ b o, b < B → w'.cell? ⟨b, o, none⟩ = w.cell? ⟨b, o, none⟩) : RL w' B A n l :=
  ⟨h.1, h.2.1, fun hn => by
    obtain ⟨b, off, e, hb, hc⟩ := h.2.2 hn
    exact ⟨b, off, e, hb, fun j x hx => (hc j x hx).keep hb hk⟩⟩
theorem RL.below (h : RL w B A n l) (hb : Below B w w') : RL w' B A n l := h.keep fun b o hp => hb.cell (p := ⟨b, o, none⟩) hp
theorem RL.more (h : RL w B A n l) (hB : B ≤ B') : RL w B' A n l :=
  ⟨h.1, h.2.1, fun hn => by
    obtain ⟨b, off, e, hb, hc⟩ := h.2.2 hn
    exact ⟨b, off, e, by omega, hc⟩⟩
theorem RL.front {j : Nat} (h : RL w B A n l) (hj : j ≤ n) : RL w B A j (l.take j) := by
  obtain ⟨h1, h2, h3⟩ := h
  refine ⟨by rw [List.length_take]; omega, fun x hx => h2 x (List.mem_of_mem_take hx), fun hn => ?_⟩
  obtain ⟨b, off, e, hb, hp⟩ := h3 (by omega)
  refine ⟨b, off, e, hb, fun i y hy => hp i y ?_⟩
  rw [List.getElem?_take] at hy
  split at hy
  · exact hy
  · cases hy
/-- What lies behind place j, wherever it is said to begin. -/
theorem RL.back {j c : Nat} (h : RL w B A n l) (hj : j ≤ n) (hnc : n ≤ c) : RL w B (if c = j then A else A.map (·.add (j * 4))) (n - j) (l.drop j) := by
  obtain ⟨h1, h2, h3⟩ := h
  refine ⟨by rw [List.length_drop, h1], fun x hx => h2 x (List.mem_of_mem_drop hx), fun hn => ?_⟩
  obtain ⟨b, off, rfl, hb, hp⟩ := h3 (by omega)
  rw [if_neg (by omega)]
  refine ⟨b, off + j * 4, congrArg some (add_none _ _ _), hb, fun i y hy => ?_⟩
  rw [List.getElem?_drop] at hy
  have := hp (j + i) y hy
  rwa [show off + (j + i) * 4 = off + j * 4 + i * 4 by omega] at this
theorem RL.src (h : RL w B A n l) : ∀ j u, (lnsV l)[j]? = some u → ∃ ad, A = some ad ∧ w.cell? (ad.add j) = some u := by
  intro j u hu
  have hjl : j < l.length * 4 := by
    rcases Nat.lt_or_ge j (l.length * 4) with h' | h'
    · exact h'
    · rw [List.getElem?_eq_none (by rw [lnsV_length]; omega)] at hu; cases hu
  obtain ⟨x, hx⟩ : ∃ x, l[j / 4]? = some x := ⟨_, List.getElem?_eq_getElem (by omega)⟩
  obtain ⟨b, off, rfl, _, hc⟩ := h.2.2 (by rw [← h.1]; omega)
  obtain ⟨c0, c1, c2, c3⟩ := hc _ _ hx
  obtain ⟨v0, v1, v2, v3⟩ := lnsV_at hx
  refine ⟨_, rfl, ?_⟩
  rw [add_none]
  have h4 : j = j / 4 * 4 ∨ j = j / 4 * 4 + 1 ∨ j = j / 4 * 4 + 2 ∨ j = j / 4 * 4 + 3 := by omega
  rcases h4 with e | e | e | e
  · rw [e] at hu ⊢; rw [v0] at hu; rw [← hu, ← c0]
  · rw [e] at hu ⊢; rw [v1] at hu; rw [← hu, ← c1]; congr 2
  · rw [e] at hu ⊢; rw [v2] at hu; rw [← hu, ← c2]; congr 2
  · rw [e] at hu ⊢; rw [v3] at hu; rw [← hu, ← c3]; congr 2

/-- A row of lines that a call built, from block base on. -/
def LOwn (w : World) (base : Nat) (v : Value) (l : List Ln) : Prop := w.ownsRow base 30 4 v l.length (lnsV l)
theorem LOwn.start (w : World) (base : Nat) : LOwn w base (.slice none 0 0) [] := World.ownsRow_nil _ _ _ _
theorem LOwn.at_ {v : Value} (h : LOwn w base v l) : ∀ g, v.ownBlock = some g → base ≤ g ∧ g < w.heap.size := by
  intro g hg
  rcases h.2 with ⟨rfl, _⟩ | ⟨g', cap, cur, rfl, hb, hh, _⟩
  · simp [Value.ownBlock] at hg
  · simp [Value.ownBlock] at hg
    subst hg
    exact ⟨hb, (Array.getElem?_eq_some_iff.1 hh).1⟩
theorem LOwn.stays {v : Value} (h : LOwn w base v l) (hk : ∀ g, v.ownBlock = some g → w'.heap[g]? = w.heap[g]?) : LOwn w' base v l := by
  rcases h.2 with h' | ⟨g, cap, cur, rfl, hg, hb, h3⟩
  · exact ⟨h.1, .inl h'⟩
  · exact ⟨h.1, .inr ⟨g, cap, cur, rfl, hg, (hk g (by simp [Value.ownBlock])).trans hb, h3⟩⟩
theorem LOwn.below {v : Value} (h : LOwn w base v l) (hb : Below w.heap.size w w') : LOwn w' base v l := h.stays fun g hg => hb.block g (h.at_ g hg).2
theorem LOwn.shape {v : Value} (h : LOwn w base v l) : ∃ A c, v = .slice A l.length c ∧ l.length ≤ c := by
  rcases h.2 with ⟨rfl, h0⟩ | ⟨g, cap, cur, rfl, hb, hg, hc, _⟩
  · rw [h0]; exact ⟨none, 0, rfl, Nat.le_refl _⟩
  · exact ⟨_, cap, rfl, hc⟩
theorem LOwn.base_le {v : Value} (h : LOwn w base v l) {b : Nat} (hb : b ≤ base) : LOwn w b v l := by
  rcases h.2 with h' | ⟨g, cap, cur, rfl, hg, h3⟩
  · exact ⟨h.1, .inl h'⟩
  · exact ⟨h.1, .inr ⟨g, cap, cur, rfl, Nat.le_trans hb hg, h3⟩⟩
/-- How it is read. -/
theorem LOwn.read {n c : Nat} (h : LOwn w base (.slice A n c) l) (hl : ∀ x ∈ l, LnOk x) : n = l.length ∧ n ≤ c ∧ RL w w.heap.size A n l := by
  rcases h.2 with ⟨e, h0⟩ | ⟨g, cap, cur, e, hb, hg, hc, _, _, htake⟩
  · cases e
    exact ⟨h0.symm, Nat.le_refl _, h0, hl, fun hn => absurd hn (by omega)⟩
  · cases e
    refine ⟨rfl, hc, rfl, hl, fun hn => ⟨g, 0, rfl, (Array.getElem?_eq_some_iff.1 hg).1, fun i y hy => ?_⟩⟩
    have hi := (List.getElem?_eq_some_iff.1 hy).1
    obtain ⟨g0, g1, g2, g3⟩ := lnsV_at hy
    have at_ : ∀ k u, k < l.length * 4 → (lnsV l)[k]? = some u → w.cell? ⟨g, k, none⟩ = some u := fun k u hk hu => by
      rw [cell_of_row w g k cur _ (0, 0) hg, ← hu, ← htake, List.getElem?_take, if_pos hk]
      simp
    rw [Nat.zero_add]
    exact ⟨at_ _ _ (by omega) g0, at_ _ _ (by omega) g1, at_ _ _ (by omega) g2, at_ _ _ (by omega) g3⟩

theorem info_line : (Tryz.prog.info? 30).map (fun i => (i.zero, i.size, i.bytes)) = some (some (.agg #[.int .i64 0, .int .i64 0, .int .i64 0, .int .i64 0]), 4, 32) := by kernel_rfl
theorem lnCells_ : (Value.agg #[.int .i64 0, .int .i64 0, .int .i64 0, .int .i64 0]).cells.size = 4 := rfl
/-- append of lines that lie anywhere. -/
theorem LOwn.appendL {v : Value} (h : LOwn w base v l) {m : List Ln} {k c : Nat} (hr : RL w B A k m) (hn : l.length ≤ 2147483647) (hk : k ≤ 2147483647) (hbase : base ≤ w.heap.size) (ty : TypeId) :
    ∃ v' w', (Builtin.append_ #[28, 28] ty #[v, .slice A k c]).run Tryz.prog w = .ok v' w' ∧ LOwn w' base v' (l ++ m) ∧ Below base w w' ∧ w.grownBy w' v.ownBlock ∧ (v'.ownBlock = v.ownBlock ∨ v'.ownBlock = some w.heap.size) := by
  obtain ⟨i0, hi, hz0, hz1, hz2⟩ := info_parts info_line
  rcases A with _ | ad
  · have hm : k = 0 := by
      rcases Nat.eq_zero_or_pos k with h0 | h0
      · exact h0
      · obtain ⟨b, off, e, _⟩ := hr.2.2 h0; cases e
    subst hm
    obtain rfl : m = [] := List.eq_nil_of_length_eq_zero hr.len
    rw [List.append_nil]
    exact ⟨_, w, run_append_none (P := Tryz.prog) (w := w) base 28 ty 30 i0 4 Tryz.underlying28 hi _ _ _ h c, h, Below.refl _ _, ⟨rfl, rfl, rfl, Nat.le_refl _, fun _ _ _ => rfl⟩, .inl rfl⟩
  · obtain ⟨v', w', hrun, h1, h2, _, h3⟩ := run_append_own_at (P := Tryz.prog) w base 28 ty 30 i0 _ 4 32 Tryz.underlying28 hi hz0 hz1 hz2 lnCells_ (by decide) v _ _ h ad k c (lnsV m) (by rw [lnsV_length, hr.len]) (fun j u hj => by
      obtain ⟨ad', e, hc⟩ := hr.src j u hj
      cases e
      exact hc) (lnsV_one m) (by unfold maxLen; omega) (by omega) hbase
    refine ⟨v', w', hrun, ?_, (Below.refl _ _).grown h2 hbase (fun k hk => (h.at_ k hk).1), h2, h3⟩
    show w'.ownsRow base 30 4 v' (l ++ m).length (lnsV (l ++ m))
    rw [lnsV_append, List.length_append, hr.len]
    exact h1
/-- append of one line, its cells in block b. -/
theorem LOwn.append1 {v : Value} (h : LOwn w base v l) {x : Ln} {b : Nat} {T : TypeId} (hb : w.heap[b]? = some (.cells #[.int .i64 x.f, .int .i64 x.o, .int .i64 x.n, .int .i64 x.a] T)) (hx : LnOk x) (hn : l.length ≤ 2147483647) (hbase : base ≤ w.heap.size) (ty : TypeId) :
    ∃ v' w', (Builtin.append_ #[28, 28] ty #[v, .slice (some ⟨b, 0, none⟩) 1 1]).run Tryz.prog w = .ok v' w' ∧ LOwn w' base v' (l ++ [x]) ∧ Below base w w' ∧ w.grownBy w' v.ownBlock ∧ (v'.ownBlock = v.ownBlock ∨ v'.ownBlock = some w.heap.size) :=
  h.appendL (B := w.heap.size) (m := [x]) ⟨rfl, fun y hy => by obtain rfl := List.mem_singleton.1 hy; exact hx, fun _ => ⟨b, 0, rfl, (Array.getElem?_eq_some_iff.1 hb).1, fun j y hy => by
    have hj : j = 0 := by
      have := (List.getElem?_eq_some_iff.1 hy).1
      simp at this
      omega
    subst hj
    obtain rfl : x = y := by simpa using hy
    exact ⟨cell_of_row w b 0 _ T (0, 0) hb, cell_of_row w b 1 _ T (0, 0) hb, cell_of_row w b 2 _ T (0, 0) hb, cell_of_row w b 3 _ T (0, 0) hb⟩⟩⟩ hn (Nat.le_of_ble_eq_true rfl) hbase ty
end

open Go.ChangeShapes Go.WideShapes Go.Deep in
theorem cellIntL : Tryz.prog.cellsOf 3 = 1 := by kernel_rfl
theorem lineCells : Tryz.prog.cellsOf 30 = 4 := by kernel_rfl
open Go.ChangeShapes Go.WideShapes Go.Deep in
/-- A slice of lines as the statements open it. -/
theorem open_lines {H : Type} {enc : TypeId × Value → H} {w : World} {fuel : Nat} {cs : List Value} {x : DataW H × List MemPlace} (h : DataW.trod enc Tryz.prog w 0 (fun _ => true) true fuel 28 cs = some x) :
    cs = [.slice none 0 0] ∨ ∃ (a : Addr) (len cap : Nat) (ls : List Ln), cs = [.slice (some a) len cap] ∧ len ≤ cap ∧ cap ≤ maxLen ∧ RL w w.heap.size (some a) len ls := by
  rcases open_slice Tryz.underlying28 h with ⟨h0, _⟩ | ⟨a, len, cap, m, n, D, Pl, hcs, hb, hl, hm, hmm, hx, hi⟩
  · exact .inl h0
  · right
    have hmc : m = cap := by simpa using hmm
    have each : ∀ i, i < len → ∃ d : Ln, LnOk d ∧ ∀ b off, a = ⟨b, off, none⟩ → LnAt w b (off + i * 4) d := by
      intro i hilen
      obtain ⟨cs', hc, ht'⟩ := hi i (by omega)
      rw [lineCells] at hc
      obtain ⟨ys, n', hn', hy, hlen, hyl, hf⟩ := DataW.trod_struct Tryz.underlying30 ht'
      obtain ⟨_, hcl, hat⟩ := World.cells?_some hc
      match cs', hcl with
      | [c0, c1, c2, c3], _ =>
        match ys, hyl with
        | [y0, y1, y2, y3], _ =>
          have f0 : DataW.trod enc Tryz.prog w 0 (fun _ => true) true n' 3 (([c0, c1, c2, c3].drop 0).take (Tryz.prog.cellsOf 3)) = [y0, y1, y2, y3][0]? := hf 0 _ rfl
          rw [cellIntL] at f0
          have f1 : DataW.trod enc Tryz.prog w 0 (fun _ => true) true n' 3 (([c0, c1, c2, c3].drop 1).take (Tryz.prog.cellsOf 3)) = [y0, y1, y2, y3][1]? := hf 1 _ rfl
          rw [cellIntL] at f1
          have f2 : DataW.trod enc Tryz.prog w 0 (fun _ => true) true n' 3 (([c0, c1, c2, c3].drop 2).take (Tryz.prog.cellsOf 3)) = [y0, y1, y2, y3][2]? := hf 2 _ rfl
          rw [cellIntL] at f2
          have f3 : DataW.trod enc Tryz.prog w 0 (fun _ => true) true n' 3 (([c0, c1, c2, c3].drop 3).take (Tryz.prog.cellsOf 3)) = [y0, y1, y2, y3][3]? := hf 3 _ rfl
          rw [cellIntL] at f3
          simp only [List.drop_zero, List.take_succ_cons, List.take_zero, List.drop_succ_cons, List.getElem?_cons_zero, List.getElem?_cons_succ] at f0 f1 f2 f3
          obtain ⟨n0, e0, _, w0⟩ := DataW.trod_int Tryz.underlying3 f0
          obtain ⟨n1, e1, _, w1⟩ := DataW.trod_int Tryz.underlying3 f1
          obtain ⟨n2, e2, _, w2⟩ := DataW.trod_int Tryz.underlying3 f2
          obtain ⟨n3, e3, _, w3⟩ := DataW.trod_int Tryz.underlying3 f3
          simp only [List.cons.injEq, and_true] at e0 e1 e2 e3
          subst e0 e1 e2 e3
          refine ⟨⟨n0, n1, n2, n3⟩, ⟨int_bounds w0, int_bounds w1, int_bounds w2, int_bounds w3⟩, fun b off ha => ?_⟩
          subst ha
          have a0 := hat 0 (by decide)
          have a1 := hat 1 (by decide)
          have a2 := hat 2 (by decide)
          have a3 := hat 3 (by decide)
          simp only [add_none, List.getElem?_cons_zero, List.getElem?_cons_succ, Nat.add_zero] at a0 a1 a2 a3
          exact ⟨a0, a1, a2, a3⟩
    obtain ⟨f, hf⟩ : ∃ f : Nat → Ln, ∀ i, i < len → LnOk (f i) ∧ ∀ b off, a = ⟨b, off, none⟩ → LnAt w b (off + i * 4) (f i) := by
      refine ⟨fun i => if h : i < len then (each i h).choose else ⟨0, 0, 0, 0⟩, fun i hil => ?_⟩
      simp only [hil, dif_pos]
      exact (each i hil).choose_spec
    refine ⟨a, len, cap, (List.range len).map f, hcs, hl, hm, by simp, fun y hy => ?_, fun hn => ?_⟩
    · obtain ⟨i, hi, rfl⟩ := List.mem_map.1 hy
      exact (hf i (List.mem_range.1 hi)).1
    obtain ⟨cs', hc, _⟩ := hi 0 (by omega)
    rw [lineCells] at hc
    obtain ⟨_, hcl, hat⟩ := World.cells?_some hc
    have h0 := hat 0 (by decide)
    have hlt0 : 0 < cs'.length := by omega
    rw [List.getElem?_eq_getElem hlt0] at h0
    obtain ⟨b, off, spot⟩ := a
    have hspot : spot = none := by simpa [Addr.add] using World.cell?_spot h0
    subst hspot
    refine ⟨b, off, rfl, ?_, fun j y hy => ?_⟩
    · have := World.block_lt_of_cell? _ _ h0
      simpa [Addr.add] using this
    · rw [List.getElem?_map] at hy
      obtain ⟨i, hi, rfl⟩ := Option.map_eq_some_iff.1 hy
      obtain ⟨hlt, e⟩ := List.getElem?_eq_some_iff.1 hi
      rw [List.getElem_range] at e
      subst e
      rw [List.length_range] at hlt
      exact (hf j hlt).2 b off rfl
end Go.Proofs.YtilhcchnlbdlhaaGreat
