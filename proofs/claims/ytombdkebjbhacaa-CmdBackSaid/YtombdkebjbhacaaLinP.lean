/-
  Lines of entries as plain lists: what the lines of each fund are together (modulo 2^64), rising; lines in another order have the same; with what balances them each fund has nothing. Plain facts; no condition beyond what each says.
-/
import Derived.Test.YtombdkebjbhacaaBase
namespace Go.Proofs.Ytombdkebjbhacaa
set_option maxRecDepth 100000
set_option linter.unusedVariables false

/-- A line: fund, object, node, amount. -/
structure Ln where
  f : Int
  o : Int
  n : Int
  a : Int
def B64 (x : Int) : Prop := -9223372036854775808 ≤ x ∧ x ≤ 9223372036854775807
/-- Its numbers are ints. -/
def LnOk (x : Ln) : Prop := B64 x.f ∧ B64 x.o ∧ B64 x.n ∧ B64 x.a
/-- Funds, each with a number. -/
abbrev FL := List (Int × Int)
def addF : FL → Int → Int → FL
  | [], f, a => [(f, a)]
  | p :: r, f, a => if p.1 < f then p :: addF r f a else if p.1 = f then (f, IntKind.i64.wrap (p.2 + a)) :: r else (f, a) :: p :: r
def fundsOf (l : List Ln) : FL := l.foldl (fun out x => addF out x.f x.a) []
def lookF : FL → Int → Option Int
  | [], _ => none
  | p :: r, f => if p.1 = f then some p.2 else lookF r f
def RiseF (L : FL) : Prop := L.Pairwise (fun p q => p.1 < q.1)

theorem wrap_wrap (x : Int) : IntKind.i64.wrap (IntKind.i64.wrap x) = IntKind.i64.wrap x := by simp only [IntKind.wrap_i64]; omega
theorem wrap_same {x y : Int} (h : (x - y) % 18446744073709551616 = 0) : IntKind.i64.wrap x = IntKind.i64.wrap y := by simp only [IntKind.wrap_i64]; omega
theorem wrap_mod (x : Int) : (IntKind.i64.wrap x - x) % 18446744073709551616 = 0 := by simp only [IntKind.wrap_i64]; omega
theorem wrap_in (x : Int) : B64 (IntKind.i64.wrap x) := by unfold B64; simp only [IntKind.wrap_i64]; omega
theorem wrap_id {x : Int} (h : B64 x) : IntKind.i64.wrap x = x := by unfold B64 at h; simp only [IntKind.wrap_i64]; omega

theorem addF_keys : ∀ (L : FL) (f a : Int) (p : Int × Int), p ∈ addF L f a → p.1 = f ∨ ∃ q ∈ L, q.1 = p.1
  | [], f, a, p, h => .inl (by obtain rfl := List.mem_singleton.1 h; rfl)
  | q :: r, f, a, p, h => by
    unfold addF at h
    split at h
    · rcases List.mem_cons.1 h with rfl | h
      · exact .inr ⟨p, List.mem_cons_self .., rfl⟩
      · rcases addF_keys r f a p h with e | ⟨q', hq, e⟩
        · exact .inl e
        · exact .inr ⟨q', List.mem_cons_of_mem _ hq, e⟩
    · split at h
      · rcases List.mem_cons.1 h with rfl | h
        · exact .inl rfl
        · exact .inr ⟨p, List.mem_cons_of_mem _ h, rfl⟩
      · rcases List.mem_cons.1 h with rfl | h
        · exact .inl rfl
        · exact .inr ⟨p, h, rfl⟩
theorem addF_rise : ∀ {L : FL} (f a : Int), RiseF L → RiseF (addF L f a)
  | [], f, a, _ => List.pairwise_singleton _ _
  | q :: r, f, a, h => by
    obtain ⟨h1, h2⟩ := List.pairwise_cons.1 h
    unfold addF
    split
    · rename_i hlt
      refine List.pairwise_cons.2 ⟨fun p hp => ?_, addF_rise f a h2⟩
      rcases addF_keys r f a p hp with e | ⟨q', hq, e⟩
      · rw [e]; exact hlt
      · rw [← e]; exact h1 q' hq
    · split
      · rename_i e
        exact List.pairwise_cons.2 ⟨fun p hp => by rw [← e]; exact h1 p hp, h2⟩
      · rename_i n1 n2
        refine List.pairwise_cons.2 ⟨fun p hp => ?_, h⟩
        rcases List.mem_cons.1 hp with rfl | hp
        · show f < p.1; omega
        · have := h1 p hp; show f < p.1; omega
theorem lookF_lt : ∀ {L : FL} {f : Int}, (∀ p ∈ L, f < p.1) → lookF L f = none
  | [], f, _ => rfl
  | q :: r, f, h => by
    unfold lookF
    have := h q (List.mem_cons_self ..)
    rw [if_neg (by omega)]
    exact lookF_lt fun p hp => h p (List.mem_cons_of_mem _ hp)
theorem addF_look : ∀ {L : FL} (f a g : Int), RiseF L → B64 a → lookF (addF L f a) g = if g = f then some (IntKind.i64.wrap ((lookF L f).getD 0 + a)) else lookF L g
  | [], f, a, g, _, ha => by
    unfold addF lookF
    by_cases e : g = f
    · rw [if_pos e.symm, if_pos e]
      show some a = some (IntKind.i64.wrap (0 + a))
      rw [Int.zero_add, wrap_id ha]
    · rw [if_neg (fun h => e h.symm), if_neg e]; rfl
  | q :: r, f, a, g, h, ha => by
    obtain ⟨h1, h2⟩ := List.pairwise_cons.1 h
    have ih := addF_look (L := r) f a g h2 ha
    unfold addF
    split
    · rename_i hlt
      rw [lookF, ih]
      by_cases e : g = f
      · rw [if_neg (by omega), if_pos e, if_pos e, lookF, if_neg (by omega)]
      · rw [if_neg e, if_neg e, lookF]
    · split
      · rename_i e0
        rw [lookF]
        by_cases e : g = f
        · rw [if_pos e.symm, if_pos e, lookF, if_pos e0]; rfl
        · rw [if_neg (fun h => e h.symm), if_neg e, lookF, if_neg (fun h => e (by omega))]
      · rename_i n1 n2
        rw [lookF]
        by_cases e : g = f
        · rw [if_pos e.symm, if_pos e, lookF, if_neg n2, lookF_lt (fun p hp => by have := h1 p hp; omega)]
          show some a = some (IntKind.i64.wrap (0 + a))
          rw [Int.zero_add, wrap_id ha]
        · rw [if_neg (fun h => e h.symm), if_neg e]
theorem lookF_mem : ∀ {L : FL} {f s : Int}, lookF L f = some s → (f, s) ∈ L
  | [], f, s, h => by cases h
  | q :: r, f, s, h => by
    unfold lookF at h
    split at h
    · rename_i e
      cases h
      rw [← e]
      exact List.mem_cons_self ..
    · exact List.mem_cons_of_mem _ (lookF_mem h)
theorem RiseF.look : ∀ {L : FL} {p : Int × Int}, RiseF L → p ∈ L → lookF L p.1 = some p.2
  | q :: r, p, h, hp => by
    obtain ⟨h1, h2⟩ := List.pairwise_cons.1 h
    unfold lookF
    rcases List.mem_cons.1 hp with rfl | hp
    · rw [if_pos rfl]
    · have := h1 p hp
      rw [if_neg (by omega)]
      exact RiseF.look h2 hp
theorem RiseF.nodup {L : FL} (h : RiseF L) : L.Nodup := List.nodup_iff_pairwise_ne.2 (h.imp fun {a b} h e => by rw [e] at h; omega)
theorem rise_perm : ∀ {L M : FL}, RiseF L → RiseF M → L.Perm M → L = M
  | L, M, h1, h2, hp => hp.eq_of_pairwise (fun a b _ _ h h' => by omega) h1 h2
theorem rise_ext {L M : FL} (h1 : RiseF L) (h2 : RiseF M) (h : ∀ g, lookF L g = lookF M g) : L = M :=
  rise_perm h1 h2 ((List.perm_ext_iff_of_nodup h1.nodup h2.nodup).2 fun p => ⟨fun hp => lookF_mem (by rw [← h, h1.look hp]), fun hp => lookF_mem (by rw [h, h2.look hp])⟩)

theorem fundsOf_snoc (l : List Ln) (x : Ln) : fundsOf (l ++ [x]) = addF (fundsOf l) x.f x.a := by unfold fundsOf; rw [List.foldl_append]; rfl
theorem snoc_ind {P : List Ln → Prop} (h0 : P []) (h1 : ∀ l x, P l → P (l ++ [x])) (l : List Ln) : P l := by
  have : ∀ n (l : List Ln), l.length = n → P l := by
    intro n
    induction n with
    | zero => intro l hl; obtain rfl := List.eq_nil_of_length_eq_zero hl; exact h0
    | succ n ih =>
      intro l hl
      have hne : l ≠ [] := fun e => by rw [e] at hl; cases hl
      rw [← List.dropLast_concat_getLast hne]
      exact h1 _ _ (ih _ (by rw [List.length_dropLast]; omega))
  exact this _ l rfl
theorem fundsOf_rise (l : List Ln) : RiseF (fundsOf l) := snoc_ind (P := fun l => RiseF (fundsOf l)) List.Pairwise.nil (fun l x h => by rw [fundsOf_snoc]; exact addF_rise _ _ h) l
theorem addF_len : ∀ (L : FL) (f a : Int), (addF L f a).length ≤ L.length + 1
  | [], f, a => Nat.le_refl _
  | q :: r, f, a => by
    have := addF_len r f a
    unfold addF
    split
    · rw [List.length_cons, List.length_cons]; omega
    · split
      · simp only [List.length_cons]; omega
      · simp only [List.length_cons]; omega
theorem fundsOf_len (l : List Ln) : (fundsOf l).length ≤ l.length := snoc_ind (P := fun l => (fundsOf l).length ≤ l.length) (Nat.le_refl _) (fun l x h => by
  rw [fundsOf_snoc, List.length_append]
  have := addF_len (fundsOf l) x.f x.a
  show _ ≤ l.length + 1
  omega) l
/-- What the lines of a fund are together. -/
def sumAt (l : List Ln) (g : Int) : Int := ((l.filter fun x => x.f == g).map Ln.a).sum
theorem sumAt_append (l m : List Ln) (g : Int) : sumAt (l ++ m) g = sumAt l g + sumAt m g := by unfold sumAt; rw [List.filter_append, List.map_append, List.sum_append]
theorem sumAt_one (x : Ln) (g : Int) : sumAt [x] g = if x.f = g then x.a else 0 := by
  unfold sumAt
  by_cases e : x.f = g
  · rw [if_pos e, List.filter_cons, if_pos (by simpa using e)]; simp
  · rw [if_neg e, List.filter_cons, if_neg (by simpa using e)]; rfl
theorem fundsOf_look (l : List Ln) (hl : ∀ x ∈ l, LnOk x) (g : Int) : lookF (fundsOf l) g = if l.any (fun x => x.f == g) then some (IntKind.i64.wrap (sumAt l g)) else none := by
  revert hl
  refine snoc_ind (P := fun l => (∀ x ∈ l, LnOk x) → lookF (fundsOf l) g = if l.any (fun x => x.f == g) then some (IntKind.i64.wrap (sumAt l g)) else none) (fun _ => rfl) (fun l x ih hl => ?_) l
  have ih := ih fun y hy => hl y (List.mem_append_left _ hy)
  rw [fundsOf_snoc, addF_look _ _ _ (fundsOf_rise l) (hl x (by simp)).2.2.2, List.any_append, sumAt_append, sumAt_one]
  by_cases e : g = x.f
  · subst e
    rw [if_pos rfl, if_pos rfl, ih]
    have h1 : ([x].any fun y => y.f == x.f) = true := by simp
    rw [h1, Bool.or_true, if_pos rfl]
    split
    · congr 1
      exact wrap_same (by have := wrap_mod (sumAt l x.f); simp only [Option.getD_some]; omega)
    · rename_i hn
      have : sumAt l x.f = 0 := by
        unfold sumAt
        rw [List.filter_eq_nil_iff.2 (fun y hy h => hn (List.any_eq_true.2 ⟨y, hy, h⟩))]
        rfl
      rw [this]; rfl
  · rw [if_neg e, if_neg (show ¬ x.f = g from fun h => e h.symm), ih]
    have h1 : ([x].any fun y => y.f == g) = false := by simpa using fun h => e h.symm
    rw [h1, Bool.or_false, Int.add_zero]
theorem any_perm {l m : List Ln} (h : l.Perm m) (p : Ln → Bool) : l.any p = m.any p := by
  rw [Bool.eq_iff_iff, List.any_eq_true, List.any_eq_true]
  exact ⟨fun ⟨x, a, b⟩ => ⟨x, h.mem_iff.1 a, b⟩, fun ⟨x, a, b⟩ => ⟨x, h.mem_iff.2 a, b⟩⟩
theorem sum_perm {l m : List Int} (h : l.Perm m) : l.sum = m.sum := by
  induction h with
  | nil => rfl
  | cons x _ ih => rw [List.sum_cons, List.sum_cons, ih]
  | swap x y l => simp only [List.sum_cons]; omega
  | trans _ _ h1 h2 => exact h1.trans h2
theorem sumAt_perm {l m : List Ln} (h : l.Perm m) (g : Int) : sumAt l g = sumAt m g := sum_perm ((h.filter _).map _)
/-- Lines in another order have the same funds. -/
theorem fundsOf_perm {l m : List Ln} (h : l.Perm m) (hl : ∀ x ∈ l, LnOk x) : fundsOf l = fundsOf m :=
  rise_ext (fundsOf_rise l) (fundsOf_rise m) fun g => by
    rw [fundsOf_look l hl, fundsOf_look m (fun x hx => hl x (h.mem_iff.2 hx)), any_perm h, sumAt_perm h]
theorem fundsOf_in (l : List Ln) (hl : ∀ x ∈ l, LnOk x) : ∀ p ∈ fundsOf l, B64 p.1 ∧ B64 p.2 := by
  intro p hp
  have h1 := (fundsOf_rise l).look hp
  rw [fundsOf_look l hl] at h1
  split at h1
  · rename_i h2
    obtain ⟨x, hx, e⟩ := List.any_eq_true.1 h2
    injection h1 with h1
    exact ⟨by rw [← eq_of_beq e]; exact (hl x hx).1, by rw [← h1]; exact wrap_in _⟩
  · cases h1
/-- Has each fund nothing? -/
def evenF (L : FL) : Bool := L.all fun p => p.2 == 0

/-- A line that balances a fund. -/
def dueOf (s : Int) : Int := if 0 < s then 2900 else 1900
def balF (p : Int × Int) : Option Ln := if p.2 = 0 then none else some ⟨p.1, dueOf p.2, 0, IntKind.i64.wrap (-p.2)⟩
def balL (L : FL) : List Ln := L.filterMap balF
def fundLn (p : Int × Int) : Ln := ⟨p.1, 0, 0, p.2⟩
theorem balL_at (L : FL) (h : RiseF L) (g : Int) : (sumAt (balL L) g + (lookF L g).getD 0) % 18446744073709551616 = 0 := by
  induction L with
  | nil => rfl
  | cons p r ih =>
    obtain ⟨h1, h2⟩ := List.pairwise_cons.1 h
    have ih := ih h2
    have hsplit : sumAt (balL (p :: r)) g = (if p.1 = g then (if p.2 = 0 then 0 else IntKind.i64.wrap (-p.2)) else 0) + sumAt (balL r) g := by
      unfold balL
      rw [List.filterMap_cons]
      unfold balF
      by_cases e : p.2 = 0
      · rw [if_pos e, if_pos e]
        show sumAt _ _ = _
        simp
      · rw [if_neg e, if_neg e]
        show sumAt ([_] ++ _) g = _
        rw [sumAt_append, sumAt_one]
    rw [hsplit, lookF]
    by_cases e : p.1 = g
    · have hn : lookF r g = none := lookF_lt fun q hq => by have := h1 q hq; omega
      rw [hn] at ih
      rw [if_pos e, if_pos e]
      simp only [Option.getD_none, Option.getD_some] at ih ⊢
      split
      · omega
      · have := wrap_mod (-p.2); omega
    · rw [if_neg e, if_neg e]
      omega
/-- With what balances them each fund has nothing. -/
theorem balanced_even (l : List Ln) (hl : ∀ x ∈ l, LnOk x) (hb : ∀ x ∈ balL (fundsOf l), LnOk x) : evenF (fundsOf (l ++ balL (fundsOf l))) = true := by
  unfold evenF
  rw [List.all_eq_true]
  intro p hp
  have hok : ∀ x ∈ l ++ balL (fundsOf l), LnOk x := fun x hx => by
    rcases List.mem_append.1 hx with h | h
    · exact hl x h
    · exact hb x h
  have h1 := (fundsOf_rise _).look hp
  rw [fundsOf_look _ hok, sumAt_append] at h1
  have h2 := balL_at (fundsOf l) (fundsOf_rise l) p.1
  rw [fundsOf_look l hl] at h2
  split at h1
  · injection h1 with h1
    have h3 : (sumAt l p.1 + sumAt (balL (fundsOf l)) p.1) % 18446744073709551616 = 0 := by
      split at h2
      · have := wrap_mod (sumAt l p.1); simp only [Option.getD_some] at h2; omega
      · rename_i hn
        have : sumAt l p.1 = 0 := by
          unfold sumAt
          rw [List.filter_eq_nil_iff.2 (fun y hy h => hn (List.any_eq_true.2 ⟨y, hy, h⟩))]
          rfl
        simp only [Option.getD_none] at h2; omega
    have h4 : IntKind.i64.wrap (sumAt l p.1 + sumAt (balL (fundsOf l)) p.1) = IntKind.i64.wrap 0 := wrap_same (by omega)
    rw [h4] at h1
    rw [← h1]
    rfl
  · cases h1
theorem balL_ok {L : FL} (h : ∀ p ∈ L, B64 p.1 ∧ B64 p.2) : ∀ x ∈ balL L, LnOk x := by
  intro x hx
  obtain ⟨p, hp, e⟩ := List.mem_filterMap.1 hx
  unfold balF at e
  split at e
  · cases e
  · cases e
    refine ⟨(h p hp).1, ?_, by show B64 0; unfold B64; omega, wrap_in _⟩
    show B64 (dueOf p.2)
    unfold dueOf B64
    split <;> omega
theorem balL_len (L : FL) : (balL L).length ≤ L.length := List.length_filterMap_le _ _
/-- All amounts together. -/
def sumAll (l : List Ln) : Int := (l.map Ln.a).sum
theorem addF_sum : ∀ (L : FL) (f a : Int), (((addF L f a).map Prod.snd).sum - ((L.map Prod.snd).sum + a)) % 18446744073709551616 = 0
  | [], f, a => by unfold addF; simp
  | q :: r, f, a => by
    have ih := addF_sum r f a
    unfold addF
    split
    · simp only [List.map_cons, List.sum_cons]; omega
    · split
      · simp only [List.map_cons, List.sum_cons]; have := wrap_mod (q.2 + a); omega
      · simp only [List.map_cons, List.sum_cons]; omega
theorem fundsOf_sum (l : List Ln) : (((fundsOf l).map Prod.snd).sum - sumAll l) % 18446744073709551616 = 0 := by
  refine snoc_ind (P := fun l => (((fundsOf l).map Prod.snd).sum - sumAll l) % 18446744073709551616 = 0) rfl (fun l x ih => ?_) l
  have h1 := addF_sum (fundsOf l) x.f x.a
  have h2 : sumAll (l ++ [x]) = sumAll l + x.a := by unfold sumAll; simp
  rw [fundsOf_snoc, h2]
  omega
theorem balL_sum : ∀ (L : FL), (sumAll (balL L) + (L.map Prod.snd).sum) % 18446744073709551616 = 0
  | [] => rfl
  | p :: r => by
    have ih := balL_sum r
    have : sumAll (balL (p :: r)) = (if p.2 = 0 then 0 else IntKind.i64.wrap (-p.2)) + sumAll (balL r) := by
      unfold balL
      rw [List.filterMap_cons]
      unfold balF
      by_cases e : p.2 = 0
      · rw [if_pos e, if_pos e]
        simp
      · rw [if_neg e, if_neg e]
        unfold sumAll
        rw [List.map_cons, List.sum_cons]
    rw [this, List.map_cons, List.sum_cons]
    split
    · omega
    · have := wrap_mod (-p.2); omega
theorem bal_nothing {l : List Ln} (h : sumAll l % 18446744073709551616 = 0) : sumAll (balL (fundsOf l)) % 18446744073709551616 = 0 := by
  have h1 := fundsOf_sum l
  have h2 := balL_sum (fundsOf l)
  omega
end Go.Proofs.Ytombdkebjbhacaa
