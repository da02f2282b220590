/-
  The texts PreP, EncP, PreO joined. Conditions: those that each part says at its head.
-/
import Derived.Test.YtlcbmobdokicaaaGreatCtlM
import Derived.Test.YtlcbmobdokicaaaGreatDocM
import Derived.Test.YtlcbmobdokicaaaGreatAmtV
import Derived.Test.YtlcbmobdokicaaaGreatYrB

/-
  Pre-encumbrances and encumbrances over plain lists: what charges of lines leave, what New and Take answer and leave. No program; no condition beyond what each says.
-/
namespace Go.Proofs.YtlcbmobdokicaaaGreat
open Go.RowKit Go.Maps
set_option maxRecDepth 100000
set_option linter.unusedVariables false

/-- What is wrong with lines. -/
def preChk (l : List Ln) : Int := if l.length < 1 ∨ l.length > 6 ∨ (l.any fun x => !amtRightB x.a) = true then 1 else 0
def lineD (x : Ln) : Dl := ⟨x.n, x.a, 0, 0⟩
theorem lineD_ok {x : Ln} (h : LnOk x) : DlOk (lineD x) := by
  intro v hv
  simp only [lineD, List.mem_cons, List.not_mem_nil, or_false] at hv
  rcases hv with rfl | rfl | rfl | rfl
  · exact h.2.2.1
  · exact h.2.2.2
  · omega
  · omega
/-- A charge of a node: who, and how much. -/
structure Chg where
  i : Int
  p : Int
  e : Int
  q : Int
def ChgOk (x : Chg) : Prop := Nd64 x.i ∧ Nd64 x.p ∧ Nd64 x.e ∧ Nd64 x.q
/-- Charges, one behind the other, up to the first that is refused. -/
def runC (y : Int) : VS → Bool → List Chg → (Bool × Int) × VS
  | S, wn, [] => ((wn, 0), S)
  | S, wn, x :: r => if (chargeR S y x.i x.p x.e x.q).1.2 = 0 then runC y (chargeR S y x.i x.p x.e x.q).2 (wn || (chargeR S y x.i x.p x.e x.q).1.1) r else ((wn, (chargeR S y x.i x.p x.e x.q).1.2), (chargeR S y x.i x.p x.e x.q).2)
theorem runC_snoc {y : Int} {x : Chg} : ∀ {l : List Chg} {S : VS} {wn : Bool}, (runC y S wn l).1.2 = 0 → runC y S wn (l ++ [x]) =
    if (chargeR (runC y S wn l).2 y x.i x.p x.e x.q).1.2 = 0 then (((runC y S wn l).1.1 || (chargeR (runC y S wn l).2 y x.i x.p x.e x.q).1.1, 0), (chargeR (runC y S wn l).2 y x.i x.p x.e x.q).2) else (((runC y S wn l).1.1, (chargeR (runC y S wn l).2 y x.i x.p x.e x.q).1.2), (chargeR (runC y S wn l).2 y x.i x.p x.e x.q).2)
  | [], S, wn, _ => rfl
  | z :: l, S, wn, h => by
    unfold runC at h
    rw [List.cons_append]
    by_cases e : (chargeR S y z.i z.p z.e z.q).1.2 = 0
    · rw [if_pos e] at h
      have e1 : ∀ r, runC y S wn (z :: r) = runC y (chargeR S y z.i z.p z.e z.q).2 (wn || (chargeR S y z.i z.p z.e z.q).1.1) r := fun r => if_pos e
      rw [e1, e1]
      exact runC_snoc h
    · rw [if_neg e] at h
      exact absurd h e
/-- Up to j charges were done; the next is refused: so are all. -/
theorem runC_stop {y : Int} {x : Chg} {r : List Chg} : ∀ {l : List Chg} {S : VS} {wn : Bool}, (runC y S wn l).1.2 = 0 → (chargeR (runC y S wn l).2 y x.i x.p x.e x.q).1.2 ≠ 0 → runC y S wn (l ++ x :: r) = (((runC y S wn l).1.1, (chargeR (runC y S wn l).2 y x.i x.p x.e x.q).1.2), (chargeR (runC y S wn l).2 y x.i x.p x.e x.q).2)
  | [], S, wn, _, h => if_neg h
  | z :: l, S, wn, h, h2 => by
    unfold runC at h
    rw [List.cons_append]
    by_cases e : (chargeR S y z.i z.p z.e z.q).1.2 = 0
    · rw [if_pos e] at h
      have e1 : ∀ r, runC y S wn (z :: r) = runC y (chargeR S y z.i z.p z.e z.q).2 (wn || (chargeR S y z.i z.p z.e z.q).1.1) r := fun r => if_pos e
      rw [e1] at h2 ⊢
      rw [e1]
      exact runC_stop h h2
    · rw [if_neg e] at h
      exact absurd h e
theorem runC_take {y : Int} {S : VS} {wn : Bool} {l : List Chg} {j : Nat} {x : Chg} (hx : l[j]? = some x) (h : (runC y S wn (l.take j)).1.2 = 0) : runC y S wn (l.take (j + 1)) =
    if (chargeR (runC y S wn (l.take j)).2 y x.i x.p x.e x.q).1.2 = 0 then (((runC y S wn (l.take j)).1.1 || (chargeR (runC y S wn (l.take j)).2 y x.i x.p x.e x.q).1.1, 0), (chargeR (runC y S wn (l.take j)).2 y x.i x.p x.e x.q).2) else (((runC y S wn (l.take j)).1.1, (chargeR (runC y S wn (l.take j)).2 y x.i x.p x.e x.q).1.2), (chargeR (runC y S wn (l.take j)).2 y x.i x.p x.e x.q).2) := by
  obtain ⟨hj, rfl⟩ := List.getElem?_eq_some_iff.1 hx
  rw [List.take_succ_eq_append_getElem hj, runC_snoc h]
theorem runC_bad {y : Int} {S : VS} {wn : Bool} {l : List Chg} {j : Nat} {x : Chg} (hx : l[j]? = some x) (h : (runC y S wn (l.take j)).1.2 = 0) (h2 : (chargeR (runC y S wn (l.take j)).2 y x.i x.p x.e x.q).1.2 ≠ 0) :
    runC y S wn l = (((runC y S wn (l.take j)).1.1, (chargeR (runC y S wn (l.take j)).2 y x.i x.p x.e x.q).1.2), (chargeR (runC y S wn (l.take j)).2 y x.i x.p x.e x.q).2) := by
  obtain ⟨hj, rfl⟩ := List.getElem?_eq_some_iff.1 hx
  have e : l = l.take j ++ l[j] :: l.drop (j + 1) := by rw [List.getElem_cons_drop, List.take_append_drop]
  have := runC_stop (x := l[j]) (r := l.drop (j + 1)) h h2
  rwa [← e] at this
theorem putNs_W : ∀ (Q : List Nd) (S : VS), (Q.foldl VS.putN S).W = S.W
  | [], S => rfl
  | x :: Q, S => by rw [List.foldl_cons, putNs_W Q]; rfl
theorem charge_W (S : VS) (y i p e q : Int) : (chargeR S y i p e q).2.W = S.W := by
  unfold chargeR
  split
  · rfl
  · split
    · rfl
    · split
      · exact putNs_W _ _
      · rfl
theorem runC_W (y : Int) : ∀ (l : List Chg) (S : VS) (wn : Bool), (runC y S wn l).2.W = S.W
  | [], S, wn => rfl
  | x :: r, S, wn => by
    unfold runC
    split
    · rw [runC_W y r, charge_W]
    · exact charge_W _ _ _ _ _ _
theorem many_runC (y : Int) : ∀ (l : List Chg) {S : VS} {n : Nat} (wn : Bool), ManyS S n → ManyS (runC y S wn l).2 (n + 8 * l.length)
  | [], S, n, wn, h => h
  | x :: r, S, n, wn, h => by
    unfold runC
    rw [List.length_cons]
    split
    · exact (many_runC y r _ (many_charge h y x.i x.p x.e x.q)).more (by omega)
    · exact (many_charge h y x.i x.p x.e x.q).more (by omega)
theorem putLs_W_ (i : Int) : ∀ (l : List Dl) (S : VS) (j : Nat), (putLs S i j l).W = S.W
  | [], S, j => rfl
  | x :: r, S, j => by
    show (putLs (S.putL i j x) i (j + 1) r).W = S.W
    rw [putLs_W_ i r]
    rfl
theorem next_W_ (S : VS) (n : Int) : (S.next n).W = S.W := by
  unfold VS.next
  split <;> rfl
theorem putDoc_W_ (S : VS) (d : Dc) (l : List Dl) : (putDoc S d l).2.W = S.W := by
  unfold putDoc
  split
  · rfl
  · split
    · show (putLs (S.next 2) _ 0 l).W = S.W
      rw [putLs_W_, next_W_]
    · rfl
theorem setLine_W_ (S : VS) (i j : Int) (x : Dl) : (setLine S i j x).2.W = S.W := by
  unfold setLine
  split
  · rfl
  · split <;> rfl
/-- What a year's check answers. -/
def yChk (S : VS) (y : Int) : Int := chkE (stV (S.now (yKey y)))
/-- A document of lines, behind charges; k: its kind, f: from which. -/
def orderR (S : VS) (y k f : Int) (cs : List Chg) (ls : List Dl) : (Int × Bool × Int) × VS :=
  if (runC y S false cs).1.2 = 0 then
    (if (putDoc (runC y S false cs).2 ⟨0, k, y, f, 0⟩ ls).1.2 = 0 then (((putDoc (runC y S false cs).2 ⟨0, k, y, f, 0⟩ ls).1.1, (runC y S false cs).1.1, 0), (putDoc (runC y S false cs).2 ⟨0, k, y, f, 0⟩ ls).2)
    else ((0, false, (putDoc (runC y S false cs).2 ⟨0, k, y, f, 0⟩ ls).1.2), (putDoc (runC y S false cs).2 ⟨0, k, y, f, 0⟩ ls).2))
  else ((0, false, (runC y S false cs).1.2), (runC y S false cs).2)
theorem orderR_W (S : VS) (y k f : Int) (cs : List Chg) (ls : List Dl) : (orderR S y k f cs ls).2.W = S.W := by
  unfold orderR
  split
  · split
    · exact (putDoc_W_ _ _ _).trans (runC_W _ _ _ _)
    · exact (putDoc_W_ _ _ _).trans (runC_W _ _ _ _)
  · exact runC_W _ _ _ _
theorem many_order {S : VS} {n : Nat} (h : ManyS S n) (y k f : Int) (cs : List Chg) (ls : List Dl) : ManyS (orderR S y k f cs ls).2 (n + 8 * cs.length + 8) := by
  unfold orderR
  split
  · split
    · exact many_putDoc (many_runC y cs false h) _ _
    · exact many_putDoc (many_runC y cs false h) _ _
  · exact (many_runC y cs false h).more (by omega)
def preC (x : Ln) : Chg := ⟨x.n, x.a, 0, 0⟩
/-- What pre.New answers, and leaves. -/
def preNew (S : VS) (y : Int) (l : List Ln) : (Int × Bool × Int) × VS :=
  if yChk S y = 0 then (if preChk l = 0 then orderR S y 1 0 (l.map preC) (l.map lineD) else ((0, false, 1), S)) else ((0, false, yChk S y), S)
theorem preChk_len {l : List Ln} (h : preChk l = 0) : 1 ≤ l.length ∧ l.length ≤ 6 ∧ ∀ x ∈ l, 1 ≤ x.a ∧ x.a ≤ 9007199254740992 := by
  unfold preChk at h
  split at h
  · cases h
  · rename_i hh
    rw [not_or, not_or, Bool.not_eq_true] at hh
    refine ⟨by omega, by omega, fun x hx => ?_⟩
    have := List.any_eq_false.1 hh.2.2 x hx
    simp only [Bool.not_eq_true, Bool.not_eq_false'] at this
    unfold amtRightB at this
    simpa using this
theorem preNew_W (S : VS) (y : Int) (l : List Ln) : (preNew S y l).2.W = S.W := by
  unfold preNew
  split
  · split
    · exact orderR_W _ _ _ _ _ _
    · rfl
  · rfl
theorem many_preNew {S : VS} {n : Nat} (h : ManyS S n) (y : Int) (l : List Ln) : ManyS (preNew S y l).2 (n + 56) := by
  unfold preNew
  split
  · split
    · rename_i hp
      have := preChk_len hp
      exact (many_order h _ _ _ _ _).more (by rw [List.length_map]; omega)
    · exact h.more (by omega)
  · exact h.more (by omega)
end Go.Proofs.YtlcbmobdokicaaaGreat

/-
  Take and New of encumbrances over plain lists. No program; no condition beyond what each says.
-/
namespace Go.Proofs.YtlcbmobdokicaaaGreat
open Go.RowKit Go.Maps
set_option maxRecDepth 100000
set_option linter.unusedVariables false

/-- A line from which so much is taken. -/
def liqL (z : Dl) (a : Int) : Dl := ⟨z.nd, z.o, wrap64 (z.l + a), z.c⟩
theorem liqL_ok {z : Dl} (h : DlOk z) (a : Int) : DlOk (liqL z a) := by
  intro v hv
  simp only [liqL, List.mem_cons, List.not_mem_nil, or_false] at hv
  rcases hv with rfl | rfl | rfl | rfl
  · exact h _ (by simp)
  · exact h _ (by simp)
  · unfold wrap64; omega
  · exact h _ (by simp)
/-- What is wrong with taking one. -/
def liqE (st : List Dl) (x : Ln) : Int := if x.n < 0 ∨ x.n ≥ (st.length : Int) then 7 else if openL (st[x.n.toNat]?.getD dlNil) < x.a then 12 else 0
def liqN (st : List Dl) (x : Ln) : List Dl := st.set x.n.toNat (liqL (st[x.n.toNat]?.getD dlNil) x.a)
def liqK (st : List Dl) (x : Ln) : Dl := ⟨(st[x.n.toNat]?.getD dlNil).nd, x.a, 0, 0⟩
/-- What stands then, what was taken, and the error. -/
def liqR : List Dl → List Ln → (List Dl × List Dl) × Int
  | st, [] => ((st, []), 0)
  | st, x :: r => if liqE st x = 0 then (((liqR (liqN st x) r).1.1, liqK st x :: (liqR (liqN st x) r).1.2), (liqR (liqN st x) r).2) else ((st, []), liqE st x)
theorem liqN_len (st : List Dl) (x : Ln) : (liqN st x).length = st.length := List.length_set
theorem liqR_len : ∀ (l : List Ln) (st : List Dl), (liqR st l).1.1.length = st.length
  | [], st => rfl
  | x :: r, st => by
    unfold liqR
    split
    · exact (liqR_len r _).trans (liqN_len st x)
    · rfl
theorem liqR_taken : ∀ (l : List Ln) (st : List Dl), (liqR st l).2 = 0 → (liqR st l).1.2.length = l.length
  | [], st, _ => rfl
  | x :: r, st, h => by
    unfold liqR at h ⊢
    split at h
    · rename_i e
      rw [if_pos e, List.length_cons, List.length_cons, liqR_taken r _ h]
    · rename_i e
      exact absurd h e
theorem liqE_zero {st : List Dl} {x : Ln} (h : liqE st x = 0) : 0 ≤ x.n ∧ x.n < (st.length : Int) ∧ x.a ≤ openL (st[x.n.toNat]?.getD dlNil) := by
  unfold liqE at h
  split at h
  · cases h
  · rename_i g
    split at h
    · cases h
    · omega
theorem liqR_snoc {x : Ln} : ∀ {l : List Ln} {st : List Dl}, (liqR st l).2 = 0 → liqR st (l ++ [x]) = if liqE (liqR st l).1.1 x = 0 then ((liqN (liqR st l).1.1 x, (liqR st l).1.2 ++ [liqK (liqR st l).1.1 x]), 0) else (((liqR st l).1.1, (liqR st l).1.2), liqE (liqR st l).1.1 x)
  | [], st, _ => rfl
  | z :: l, st, h => by
    unfold liqR at h
    rw [List.cons_append]
    by_cases e : liqE st z = 0
    · rw [if_pos e] at h
      have e1 : ∀ r, liqR st (z :: r) = (((liqR (liqN st z) r).1.1, liqK st z :: (liqR (liqN st z) r).1.2), (liqR (liqN st z) r).2) := fun r => if_pos e
      rw [e1, e1, liqR_snoc h]
      simp only []
      split <;> rfl
    · rw [if_neg e] at h
      exact absurd h e
theorem liqR_stop {x : Ln} {r : List Ln} : ∀ {l : List Ln} {st : List Dl}, (liqR st l).2 = 0 → liqE (liqR st l).1.1 x ≠ 0 → (liqR st (l ++ x :: r)).2 = liqE (liqR st l).1.1 x
  | [], st, _, h => by
    have h' : ¬ liqE st x = 0 := h
    show (liqR st (x :: r)).2 = liqE st x
    have e1 : liqR st (x :: r) = ((st, []), liqE st x) := if_neg h'
    rw [e1]
  | z :: l, st, h, h2 => by
    unfold liqR at h
    rw [List.cons_append]
    by_cases e : liqE st z = 0
    · rw [if_pos e] at h
      have e1 : ∀ r, liqR st (z :: r) = (((liqR (liqN st z) r).1.1, liqK st z :: (liqR (liqN st z) r).1.2), (liqR (liqN st z) r).2) := fun r => if_pos e
      rw [e1] at h2 ⊢
      rw [e1]
      exact liqR_stop h h2
    · rw [if_neg e] at h
      exact absurd h e
theorem liqR_take {st : List Dl} {l : List Ln} {j : Nat} {x : Ln} (hx : l[j]? = some x) (h : (liqR st (l.take j)).2 = 0) : liqR st (l.take (j + 1)) = if liqE (liqR st (l.take j)).1.1 x = 0 then ((liqN (liqR st (l.take j)).1.1 x, (liqR st (l.take j)).1.2 ++ [liqK (liqR st (l.take j)).1.1 x]), 0) else (((liqR st (l.take j)).1.1, (liqR st (l.take j)).1.2), liqE (liqR st (l.take j)).1.1 x) := by
  obtain ⟨hj, rfl⟩ := List.getElem?_eq_some_iff.1 hx
  rw [List.take_succ_eq_append_getElem hj, liqR_snoc h]
theorem liqR_bad {st : List Dl} {l : List Ln} {j : Nat} {x : Ln} (hx : l[j]? = some x) (h : (liqR st (l.take j)).2 = 0) (h2 : liqE (liqR st (l.take j)).1.1 x ≠ 0) : (liqR st l).2 = liqE (liqR st (l.take j)).1.1 x := by
  obtain ⟨hj, rfl⟩ := List.getElem?_eq_some_iff.1 hx
  have e : l = l.take j ++ l[j] :: l.drop (j + 1) := by rw [List.getElem_cons_drop, List.take_append_drop]
  have := liqR_stop (x := l[j]) (r := l.drop (j + 1)) h h2
  rwa [← e] at this
theorem liqR_ok : ∀ {l : List Ln} {st : List Dl}, (∀ z ∈ st, DlOk z) → (∀ x ∈ l, LnOk x) → (∀ z ∈ (liqR st l).1.1, DlOk z) ∧ ∀ z ∈ (liqR st l).1.2, DlOk z
  | [], st, h, _ => ⟨h, fun z hz => by cases hz⟩
  | x :: r, st, h, hl => by
    unfold liqR
    split
    · rename_i e
      obtain ⟨e1, e2, e3⟩ := liqE_zero e
      have hz : DlOk (st[x.n.toNat]?.getD dlNil) := by
        rw [List.getElem?_eq_getElem (by omega), Option.getD_some]
        exact h _ (List.getElem_mem _)
      obtain ⟨i1, i2⟩ := liqR_ok (l := r) (st := liqN st x) (fun z hz' => by
        unfold liqN at hz'
        rcases List.mem_or_eq_of_mem_set hz' with hz' | rfl
        · exact h z hz'
        · exact liqL_ok hz _) fun z hz' => hl z (List.mem_cons_of_mem _ hz')
      refine ⟨i1, fun z hz' => ?_⟩
      rcases List.mem_cons.1 hz' with rfl | hz'
      · intro v hv
        simp only [liqK, List.mem_cons, List.not_mem_nil, or_false] at hv
        rcases hv with rfl | rfl | rfl | rfl
        · exact hz _ (by simp)
        · exact (hl x List.mem_cons_self).2.2.2
        · omega
        · omega
      · exact i2 z hz'
    · exact ⟨h, fun z hz => by cases hz⟩
/-- Lines set one by one, each as it stands in the end. -/
def setsF (f : Int) (st : List Dl) (l : List Ln) (S : VS) : VS := l.foldl (fun S x => S.putL f x.n (st[x.n.toNat]?.getD dlNil)) S
/-- Lines set one by one, each as it stands then. -/
def setsJ (f : Int) : VS → List Dl → List Ln → VS
  | S, st, [] => S
  | S, st, x :: r => setsJ f (S.putL f x.n (liqL (st[x.n.toNat]?.getD dlNil) x.a)) (liqN st x) r
theorem setsF_W (f : Int) (st : List Dl) : ∀ (l : List Ln) (S : VS), (setsF f st l S).W = S.W
  | [], S => rfl
  | x :: r, S => setsF_W f st r (S.putL f x.n (st[x.n.toNat]?.getD dlNil))
theorem setsJ_W (f : Int) : ∀ (l : List Ln) (st : List Dl) (S : VS), (setsJ f S st l).W = S.W
  | [], st, S => rfl
  | x :: r, st, S => setsJ_W f r (liqN st x) (S.putL f x.n (liqL (st[x.n.toNat]?.getD dlNil) x.a))
theorem setsJ_take (f : Int) {x : Ln} : ∀ {l : List Ln} {st : List Dl} {S : VS}, (liqR st l).2 = 0 → setsJ f S st (l ++ [x]) = (setsJ f S st l).putL f x.n (liqL ((liqR st l).1.1[x.n.toNat]?.getD dlNil) x.a)
  | [], st, S, _ => rfl
  | z :: l, st, S, h => by
    unfold liqR at h
    by_cases e : liqE st z = 0
    · rw [if_pos e] at h
      have e1 : liqR st (z :: l) = (((liqR (liqN st z) l).1.1, liqK st z :: (liqR (liqN st z) l).1.2), (liqR (liqN st z) l).2) := if_pos e
      rw [e1]
      exact setsJ_take f h
    · rw [if_neg e] at h
      exact absurd h e
theorem many_putL {S : VS} {n : Nat} (h : ManyS S n) (i j : Int) (x : Dl) : ManyS (S.putL i j x) (n + 1) := h.put (by rw [tx_length, lKyLen]; omega) _
theorem many_setsF (f : Int) (st : List Dl) : ∀ (l : List Ln) {S : VS} {n : Nat}, ManyS S n → ManyS (setsF f st l S) (n + l.length)
  | [], S, n, h => h
  | x :: r, S, n, h => (many_setsF f st r (many_putL h f x.n (st[x.n.toNat]?.getD dlNil))).more (by rw [List.length_cons]; omega)
theorem many_setsJ (f : Int) : ∀ (l : List Ln) (st : List Dl) {S : VS} {n : Nat}, ManyS S n → ManyS (setsJ f S st l) (n + l.length)
  | [], st, S, n, h => h
  | x :: r, st, S, n, h => (many_setsJ f r (liqN st x) (many_putL h f x.n (liqL (st[x.n.toNat]?.getD dlNil) x.a))).more (by rw [List.length_cons]; omega)
theorem vs_ext {S T : VS} (hS : S.Ok) (hT : T.Ok) (hW : S.W = T.W) (h : ∀ z, lookT S.C z = lookT T.C z) : S = T := by
  obtain ⟨W, C⟩ := S
  obtain ⟨W', C'⟩ := T
  simp only at hW h
  have hc : C = C' := RiseT.ext hS.c hT.c h
  subst hW hc
  rfl
theorem ok_putL {S : VS} (h : S.Ok) (i j : Int) (x : Dl) : (S.putL i j x).Ok := h.put _ _
theorem setsF_ok (f : Int) (st : List Dl) : ∀ (l : List Ln) {S : VS}, S.Ok → (setsF f st l S).Ok
  | [], S, h => h
  | x :: r, S, h => setsF_ok f st r (ok_putL h f x.n (st[x.n.toNat]?.getD dlNil))
theorem setsJ_ok (f : Int) : ∀ (l : List Ln) (st : List Dl) {S : VS}, S.Ok → (setsJ f S st l).Ok
  | [], st, S, h => h
  | x :: r, st, S, h => setsJ_ok f r (liqN st x) (ok_putL h f x.n (liqL (st[x.n.toNat]?.getD dlNil) x.a))
theorem lookC_putL {S : VS} (h : S.Ok) (i j : Int) (x : Dl) (z : Txt) : lookT (S.putL i j x).C z = if lKy i j = z then some (some (dlVal x)) else lookT S.C z := lookT_setT h.c _ _ _
/-- Places of lines. -/
def InPl (N : Nat) (l : List Ln) : Prop := ∀ x ∈ l, 0 ≤ x.n ∧ x.n < (N : Int)
theorem place_inj {f a b : Int} {N : Nat} (hN : N ≤ 6) (ha : 0 ≤ a ∧ a < (N : Int)) (hb : 0 ≤ b ∧ b < (N : Int)) (h : lKy f a = lKy f b) : a = b := lKy_inj ((held32_iff _).2 (by omega)) ((held32_iff _).2 (by omega)) h
theorem setsF_other {f : Int} {st : List Dl} {z : Txt} : ∀ {l : List Ln} {S : VS}, S.Ok → (∀ x ∈ l, lKy f x.n ≠ z) → lookT (setsF f st l S).C z = lookT S.C z
  | [], S, h, _ => rfl
  | x :: r, S, h, hz => by
    show lookT (setsF f st r (S.putL f x.n (st[x.n.toNat]?.getD dlNil))).C z = _
    rw [setsF_other (ok_putL h _ _ _) fun y hy => hz y (List.mem_cons_of_mem _ hy), lookC_putL h, if_neg (hz x List.mem_cons_self)]
theorem setsF_one {f : Int} {st : List Dl} {z : Txt} {N : Nat} (hN : N ≤ 6) : ∀ {l : List Ln} {S : VS}, S.Ok → InPl N l → ∀ x ∈ l, lKy f x.n = z → lookT (setsF f st l S).C z = some (some (dlVal (st[x.n.toNat]?.getD dlNil)))
  | y :: r, S, h, hp, x, hx, hz => by
    show lookT (setsF f st r (S.putL f y.n (st[y.n.toNat]?.getD dlNil))).C z = _
    by_cases hr : ∃ u ∈ r, lKy f u.n = z
    · obtain ⟨u, hu, huz⟩ := hr
      rw [setsF_one hN (ok_putL h _ _ _) (fun a ha => hp a (List.mem_cons_of_mem _ ha)) u hu huz, place_inj hN (hp u (List.mem_cons_of_mem _ hu)) (hp x hx) (huz.trans hz.symm)]
    · rw [setsF_other (ok_putL h _ _ _) fun u hu e => hr ⟨u, hu, e⟩, lookC_putL h]
      rcases List.mem_cons.1 hx with rfl | hx
      · rw [if_pos hz]
      · exact absurd ⟨x, hx, hz⟩ hr
theorem setsJ_other {f : Int} {z : Txt} : ∀ {l : List Ln} {st : List Dl} {S : VS}, S.Ok → (∀ x ∈ l, lKy f x.n ≠ z) → lookT (setsJ f S st l).C z = lookT S.C z
  | [], st, S, h, _ => rfl
  | x :: r, st, S, h, hz => by
    show lookT (setsJ f (S.putL f x.n (liqL (st[x.n.toNat]?.getD dlNil) x.a)) (liqN st x) r).C z = _
    rw [setsJ_other (ok_putL h _ _ _) fun y hy => hz y (List.mem_cons_of_mem _ hy), lookC_putL h, if_neg (hz x List.mem_cons_self)]
theorem liqR_cons {st : List Dl} {x : Ln} {r : List Ln} (h : (liqR st (x :: r)).2 = 0) : liqE st x = 0 ∧ (liqR (liqN st x) r).2 = 0 ∧ (liqR st (x :: r)).1.1 = (liqR (liqN st x) r).1.1 := by
  by_cases e : liqE st x = 0
  · have e1 : liqR st (x :: r) = (((liqR (liqN st x) r).1.1, liqK st x :: (liqR (liqN st x) r).1.2), (liqR (liqN st x) r).2) := if_pos e
    rw [e1] at h ⊢
    exact ⟨e, h, rfl⟩
  · have e1 : liqR st (x :: r) = ((st, []), liqE st x) := if_neg e
    rw [e1] at h
    exact absurd h e
theorem liqR_places : ∀ {l : List Ln} {st : List Dl}, (liqR st l).2 = 0 → InPl st.length l
  | [], st, _ => fun x hx => by cases hx
  | x :: r, st, h => by
    obtain ⟨e, h2, _⟩ := liqR_cons h
    have := liqE_zero e
    intro y hy
    rcases List.mem_cons.1 hy with rfl | hy
    · exact ⟨this.1, this.2.1⟩
    · have := liqR_places h2 y hy
      rwa [liqN_len] at this
theorem liqR_at {k : Int} : ∀ {l : List Ln} {st : List Dl}, (liqR st l).2 = 0 → 0 ≤ k → (∀ x ∈ l, x.n ≠ k) → (liqR st l).1.1[k.toNat]? = st[k.toNat]?
  | [], st, _, _, _ => rfl
  | x :: r, st, h, hk, hz => by
    obtain ⟨e, h2, h3⟩ := liqR_cons h
    rw [h3, liqR_at h2 hk fun y hy => hz y (List.mem_cons_of_mem _ hy)]
    unfold liqN
    have := liqE_zero e
    rw [List.getElem?_set_ne]
    intro q
    exact hz x List.mem_cons_self (by omega)
theorem setsJ_one {f : Int} {z : Txt} {N : Nat} (hN : N ≤ 6) : ∀ {l : List Ln} {st : List Dl} {S : VS}, S.Ok → st.length = N → (liqR st l).2 = 0 → ∀ x ∈ l, lKy f x.n = z → lookT (setsJ f S st l).C z = some (some (dlVal ((liqR st l).1.1[x.n.toNat]?.getD dlNil)))
  | y :: r, st, S, h, hst, hq, x, hx, hz => by
    have hp := liqR_places hq
    rw [hst] at hp
    obtain ⟨e, h2, h3⟩ := liqR_cons hq
    show lookT (setsJ f (S.putL f y.n (liqL (st[y.n.toNat]?.getD dlNil) y.a)) (liqN st y) r).C z = _
    rw [h3]
    by_cases hr : ∃ u ∈ r, lKy f u.n = z
    · obtain ⟨u, hu, huz⟩ := hr
      rw [setsJ_one hN (ok_putL h _ _ _) ((liqN_len st y).trans hst) h2 u hu huz, place_inj hN (hp u (List.mem_cons_of_mem _ hu)) (hp x hx) (huz.trans hz.symm)]
    · rw [setsJ_other (ok_putL h _ _ _) fun u hu e => hr ⟨u, hu, e⟩, lookC_putL h]
      rcases List.mem_cons.1 hx with rfl | hx
      · have hy := hp x List.mem_cons_self
        rw [if_pos hz, liqR_at h2 hy.1 fun u hu q => hr ⟨u, hu, by rw [q]; exact hz⟩]
        unfold liqN
        rw [List.getElem?_set_self (by omega), Option.getD_some]
      · exact absurd ⟨x, hx, hz⟩ hr
/-- Both orders leave the same. -/
theorem sets_same {f : Int} {S : VS} (hS : S.Ok) {st : List Dl} {l : List Ln} (hst : st.length ≤ 6) (h : (liqR st l).2 = 0) : setsF f (liqR st l).1.1 l S = setsJ f S st l := by
  refine vs_ext (setsF_ok _ _ _ hS) (setsJ_ok _ _ _ hS) ((setsF_W _ _ _ _).trans (setsJ_W _ _ _ _).symm) fun z => ?_
  by_cases hz : ∃ x ∈ l, lKy f x.n = z
  · obtain ⟨x, hx, e⟩ := hz
    rw [setsF_one hst hS (liqR_places h) x hx e, setsJ_one hst hS rfl h x hx e]
  · rw [setsF_other hS fun x hx e => hz ⟨x, hx, e⟩, setsJ_other hS fun x hx e => hz ⟨x, hx, e⟩]
/-- A document with one line another. -/
theorem lineAt_putL {S : VS} (h : S.Ok) {i j k : Int} {x : Dl} (hi : held32 i = true) (hj : held32 j = true) (hk : held32 k = true) (hx : DlOk x) : lineAt (S.putL i j x) i k = if j = k then some x else lineAt S i k := by
  unfold lineAt VS.putL
  rw [h.now_put]
  by_cases e : j = k
  · subst e
    rw [if_pos rfl, if_pos rfl, Option.getD_some]
    exact dlK_made hx hi hj
  · rw [if_neg e, if_neg fun q => e (lKy_inj hj hk q)]
theorem docAt_putL {S : VS} (h : S.Ok) (i j k : Int) (x : Dl) : docAt (S.putL i j x) k = docAt S k := by
  unfold docAt VS.putL
  rw [h.now_put, if_neg (tag_apart (by omega) (by omega) (by omega) _ _)]
theorem linesAt_putL {S : VS} (h : S.Ok) {i : Int} {j : Nat} {x : Dl} (hi : held32 i = true) (hx : DlOk x) (hj6 : j < 100) : ∀ {n : Nat} {l : List Dl}, n ≤ 100 → linesAt S i n = some l → linesAt (S.putL i j x) i n = some (l.set j x)
  | 0, l, _, hl => by cases hl; rfl
  | n + 1, l, hn, hl => by
    have hlen := linesAt_len hl
    unfold linesAt at hl ⊢
    cases h1 : linesAt S i n with
    | none => rw [h1] at hl; cases hl
    | some l0 =>
      rw [h1] at hl
      simp only at hl
      have hl0 := linesAt_len h1
      rw [linesAt_putL h hi hx hj6 (by omega) h1]
      simp only []
      rw [lineAt_putL h hi ((held32_iff _).2 (by omega)) ((held32_iff _).2 (by omega)) hx]
      cases h2 : lineAt S i n with
      | none => rw [h2] at hl; cases hl
      | some u =>
        rw [h2] at hl
        cases hl
        by_cases e : (j : Int) = (n : Int)
        · have e' : j = n := by omega
          subst e'
          rw [if_pos rfl]
          simp only []
          rw [List.set_append_right _ _ (by omega), List.set_eq_of_length_le (by omega), hl0, Nat.sub_self]
          rfl
        · rw [if_neg e]
          simp only []
          rcases Nat.lt_or_ge j n with hlt | hge
          · rw [List.set_append_left _ _ (by omega)]
          · rw [List.set_eq_of_length_le (by omega), List.set_eq_of_length_le (by rw [List.length_append, List.length_singleton]; omega)]
theorem docGet_parts {S : VS} {i : Int} {d : Dc} {l : List Dl} (h : docGet S i = some (d, l)) : held32 i = true ∧ docAt S i = some d ∧ docIn d = true ∧ linesAt S i d.n.toNat = some l ∧ 1 ≤ l.length ∧ l.length ≤ 6 ∧ d.n = l.length := by
  unfold docGet at h
  split at h
  · rename_i hh
    split at h
    · cases h
    · rename_i d' hd
      split at h
      · rename_i hin
        obtain ⟨l', hl', e⟩ := Option.map_eq_some_iff.1 h
        cases e
        have hlen := linesAt_len hl'
        have hin' := hin
        unfold docIn at hin'
        simp only [Bool.and_eq_true, decide_eq_true_eq] at hin'
        exact ⟨hh, hd, hin, hl', by omega, by omega, by omega⟩
      · cases h
  · cases h
theorem docGet_of {S : VS} {i : Int} {d : Dc} {l : List Dl} (h1 : held32 i = true) (h2 : docAt S i = some d) (h3 : docIn d = true) (h4 : linesAt S i d.n.toNat = some l) : docGet S i = some (d, l) := by
  unfold docGet
  rw [if_pos h1, h2]
  simp only []
  rw [if_pos h3, h4]
  rfl
theorem docGet_putL {S : VS} (h : S.Ok) {i : Int} {d : Dc} {l : List Dl} (hg : docGet S i = some (d, l)) {j : Nat} (hj : j < l.length) {x : Dl} (hx : DlOk x) : docGet (S.putL i j x) i = some (d, l.set j x) := by
  obtain ⟨h1, h2, h3, h4, h5, h6, h7⟩ := docGet_parts hg
  exact docGet_of h1 ((docAt_putL h i j i x).trans h2) h3 (linesAt_putL h h1 hx (by omega) (by omega) h4)
/-- What Take answers, and leaves. -/
def takeR (S : VS) (k y f : Int) (l : List Ln) : (List Dl × Int) × VS :=
  match docGet S f with
  | none => (([], 7), S)
  | some (d, st) => if d.k ≠ k ∨ d.y ≠ y then (([], 12), S) else if (liqR st l).2 = 0 then (((liqR st l).1.2, 0), setsJ f S st l) else (([], (liqR st l).2), S)
theorem takeR_W (S : VS) (k y f : Int) (l : List Ln) : (takeR S k y f l).2.W = S.W := by
  unfold takeR
  split
  · rfl
  · split
    · rfl
    · split
      · exact setsJ_W _ _ _ _
      · rfl
theorem many_take {S : VS} {n : Nat} (h : ManyS S n) (k y f : Int) (l : List Ln) : ManyS (takeR S k y f l).2 (n + l.length) := by
  unfold takeR
  split
  · exact h.more (by omega)
  · split
    · exact h.more (by omega)
    · split
      · exact many_setsJ _ _ _ h
      · exact h.more (by omega)
theorem take_taken {S : VS} {k y f : Int} {l : List Ln} (h : (takeR S k y f l).1.2 = 0) : (takeR S k y f l).1.1.length = l.length := by
  unfold takeR at h ⊢
  cases hd : docGet S f with
  | none => rw [hd] at h; cases h
  | some u =>
    obtain ⟨d, st⟩ := u
    rw [hd] at h
    dsimp only at h ⊢
    by_cases g1 : d.k ≠ k ∨ d.y ≠ y
    · rw [if_pos g1] at h; cases h
    · rw [if_neg g1] at h ⊢
      by_cases g2 : (liqR st l).2 = 0
      · rw [if_pos g2]
        exact liqR_taken _ _ g2
      · rw [if_neg g2] at h
        exact absurd h g2
/-- What a document's line, that goes over or not, is charged. -/
def encC (over : Bool) (z : Dl) : Chg := ⟨z.nd, if over = true then wrap64 (-z.o) else 0, z.o, 0⟩
/-- What enc.New answers, and leaves. -/
def encNew (S : VS) (y f : Int) (l : List Ln) : (Int × Bool × Int) × VS :=
  if yChk S y = 0 then
    (if preChk l = 0 then
      (if f = 0 then orderR S y 2 0 ((l.map lineD).map (encC false)) (l.map lineD)
      else if (takeR S 1 y f l).1.2 = 0 then orderR (takeR S 1 y f l).2 y 2 f ((takeR S 1 y f l).1.1.map (encC true)) (takeR S 1 y f l).1.1
      else ((0, false, (takeR S 1 y f l).1.2), (takeR S 1 y f l).2))
    else ((0, false, 1), S))
  else ((0, false, yChk S y), S)
theorem encNew_W (S : VS) (y f : Int) (l : List Ln) : (encNew S y f l).2.W = S.W := by
  unfold encNew
  split
  · split
    · split
      · exact orderR_W _ _ _ _ _ _
      · split
        · exact (orderR_W _ _ _ _ _ _).trans (takeR_W _ _ _ _ _)
        · exact takeR_W _ _ _ _ _
    · rfl
  · rfl
theorem many_encNew {S : VS} {n : Nat} (h : ManyS S n) (y f : Int) (l : List Ln) : ManyS (encNew S y f l).2 (n + 62) := by
  unfold encNew
  split
  · split
    · rename_i hp
      have := preChk_len hp
      split
      · exact (many_order h _ _ _ _ _).more (by rw [List.length_map, List.length_map]; omega)
      · split
        · rename_i ht
          exact (many_order (many_take h 1 y f l) _ _ _ _ _).more (by rw [List.length_map, take_taken ht]; omega)
        · exact (many_take h 1 y f l).more (by omega)
    · exact h.more (by omega)
  · exact h.more (by omega)
end Go.Proofs.YtlcbmobdokicaaaGreat

/-
  Nodes behind puts, charges, and documents; a year with nodes as the laws of pre and enc begin. Plain facts; no condition beyond what each says.
-/
namespace Go.Proofs.YtlcbmobdokicaaaGreat
open Go.RowKit Go.Maps
set_option maxRecDepth 100000
set_option linter.unusedVariables false

section
variable {S : VS}
theorem putNs_ok : ∀ (Q : List Nd) {S : VS}, S.Ok → (Q.foldl VS.putN S).Ok
  | [], S, h => h
  | x :: Q, S, h => putNs_ok Q (S := S.putN x) (h.put _ _)
theorem putNs_other {z : Txt} (hz : ∀ y i, nKy y i ≠ z) : ∀ (Q : List Nd) {S : VS}, S.Ok → (Q.foldl VS.putN S).now z = S.now z
  | [], S, h => rfl
  | x :: Q, S, h => by
    rw [List.foldl_cons, putNs_other hz Q (S := S.putN x) (h.put _ _)]
    unfold VS.putN
    rw [h.now_put, if_neg (hz _ _)]
theorem nodeAt_putN (h : S.Ok) {y : Int} {x : Nd} (hok : NdOk x) (hy : x.y = y) (hyb : heldB y = true) (hib : heldB x.i = true) (i : Int) : nodeAt (S.putN x) y i = if x.i = i then some x else nodeAt S y i := by
  unfold nodeAt VS.putN
  rw [hy, h.now_put]
  by_cases e : x.i = i
  · subst e
    rw [if_pos rfl, if_pos rfl, hyb, hib, if_pos (show (true && true) = true from rfl), Option.getD_some]
    have := ndK_made hok (by rw [hy]; exact hyb) hib
    unfold ndKey at this
    rw [hy] at this
    exact this
  · rw [if_neg e]
    by_cases hh : (heldB y && heldB i) = true
    · rw [if_pos hh, if_pos hh]
      rw [Bool.and_eq_true] at hh
      rw [if_neg (fun q => e (nKy_inj hib hh.2 q))]
    · rw [if_neg hh, if_neg hh]
/-- Nodes that may be put into a year. -/
def InYear (y : Int) (Q : List Nd) : Prop := ∀ x ∈ Q, NdOk x ∧ x.y = y ∧ heldB x.i = true
theorem nodeAt_puts_not {y i : Int} (hyb : heldB y = true) : ∀ {Q : List Nd} {S : VS}, S.Ok → InYear y Q → (∀ x ∈ Q, x.i ≠ i) → nodeAt (Q.foldl VS.putN S) y i = nodeAt S y i
  | [], S, h, _, _ => rfl
  | x :: Q, S, h, hQ, hn => by
    obtain ⟨a, b, c⟩ := hQ x List.mem_cons_self
    rw [List.foldl_cons, nodeAt_puts_not hyb (S := S.putN x) (h.put _ _) (fun z hz => hQ z (List.mem_cons_of_mem _ hz)) fun z hz => hn z (List.mem_cons_of_mem _ hz), nodeAt_putN h a b hyb c, if_neg (hn x List.mem_cons_self)]
theorem nodeAt_puts_one {y i : Int} (hyb : heldB y = true) {z : Nd} : ∀ {Q : List Nd} {S : VS}, S.Ok → InYear y Q → z ∈ Q → z.i = i → (∀ x ∈ Q, x.i = i → x = z) → nodeAt (Q.foldl VS.putN S) y i = some z
  | x :: Q, S, h, hQ, hz, hi, hu => by
    obtain ⟨a, b, c⟩ := hQ x List.mem_cons_self
    rw [List.foldl_cons]
    by_cases hin : ∃ u ∈ Q, u.i = i
    · obtain ⟨u, hu1, hu2⟩ := hin
      have e := hu u (List.mem_cons_of_mem _ hu1) hu2
      exact nodeAt_puts_one hyb (S := S.putN x) (h.put _ _) (fun w hw => hQ w (List.mem_cons_of_mem _ hw)) (e ▸ hu1) hi fun w hw => hu w (List.mem_cons_of_mem _ hw)
    · rw [nodeAt_puts_not hyb (S := S.putN x) (h.put _ _) (fun w hw => hQ w (List.mem_cons_of_mem _ hw)) fun w hw e => hin ⟨w, hw, e⟩, nodeAt_putN h a b hyb c]
      rcases List.mem_cons.1 hz with rfl | hz
      · rw [if_pos hi]
      · exact absurd ⟨z, hz, hi⟩ hin
/-- A view in which another key was put has the same nodes. -/
theorem nodeAt_now_congr {S T : VS} (h : ∀ y i, S.now (nKy y i) = T.now (nKy y i)) (y i : Int) : nodeAt S y i = nodeAt T y i := by
  unfold nodeAt
  rw [h]
theorem nK_apart {t : Int} (ht : 0 ≤ t ∧ t < 256) (h : t ≠ 78) (l : List Int) (y i : Int) : tx (keyL t l) ≠ nKy y i := tag_apart ht (by omega) h _ _
theorem now_put_apart (h : S.Ok) {t : Int} (ht : 0 ≤ t ∧ t < 256) (hn : t ≠ 78) (l v : List Int) (y i : Int) : (S.put (tx (keyL t l)) v).now (nKy y i) = S.now (nKy y i) := by
  rw [h.now_put, if_neg (nK_apart ht hn l y i)]
theorem next_ok_ (h : S.Ok) (n : Int) : (S.next n).Ok := by
  unfold VS.next
  split
  · exact h
  · exact h.put _ _
theorem next_node (h : S.Ok) (n y i : Int) : (S.next n).now (nKy y i) = S.now (nKy y i) := by
  unfold VS.next
  split
  · rfl
  · exact now_put_apart h (by omega) (by omega) _ _ _ _
theorem putDoc_okV (h : S.Ok) (d : Dc) (l : List Dl) : (putDoc S d l).2.Ok := by
  unfold putDoc
  split
  · exact h
  · split
    · exact (putLs_ok _ l 0 (next_ok_ h 2)).put _ _
    · exact h
theorem putDoc_node (h : S.Ok) (d : Dc) (l : List Dl) (y i : Int) : (putDoc S d l).2.now (nKy y i) = S.now (nKy y i) := by
  unfold putDoc
  split
  · rfl
  · split
    · show ((putLs (S.next 2) _ 0 l).put (tx (keyL 68 _)) _).now (nKy y i) = _
      rw [now_put_apart (putLs_ok _ l 0 (next_ok_ h 2)) (by omega) (by omega), putLs_other _ (fun j e => nK_apart (t := 76) (by omega) (by omega) _ _ _ e.symm) l 0 (next_ok_ h 2), next_node h]
    · rfl
theorem setsJ_node (f : Int) : ∀ (l : List Ln) (st : List Dl) {S : VS}, S.Ok → ∀ y i, (setsJ f S st l).now (nKy y i) = S.now (nKy y i)
  | [], st, S, h, y, i => rfl
  | x :: r, st, S, h, y, i => by
    show (setsJ f (S.putL f x.n (liqL (st[x.n.toNat]?.getD dlNil) x.a)) (liqN st x) r).now (nKy y i) = _
    rw [setsJ_node f r (liqN st x) (ok_putL h _ _ _)]
    exact now_put_apart h (by omega) (by omega) _ _ _ _
/-- Nodes that are there may be put. -/
theorem path_in {S : VS} {y : Int} (hok : ∀ n, ∀ i, nodeAt S y i = some n → NdOk n) {k : Nat} {i : Int} : ∀ x ∈ pathN S y k i, NodeIn S y x := fun x hx => by
  have h := path_mem hx
  exact ⟨(nodeAt_id h).1, hok x _ h, by rw [h]; rfl⟩
theorem grown_in {y : Int} {P : List Nd} (h : ∀ x ∈ P, NdOk x ∧ x.y = y ∧ heldB x.i = true) (p e q : Int) : InYear y (P.map fun x => growN x p e q) := fun x hx => by
  obtain ⟨u, hu, rfl⟩ := List.mem_map.1 hx
  obtain ⟨a, b, c⟩ := h u hu
  refine ⟨?_, b, c⟩
  intro v hv
  simp only [growN, List.mem_cons, List.not_mem_nil, or_false] at hv
  rcases hv with rfl | rfl | rfl | rfl | rfl | rfl | rfl | rfl | rfl | rfl | rfl
  · exact a _ (by simp)
  · exact a _ (by simp)
  · exact a _ (by simp)
  · exact a _ (by simp)
  · exact a _ (by simp)
  · exact a _ (by simp)
  · unfold wrap64; omega
  · unfold wrap64; omega
  · unfold wrap64; omega
  · exact a _ (by simp)
  · exact a _ (by simp)
theorem path_nodes {y : Int} (hok : ∀ n, ∀ i, nodeAt S y i = some n → NdOk n) {k : Nat} {i : Int} : ∀ x ∈ pathN S y k i, NdOk x ∧ x.y = y ∧ heldB x.i = true := fun x hx => by
  have h := path_mem hx
  have g := nodeAt_id h
  exact ⟨hok x _ h, g.1, g.2.2.2⟩
/-- Behind a charge that was done: what each node is. -/
theorem charge_node (h : S.Ok) {y : Int} (hyb : heldB y = true) (hok : ∀ n, ∀ i, nodeAt S y i = some n → NdOk n) {i p e q : Int} (k : Int) :
    (∀ z ∈ pathN S y 8 i, z.i = k → nodeAt ((((pathN S y 8 i).map fun x => growN x p e q)).foldl VS.putN S) y k = some (growN z p e q)) ∧ ((∀ z ∈ pathN S y 8 i, z.i ≠ k) → nodeAt ((((pathN S y 8 i).map fun x => growN x p e q)).foldl VS.putN S) y k = nodeAt S y k) := by
  have hin := grown_in (path_nodes hok (k := 8) (i := i)) p e q
  refine ⟨fun z hz hk => ?_, fun hn => ?_⟩
  · refine nodeAt_puts_one hyb h hin (List.mem_map.2 ⟨z, hz, rfl⟩) hk fun x hx hxk => ?_
    obtain ⟨u, hu, rfl⟩ := List.mem_map.1 hx
    have h1 := path_mem hu
    have h2 := path_mem hz
    have : u.i = z.i := (show u.i = k from hxk).trans hk.symm
    rw [this, h2] at h1
    cases h1
    rfl
  · refine nodeAt_puts_not hyb h hin fun x hx => ?_
    obtain ⟨u, hu, rfl⟩ := List.mem_map.1 hx
    exact hn u hu
/-- The path of a view in which a path's nodes have grown. -/
theorem path_grown {S T : VS} {y p e q : Int} : ∀ {k : Nat} {i : Int}, (∀ z ∈ pathN S y k i, nodeAt T y z.i = some (growN z p e q)) → (∀ j, nodeAt S y j = none → nodeAt T y j = none) → pathN T y k i = (pathN S y k i).map fun x => growN x p e q
  | 0, i, _, _ => rfl
  | k + 1, i, h1, h2 => by
    unfold pathN at h1 ⊢
    cases hn : nodeAt S y i with
    | none => rw [h2 i hn]; rfl
    | some n =>
      have hi := (nodeAt_id hn).2.1
      rw [hn] at h1
      simp only [] at h1 ⊢
      by_cases h0 : n.p = 0
      · rw [if_pos h0] at h1 ⊢
        have := h1 n List.mem_cons_self
        rw [hi] at this
        rw [this]
        simp only []
        rw [if_pos (show (growN n p e q).p = 0 from h0)]
        rfl
      · rw [if_neg h0] at h1 ⊢
        have := h1 n List.mem_cons_self
        rw [hi] at this
        rw [this]
        simp only []
        rw [if_neg (show ¬ (growN n p e q).p = 0 from h0), List.map_cons]
        congr 1
        exact path_grown (fun z hz => h1 z (List.mem_cons_of_mem _ hz)) h2
end
/-- A node of the law's year. -/
def at20 (x : Nd) : Nd := ⟨2020, x.i, x.p, x.f, x.o, x.ab, x.li, x.pr, x.en, x.ex, x.la, x.ca⟩
theorem at20_ok {x : Nd} (h : NdOk x) : NdOk (at20 x) := by
  intro v hv
  simp only [at20, List.mem_cons, List.not_mem_nil, or_false] at hv
  rcases hv with rfl | rfl | rfl | rfl | rfl | rfl | rfl | rfl | rfl | rfl | rfl
  · omega
  · exact h _ (by simp)
  · exact h _ (by simp)
  · exact h _ (by simp)
  · exact h _ (by simp)
  · exact h _ (by simp)
  · exact h _ (by simp)
  · exact h _ (by simp)
  · exact h _ (by simp)
  · exact h _ (by simp)
  · exact h _ (by simp)
/-- A view with the year, and nodes. -/
def yearS : VS := (⟨[], []⟩ : VS).put (yKey 2020) (packN 8 [1])
theorem yearS_is : (⟨[], []⟩ : VS).open_ 2020 = yearS := by
  unfold VS.open_
  rw [if_pos (by decide +kernel)]
  rfl
theorem yearS_open : openE ((⟨[], []⟩ : VS).now (yKey 2020)) 2020 = 0 := by decide +kernel
theorem yearS_ok : yearS.Ok := VS.Ok.put (S := ⟨[], []⟩) ⟨List.Pairwise.nil, List.Pairwise.nil⟩ _ _
def begunS (l : List Nd) : VS := (l.map at20).foldl VS.putN yearS
theorem begunS_take {l : List Nd} {j : Nat} {x : Nd} (h : l[j]? = some x) : begunS (l.take (j + 1)) = (begunS (l.take j)).putN (at20 x) := by
  obtain ⟨hj, rfl⟩ := List.getElem?_eq_some_iff.1 h
  unfold begunS
  rw [List.take_succ_eq_append_getElem hj, List.map_append, List.foldl_append]
  rfl
theorem begunS_ok (l : List Nd) : (begunS l).Ok := putNs_ok _ yearS_ok
theorem begunS_W (l : List Nd) : (begunS l).W = [] := putNs_W _ _
theorem many_yearS : ManyS yearS 1 := ManyS.start.put (by rw [tx_length, yKeyLen]; omega) _
theorem many_begunS (l : List Nd) : ManyS (begunS l) (1 + l.length) := by
  have := many_puts (S := yearS) (l.map at20) many_yearS
  rwa [List.length_map] at this
theorem begunS_year (l : List Nd) : yChk (begunS l) 2020 = 0 := by
  unfold yChk begunS
  rw [putNs_other (fun y i e => tag_apart (by omega) (by omega) (by omega) _ _ e) _ yearS_ok]
  unfold yearS
  rw [VS.Ok.now_put (S := ⟨[], []⟩) ⟨List.Pairwise.nil, List.Pairwise.nil⟩, if_pos rfl]
  decide +kernel
theorem begunS_seq (l : List Nd) : (begunS l).now (tx (keyL 83 [2])) = none := by
  unfold begunS
  rw [putNs_other (fun y i e => tag_apart (by omega) (by omega) (by omega) _ _ e) _ yearS_ok]
  unfold yearS
  rw [VS.Ok.now_put (S := ⟨[], []⟩) ⟨List.Pairwise.nil, List.Pairwise.nil⟩, if_neg (tag_apart (by omega) (by omega) (by omega) _ _)]
  rfl
theorem nd_of_bytes {y i : Int} {b : List Int} (hb : AllBytes b) {n : Nd} (h : ndK (keyL 78 [y, i], b) = some n) : NdOk n := ndK_ok (keyL_bytes (by omega) _) hb h
end Go.Proofs.YtlcbmobdokicaaaGreat
