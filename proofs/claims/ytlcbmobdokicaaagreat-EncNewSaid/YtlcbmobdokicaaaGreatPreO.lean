/-
  The texts PreP, EncP, PreO joined. Conditions: those that each part says at its head.
-/
import Derived.Test.YtlcbmobdokicaaaGreatCtlM
import Derived.Test.YtlcbmobdokicaaaGreatDocM
import Derived.Test.YtlcbmobdokicaaaGreatAmtV
import Derived.Test.YtlcbmobdokicaaaGreatYrB

/-
  Pre-encumbrances and encumbrances over plain lists: what charges of lines leave, what New and Take answer and leave. No program; no condition beyond what each says.
-/
namespace Go.Proofs.YtlcbmobdokicaaaGreat
open Go.RowKit Go.Maps
set_option maxRecDepth 100000
set_option linter.unusedVariables false

/-- What is wrong with lines. -/
def preChk (l : List Ln) : Int := if l.length < 1 ∨ l.length > 6 ∨ (l.any fun x => !amtRightB x.a) = true then 1 else 0
def lineD (x : Ln) : Dl := ⟨x.n, x.a, 0, 0⟩
theorem lineD_ok {x : Ln} (h : LnOk x) : DlOk (lineD x) := by
  intro v hv
  simp only [lineD, List.mem_cons, List.not_mem_nil, or_false] at hv
  rcases hv with rfl | rfl | rfl | rfl
  · exact h.2.2.1
  · exact h.2.2.2
  · omega
  · omega
/-- A charge of a node: who, and how much. -/
structure Chg where
  i : Int
  p : Int
  e : Int
  q : Int
/-- Charges, one behind the other, up to the first that is refused. -/
def runC (y : Int) : VS → Bool → List Chg → (Bool × Int) × VS
  | S, wn, [] => ((wn, 0), S)
  | S, wn, x :: r => if (chargeR S y x.i x.p x.e x.q).1.2 = 0 then runC y (chargeR S y x.i x.p x.e x.q).2 (wn || (chargeR S y x.i x.p x.e x.q).1.1) r else ((wn, (chargeR S y x.i x.p x.e x.q).1.2), (chargeR S y x.i x.p x.e x.q).2)
theorem runC_snoc {y : Int} {x : Chg} : ∀ {l : List Chg} {S : VS} {wn : Bool}, (runC y S wn l).1.2 = 0 → runC y S wn (l ++ [x]) =
    if (chargeR (runC y S wn l).2 y x.i x.p x.e x.q).1.2 = 0 then (((runC y S wn l).1.1 || (chargeR (runC y S wn l).2 y x.i x.p x.e x.q).1.1, 0), (chargeR (runC y S wn l).2 y x.i x.p x.e x.q).2) else (((runC y S wn l).1.1, (chargeR (runC y S wn l).2 y x.i x.p x.e x.q).1.2), (chargeR (runC y S wn l).2 y x.i x.p x.e x.q).2)
  | [], S, wn, _ => rfl
  | z :: l, S, wn, h => by
    unfold runC at h
    rw [List.cons_append]
    by_cases e : (chargeR S y z.i z.p z.e z.q).1.2 = 0
    · rw [if_pos e] at h
      have e1 : ∀ r, runC y S wn (z :: r) = runC y (chargeR S y z.i z.p z.e z.q).2 (wn || (chargeR S y z.i z.p z.e z.q).1.1) r := fun r => if_pos e
      rw [e1, e1]
      exact runC_snoc h
    · rw [if_neg e] at h
      exact absurd h e
/-- Up to j charges were done; the next is refused: so are all. -/
theorem runC_stop {y : Int} {x : Chg} {r : List Chg} : ∀ {l : List Chg} {S : VS} {wn : Bool}, (runC y S wn l).1.2 = 0 → (chargeR (runC y S wn l).2 y x.i x.p x.e x.q).1.2 ≠ 0 → runC y S wn (l ++ x :: r) = (((runC y S wn l).1.1, (chargeR (runC y S wn l).2 y x.i x.p x.e x.q).1.2), (chargeR (runC y S wn l).2 y x.i x.p x.e x.q).2)
  | [], S, wn, _, h => if_neg h
  | z :: l, S, wn, h, h2 => by
    unfold runC at h
    rw [List.cons_append]
    by_cases e : (chargeR S y z.i z.p z.e z.q).1.2 = 0
    · rw [if_pos e] at h
      have e1 : ∀ r, runC y S wn (z :: r) = runC y (chargeR S y z.i z.p z.e z.q).2 (wn || (chargeR S y z.i z.p z.e z.q).1.1) r := fun r => if_pos e
      rw [e1] at h2 ⊢
      rw [e1]
      exact runC_stop h h2
    · rw [if_neg e] at h
      exact absurd h e
theorem runC_take {y : Int} {S : VS} {wn : Bool} {l : List Chg} {j : Nat} {x : Chg} (hx : l[j]? = some x) (h : (runC y S wn (l.take j)).1.2 = 0) : runC y S wn (l.take (j + 1)) =
    if (chargeR (runC y S wn (l.take j)).2 y x.i x.p x.e x.q).1.2 = 0 then (((runC y S wn (l.take j)).1.1 || (chargeR (runC y S wn (l.take j)).2 y x.i x.p x.e x.q).1.1, 0), (chargeR (runC y S wn (l.take j)).2 y x.i x.p x.e x.q).2) else (((runC y S wn (l.take j)).1.1, (chargeR (runC y S wn (l.take j)).2 y x.i x.p x.e x.q).1.2), (chargeR (runC y S wn (l.take j)).2 y x.i x.p x.e x.q).2) := by
  obtain ⟨hj, rfl⟩ := List.getElem?_eq_some_iff.1 hx
  rw [List.take_succ_eq_append_getElem hj, runC_snoc h]
theorem runC_bad {y : Int} {S : VS} {wn : Bool} {l : List Chg} {j : Nat} {x : Chg} (hx : l[j]? = some x) (h : (runC y S wn (l.take j)).1.2 = 0) (h2 : (chargeR (runC y S wn (l.take j)).2 y x.i x.p x.e x.q).1.2 ≠ 0) :
    runC y S wn l = (((runC y S wn (l.take j)).1.1, (chargeR (runC y S wn (l.take j)).2 y x.i x.p x.e x.q).1.2), (chargeR (runC y S wn (l.take j)).2 y x.i x.p x.e x.q).2) := by
  obtain ⟨hj, rfl⟩ := List.getElem?_eq_some_iff.1 hx
  have e : l = l.take j ++ l[j] :: l.drop (j + 1) := by rw [List.getElem_cons_drop, List.take_append_drop]
  have := runC_stop (x := l[j]) (r := l.drop (j + 1)) h h2
  rwa [← e] at this
theorem putNs_W : ∀ (Q : List Nd) (S : VS), (Q.foldl VS.putN S).W = S.W
  | [], S => rfl
  | x :: Q, S => by rw [List.foldl_cons, putNs_W Q]; rfl
theorem charge_W (S : VS) (y i p e q : Int) : (chargeR S y i p e q).2.W = S.W := by
  unfold chargeR
  split
  · rfl
  · split
    · rfl
    · split
      · exact putNs_W _ _
      · rfl
theorem runC_W (y : Int) : ∀ (l : List Chg) (S : VS) (wn : Bool), (runC y S wn l).2.W = S.W
  | [], S, wn => rfl
  | x :: r, S, wn => by
    unfold runC
    split
    · rw [runC_W y r, charge_W]
    · exact charge_W _ _ _ _ _ _
theorem many_runC (y : Int) : ∀ (l : List Chg) {S : VS} {n : Nat} (wn : Bool), ManyS S n → ManyS (runC y S wn l).2 (n + 8 * l.length)
  | [], S, n, wn, h => h
  | x :: r, S, n, wn, h => by
    unfold runC
    rw [List.length_cons]
    split
    · exact (many_runC y r _ (many_charge h y x.i x.p x.e x.q)).more (by omega)
    · exact (many_charge h y x.i x.p x.e x.q).more (by omega)
theorem putLs_W_ (i : Int) : ∀ (l : List Dl) (S : VS) (j : Nat), (putLs S i j l).W = S.W
  | [], S, j => rfl
  | x :: r, S, j => by
    show (putLs (S.putL i j x) i (j + 1) r).W = S.W
    rw [putLs_W_ i r]
    rfl
theorem next_W_ (S : VS) (n : Int) : (S.next n).W = S.W := by
  unfold VS.next
  split <;> rfl
theorem putDoc_W_ (S : VS) (d : Dc) (l : List Dl) : (putDoc S d l).2.W = S.W := by
  unfold putDoc
  split
  · rfl
  · split
    · show (putLs (S.next 2) _ 0 l).W = S.W
      rw [putLs_W_, next_W_]
    · rfl
/-- What a year's check answers. -/
def yChk (S : VS) (y : Int) : Int := chkE (stV (S.now (yKey y)))
/-- A document of lines, behind charges; k: its kind, f: from which. -/
def orderR (S : VS) (y k f : Int) (cs : List Chg) (ls : List Dl) : (Int × Bool × Int) × VS :=
  if (runC y S false cs).1.2 = 0 then
    (if (putDoc (runC y S false cs).2 ⟨0, k, y, f, 0⟩ ls).1.2 = 0 then (((putDoc (runC y S false cs).2 ⟨0, k, y, f, 0⟩ ls).1.1, (runC y S false cs).1.1, 0), (putDoc (runC y S false cs).2 ⟨0, k, y, f, 0⟩ ls).2)
    else ((0, false, (putDoc (runC y S false cs).2 ⟨0, k, y, f, 0⟩ ls).1.2), (putDoc (runC y S false cs).2 ⟨0, k, y, f, 0⟩ ls).2))
  else ((0, false, (runC y S false cs).1.2), (runC y S false cs).2)
theorem orderR_W (S : VS) (y k f : Int) (cs : List Chg) (ls : List Dl) : (orderR S y k f cs ls).2.W = S.W := by
  unfold orderR
  split
  · split
    · exact (putDoc_W_ _ _ _).trans (runC_W _ _ _ _)
    · exact (putDoc_W_ _ _ _).trans (runC_W _ _ _ _)
  · exact runC_W _ _ _ _
theorem many_order {S : VS} {n : Nat} (h : ManyS S n) (y k f : Int) (cs : List Chg) (ls : List Dl) : ManyS (orderR S y k f cs ls).2 (n + 8 * cs.length + 8) := by
  unfold orderR
  split
  · split
    · exact many_putDoc (many_runC y cs false h) _ _
    · exact many_putDoc (many_runC y cs false h) _ _
  · exact (many_runC y cs false h).more (by omega)
def preC (x : Ln) : Chg := ⟨x.n, x.a, 0, 0⟩
/-- What pre.New answers, and leaves. -/
def preNew (S : VS) (y : Int) (l : List Ln) : (Int × Bool × Int) × VS :=
  if yChk S y = 0 then (if preChk l = 0 then orderR S y 1 0 (l.map preC) (l.map lineD) else ((0, false, 1), S)) else ((0, false, yChk S y), S)
theorem preChk_len {l : List Ln} (h : preChk l = 0) : 1 ≤ l.length ∧ l.length ≤ 6 ∧ ∀ x ∈ l, 1 ≤ x.a ∧ x.a ≤ 9007199254740992 := by
  unfold preChk at h
  split at h
  · cases h
  · rename_i hh
    rw [not_or, not_or, Bool.not_eq_true] at hh
    refine ⟨by omega, by omega, fun x hx => ?_⟩
    have := List.any_eq_false.1 hh.2.2 x hx
    simp only [Bool.not_eq_true, Bool.not_eq_false'] at this
    unfold amtRightB at this
    simpa using this
theorem preNew_W (S : VS) (y : Int) (l : List Ln) : (preNew S y l).2.W = S.W := by
  unfold preNew
  split
  · split
    · exact orderR_W _ _ _ _ _ _
    · rfl
  · rfl
theorem many_preNew {S : VS} {n : Nat} (h : ManyS S n) (y : Int) (l : List Ln) : ManyS (preNew S y l).2 (n + 56) := by
  unfold preNew
  split
  · split
    · rename_i hp
      have := preChk_len hp
      exact (many_order h _ _ _ _ _).more (by rw [List.length_map]; omega)
    · exact h.more (by omega)
  · exact h.more (by omega)
end Go.Proofs.YtlcbmobdokicaaaGreat

/-
  Take and New of encumbrances over plain lists. No program; no condition beyond what each says.
-/
namespace Go.Proofs.YtlcbmobdokicaaaGreat
open Go.RowKit Go.Maps
set_option maxRecDepth 100000
set_option linter.unusedVariables false

/-- A line from which so much is taken. -/
def liqL (z : Dl) (a : Int) : Dl := ⟨z.nd, z.o, wrap64 (z.l + a), z.c⟩
theorem liqL_ok {z : Dl} (h : DlOk z) (a : Int) : DlOk (liqL z a) := by
  intro v hv
  simp only [liqL, List.mem_cons, List.not_mem_nil, or_false] at hv
  rcases hv with rfl | rfl | rfl | rfl
  · exact h _ (by simp)
  · exact h _ (by simp)
  · unfold wrap64; omega
  · exact h _ (by simp)
/-- What is wrong with taking one. -/
def liqE (st : List Dl) (x : Ln) : Int := if x.n < 0 ∨ x.n ≥ (st.length : Int) then 7 else if openL (st[x.n.toNat]?.getD dlNil) < x.a then 12 else 0
def liqN (st : List Dl) (x : Ln) : List Dl := st.set x.n.toNat (liqL (st[x.n.toNat]?.getD dlNil) x.a)
def liqK (st : List Dl) (x : Ln) : Dl := ⟨(st[x.n.toNat]?.getD dlNil).nd, x.a, 0, 0⟩
/-- What stands then, what was taken, and the error. -/
def liqR : List Dl → List Ln → (List Dl × List Dl) × Int
  | st, [] => ((st, []), 0)
  | st, x :: r => if liqE st x = 0 then (((liqR (liqN st x) r).1.1, liqK st x :: (liqR (liqN st x) r).1.2), (liqR (liqN st x) r).2) else ((st, []), liqE st x)
theorem liqN_len (st : List Dl) (x : Ln) : (liqN st x).length = st.length := List.length_set
theorem liqR_len : ∀ (l : List Ln) (st : List Dl), (liqR st l).1.1.length = st.length
  | [], st => rfl
  | x :: r, st => by
    unfold liqR
    split
    · exact (liqR_len r _).trans (liqN_len st x)
    · rfl
theorem liqR_taken : ∀ (l : List Ln) (st : List Dl), (liqR st l).2 = 0 → (liqR st l).1.2.length = l.length
  | [], st, _ => rfl
  | x :: r, st, h => by
    unfold liqR at h ⊢
    split at h
    · rename_i e
      rw [if_pos e, List.length_cons, List.length_cons, liqR_taken r _ h]
    · rename_i e
      exact absurd h e
theorem liqE_zero {st : List Dl} {x : Ln} (h : liqE st x = 0) : 0 ≤ x.n ∧ x.n < (st.length : Int) ∧ x.a ≤ openL (st[x.n.toNat]?.getD dlNil) := by
  unfold liqE at h
  split at h
  · cases h
  · rename_i g
    split at h
    · cases h
    · omega
theorem liqR_snoc {x : Ln} : ∀ {l : List Ln} {st : List Dl}, (liqR st l).2 = 0 → liqR st (l ++ [x]) = if liqE (liqR st l).1.1 x = 0 then ((liqN (liqR st l).1.1 x, (liqR st l).1.2 ++ [liqK (liqR st l).1.1 x]), 0) else (((liqR st l).1.1, (liqR st l).1.2), liqE (liqR st l).1.1 x)
  | [], st, _ => rfl
  | z :: l, st, h => by
    unfold liqR at h
    rw [List.cons_append]
    by_cases e : liqE st z = 0
    · rw [if_pos e] at h
      have e1 : ∀ r, liqR st (z :: r) = (((liqR (liqN st z) r).1.1, liqK st z :: (liqR (liqN st z) r).1.2), (liqR (liqN st z) r).2) := fun r => if_pos e
      rw [e1, e1, liqR_snoc h]
      simp only []
      split <;> rfl
    · rw [if_neg e] at h
      exact absurd h e
theorem liqR_stop {x : Ln} {r : List Ln} : ∀ {l : List Ln} {st : List Dl}, (liqR st l).2 = 0 → liqE (liqR st l).1.1 x ≠ 0 → (liqR st (l ++ x :: r)).2 = liqE (liqR st l).1.1 x
  | [], st, _, h => by
    have h' : ¬ liqE st x = 0 := h
    show (liqR st (x :: r)).2 = liqE st x
    have e1 : liqR st (x :: r) = ((st, []), liqE st x) := if_neg h'
    rw [e1]
  | z :: l, st, h, h2 => by
    unfold liqR at h
    rw [List.cons_append]
    by_cases e : liqE st z = 0
    · rw [if_pos e] at h
      have e1 : ∀ r, liqR st (z :: r) = (((liqR (liqN st z) r).1.1, liqK st z :: (liqR (liqN st z) r).1.2), (liqR (liqN st z) r).2) := fun r => if_pos e
      rw [e1] at h2 ⊢
      rw [e1]
      exact liqR_stop h h2
    · rw [if_neg e] at h
      exact absurd h e
theorem liqR_take {st : List Dl} {l : List Ln} {j : Nat} {x : Ln} (hx : l[j]? = some x) (h : (liqR st (l.take j)).2 = 0) : liqR st (l.take (j + 1)) = if liqE (liqR st (l.take j)).1.1 x = 0 then ((liqN (liqR st (l.take j)).1.1 x, (liqR st (l.take j)).1.2 ++ [liqK (liqR st (l.take j)).1.1 x]), 0) else (((liqR st (l.take j)).1.1, (liqR st (l.take j)).1.2), liqE (liqR st (l.take j)).1.1 x) := by
  obtain ⟨hj, rfl⟩ := List.getElem?_eq_some_iff.1 hx
  rw [List.take_succ_eq_append_getElem hj, liqR_snoc h]
theorem liqR_bad {st : List Dl} {l : List Ln} {j : Nat} {x : Ln} (hx : l[j]? = some x) (h : (liqR st (l.take j)).2 = 0) (h2 : liqE (liqR st (l.take j)).1.1 x ≠ 0) : (liqR st l).2 = liqE (liqR st (l.take j)).1.1 x := by
  obtain ⟨hj, rfl⟩ := List.getElem?_eq_some_iff.1 hx
  have e : l = l.take j ++ l[j] :: l.drop (j + 1) := by rw [List.getElem_cons_drop, List.take_append_drop]
  have := liqR_stop (x := l[j]) (r := l.drop (j + 1)) h h2
  rwa [← e] at this
theorem liqR_ok : ∀ {l : List Ln} {st : List Dl}, (∀ z ∈ st, DlOk z) → (∀ x ∈ l, LnOk x) → (∀ z ∈ (liqR st l).1.1, DlOk z) ∧ ∀ z ∈ (liqR st l).1.2, DlOk z
  | [], st, h, _ => ⟨h, fun z hz => by cases hz⟩
  | x :: r, st, h, hl => by
    unfold liqR
    split
    · rename_i e
      obtain ⟨e1, e2, e3⟩ := liqE_zero e
      have hz : DlOk (st[x.n.toNat]?.getD dlNil) := by
        rw [List.getElem?_eq_getElem (by omega), Option.getD_some]
        exact h _ (List.getElem_mem _)
      obtain ⟨i1, i2⟩ := liqR_ok (l := r) (st := liqN st x) (fun z hz' => by
        unfold liqN at hz'
        rcases List.mem_or_eq_of_mem_set hz' with hz' | rfl
        · exact h z hz'
        · exact liqL_ok hz _) fun z hz' => hl z (List.mem_cons_of_mem _ hz')
      refine ⟨i1, fun z hz' => ?_⟩
      rcases List.mem_cons.1 hz' with rfl | hz'
      · intro v hv
        simp only [liqK, List.mem_cons, List.not_mem_nil, or_false] at hv
        rcases hv with rfl | rfl | rfl | rfl
        · exact hz _ (by simp)
        · exact (hl x List.mem_cons_self).2.2.2
        · omega
        · omega
      · exact i2 z hz'
    · exact ⟨h, fun z hz => by cases hz⟩
/-- Lines set one by one, each as it stands in the end. -/
def setsF (f : Int) (st : List Dl) (l : List Ln) (S : VS) : VS := l.foldl (fun S x => S.putL f x.n (st[x.n.toNat]?.getD dlNil)) S
/-- Lines set one by one, each as it stands then. -/
def setsJ (f : Int) : VS → List Dl → List Ln → VS
  | S, st, [] => S
  | S, st, x :: r => setsJ f (S.putL f x.n (liqL (st[x.n.toNat]?.getD dlNil) x.a)) (liqN st x) r
theorem setsF_W (f : Int) (st : List Dl) : ∀ (l : List Ln) (S : VS), (setsF f st l S).W = S.W
  | [], S => rfl
  | x :: r, S => setsF_W f st r (S.putL f x.n (st[x.n.toNat]?.getD dlNil))
theorem setsJ_W (f : Int) : ∀ (l : List Ln) (st : List Dl) (S : VS), (setsJ f S st l).W = S.W
  | [], st, S => rfl
  | x :: r, st, S => setsJ_W f r (liqN st x) (S.putL f x.n (liqL (st[x.n.toNat]?.getD dlNil) x.a))
theorem setsJ_take (f : Int) {x : Ln} : ∀ {l : List Ln} {st : List Dl} {S : VS}, (liqR st l).2 = 0 → setsJ f S st (l ++ [x]) = (setsJ f S st l).putL f x.n (liqL ((liqR st l).1.1[x.n.toNat]?.getD dlNil) x.a)
  | [], st, S, _ => rfl
  | z :: l, st, S, h => by
    unfold liqR at h
    by_cases e : liqE st z = 0
    · rw [if_pos e] at h
      have e1 : liqR st (z :: l) = (((liqR (liqN st z) l).1.1, liqK st z :: (liqR (liqN st z) l).1.2), (liqR (liqN st z) l).2) := if_pos e
      rw [e1]
      exact setsJ_take f h
    · rw [if_neg e] at h
      exact absurd h e
theorem many_putL {S : VS} {n : Nat} (h : ManyS S n) (i j : Int) (x : Dl) : ManyS (S.putL i j x) (n + 1) := h.put (by rw [tx_length, lKyLen]; omega) _
theorem many_setsF (f : Int) (st : List Dl) : ∀ (l : List Ln) {S : VS} {n : Nat}, ManyS S n → ManyS (setsF f st l S) (n + l.length)
  | [], S, n, h => h
  | x :: r, S, n, h => (many_setsF f st r (many_putL h f x.n (st[x.n.toNat]?.getD dlNil))).more (by rw [List.length_cons]; omega)
theorem many_setsJ (f : Int) : ∀ (l : List Ln) (st : List Dl) {S : VS} {n : Nat}, ManyS S n → ManyS (setsJ f S st l) (n + l.length)
  | [], st, S, n, h => h
  | x :: r, st, S, n, h => (many_setsJ f r (liqN st x) (many_putL h f x.n (liqL (st[x.n.toNat]?.getD dlNil) x.a))).more (by rw [List.length_cons]; omega)
theorem vs_ext {S T : VS} (hS : S.Ok) (hT : T.Ok) (hW : S.W = T.W) (h : ∀ z, lookT S.C z = lookT T.C z) : S = T := by
  obtain ⟨W, C⟩ := S
  obtain ⟨W', C'⟩ := T
  simp only at hW h
  have hc : C = C' := RiseT.ext hS.c hT.c h
  subst hW hc
  rfl
theorem ok_putL {S : VS} (h : S.Ok) (i j : Int) (x : Dl) : (S.putL i j x).Ok := h.put _ _
theorem setsF_ok (f : Int) (st : List Dl) : ∀ (l : List Ln) {S : VS}, S.Ok → (setsF f st l S).Ok
  | [], S, h => h
  | x :: r, S, h => setsF_ok f st r (ok_putL h f x.n (st[x.n.toNat]?.getD dlNil))
theorem setsJ_ok (f : Int) : ∀ (l : List Ln) (st : List Dl) {S : VS}, S.Ok → (setsJ f S st l).Ok
  | [], st, S, h => h
  | x :: r, st, S, h => setsJ_ok f r (liqN st x) (ok_putL h f x.n (liqL (st[x.n.toNat]?.getD dlNil) x.a))
theorem lookC_putL {S : VS} (h : S.Ok) (i j : Int) (x : Dl) (z : Txt) : lookT (S.putL i j x).C z = if lKy i j = z then some (some (dlVal x)) else lookT S.C z := lookT_setT h.c _ _ _
/-- Places of lines. -/
def InPl (N : Nat) (l : List Ln) : Prop := ∀ x ∈ l, 0 ≤ x.n ∧ x.n < (N : Int)
theorem place_inj {f a b : Int} {N : Nat} (hN : N ≤ 6) (ha : 0 ≤ a ∧ a < (N : Int)) (hb : 0 ≤ b ∧ b < (N : Int)) (h : lKy f a = lKy f b) : a = b := lKy_inj ((held32_iff _).2 (by omega)) ((held32_iff _).2 (by omega)) h
theorem setsF_other {f : Int} {st : List Dl} {z : Txt} : ∀ {l : List Ln} {S : VS}, S.Ok → (∀ x ∈ l, lKy f x.n ≠ z) → lookT (setsF f st l S).C z = lookT S.C z
  | [], S, h, _ => rfl
  | x :: r, S, h, hz => by
    show lookT (setsF f st r (S.putL f x.n (st[x.n.toNat]?.getD dlNil))).C z = _
    rw [setsF_other (ok_putL h _ _ _) fun y hy => hz y (List.mem_cons_of_mem _ hy), lookC_putL h, if_neg (hz x List.mem_cons_self)]
theorem setsF_one {f : Int} {st : List Dl} {z : Txt} {N : Nat} (hN : N ≤ 6) : ∀ {l : List Ln} {S : VS}, S.Ok → InPl N l → ∀ x ∈ l, lKy f x.n = z → lookT (setsF f st l S).C z = some (some (dlVal (st[x.n.toNat]?.getD dlNil)))
  | y :: r, S, h, hp, x, hx, hz => by
    show lookT (setsF f st r (S.putL f y.n (st[y.n.toNat]?.getD dlNil))).C z = _
    by_cases hr : ∃ u ∈ r, lKy f u.n = z
    · obtain ⟨u, hu, huz⟩ := hr
      rw [setsF_one hN (ok_putL h _ _ _) (fun a ha => hp a (List.mem_cons_of_mem _ ha)) u hu huz, place_inj hN (hp u (List.mem_cons_of_mem _ hu)) (hp x hx) (huz.trans hz.symm)]
    · rw [setsF_other (ok_putL h _ _ _) fun u hu e => hr ⟨u, hu, e⟩, lookC_putL h]
      rcases List.mem_cons.1 hx with rfl | hx
      · rw [if_pos hz]
      · exact absurd ⟨x, hx, hz⟩ hr
theorem setsJ_other {f : Int} {z : Txt} : ∀ {l : List Ln} {st : List Dl} {S : VS}, S.Ok → (∀ x ∈ l, lKy f x.n ≠ z) → lookT (setsJ f S st l).C z = lookT S.C z
  | [], st, S, h, _ => rfl
  | x :: r, st, S, h, hz => by
    show lookT (setsJ f (S.putL f x.n (liqL (st[x.n.toNat]?.getD dlNil) x.a)) (liqN st x) r).C z = _
    rw [setsJ_other (ok_putL h _ _ _) fun y hy => hz y (List.mem_cons_of_mem _ hy), lookC_putL h, if_neg (hz x List.mem_cons_self)]
theorem liqR_cons {st : List Dl} {x : Ln} {r : List Ln} (h : (liqR st (x :: r)).2 = 0) : liqE st x = 0 ∧ (liqR (liqN st x) r).2 = 0 ∧ (liqR st (x :: r)).1.1 = (liqR (liqN st x) r).1.1 := by
  by_cases e : liqE st x = 0
  · have e1 : liqR st (x :: r) = (((liqR (liqN st x) r).1.1, liqK st x :: (liqR (liqN st x) r).1.2), (liqR (liqN st x) r).2) := if_pos e
    rw [e1] at h ⊢
    exact ⟨e, h, rfl⟩
  · have e1 : liqR st (x :: r) = ((st, []), liqE st x) := if_neg e
    rw [e1] at h
    exact absurd h e
theorem liqR_places : ∀ {l : List Ln} {st : List Dl}, (liqR st l).2 = 0 → InPl st.length l
  | [], st, _ => fun x hx => by cases hx
  | x :: r, st, h => by
    obtain ⟨e, h2, _⟩ := liqR_cons h
    have := liqE_zero e
    intro y hy
    rcases List.mem_cons.1 hy with rfl | hy
    · exact ⟨this.1, this.2.1⟩
    · have := liqR_places h2 y hy
      rwa [liqN_len] at this
theorem liqR_at {k : Int} : ∀ {l : List Ln} {st : List Dl}, (liqR st l).2 = 0 → 0 ≤ k → (∀ x ∈ l, x.n ≠ k) → (liqR st l).1.1[k.toNat]? = st[k.toNat]?
  | [], st, _, _, _ => rfl
  | x :: r, st, h, hk, hz => by
    obtain ⟨e, h2, h3⟩ := liqR_cons h
    rw [h3, liqR_at h2 hk fun y hy => hz y (List.mem_cons_of_mem _ hy)]
    unfold liqN
    have := liqE_zero e
    rw [List.getElem?_set_ne]
    intro q
    exact hz x List.mem_cons_self (by omega)
theorem setsJ_one {f : Int} {z : Txt} {N : Nat} (hN : N ≤ 6) : ∀ {l : List Ln} {st : List Dl} {S : VS}, S.Ok → st.length = N → (liqR st l).2 = 0 → ∀ x ∈ l, lKy f x.n = z → lookT (setsJ f S st l).C z = some (some (dlVal ((liqR st l).1.1[x.n.toNat]?.getD dlNil)))
  | y :: r, st, S, h, hst, hq, x, hx, hz => by
    have hp := liqR_places hq
    rw [hst] at hp
    obtain ⟨e, h2, h3⟩ := liqR_cons hq
    show lookT (setsJ f (S.putL f y.n (liqL (st[y.n.toNat]?.getD dlNil) y.a)) (liqN st y) r).C z = _
    rw [h3]
    by_cases hr : ∃ u ∈ r, lKy f u.n = z
    · obtain ⟨u, hu, huz⟩ := hr
      rw [setsJ_one hN (ok_putL h _ _ _) ((liqN_len st y).trans hst) h2 u hu huz, place_inj hN (hp u (List.mem_cons_of_mem _ hu)) (hp x hx) (huz.trans hz.symm)]
    · rw [setsJ_other (ok_putL h _ _ _) fun u hu e => hr ⟨u, hu, e⟩, lookC_putL h]
      rcases List.mem_cons.1 hx with rfl | hx
      · have hy := hp x List.mem_cons_self
        rw [if_pos hz, liqR_at h2 hy.1 fun u hu q => hr ⟨u, hu, by rw [q]; exact hz⟩]
        unfold liqN
        rw [List.getElem?_set_self (by omega), Option.getD_some]
      · exact absurd ⟨x, hx, hz⟩ hr
/-- Both orders leave the same. -/
theorem sets_same {f : Int} {S : VS} (hS : S.Ok) {st : List Dl} {l : List Ln} (hst : st.length ≤ 6) (h : (liqR st l).2 = 0) : setsF f (liqR st l).1.1 l S = setsJ f S st l := by
  refine vs_ext (setsF_ok _ _ _ hS) (setsJ_ok _ _ _ hS) ((setsF_W _ _ _ _).trans (setsJ_W _ _ _ _).symm) fun z => ?_
  by_cases hz : ∃ x ∈ l, lKy f x.n = z
  · obtain ⟨x, hx, e⟩ := hz
    rw [setsF_one hst hS (liqR_places h) x hx e, setsJ_one hst hS rfl h x hx e]
  · rw [setsF_other hS fun x hx e => hz ⟨x, hx, e⟩, setsJ_other hS fun x hx e => hz ⟨x, hx, e⟩]
/-- A document with one line another. -/
theorem lineAt_putL {S : VS} (h : S.Ok) {i j k : Int} {x : Dl} (hi : held32 i = true) (hj : held32 j = true) (hk : held32 k = true) (hx : DlOk x) : lineAt (S.putL i j x) i k = if j = k then some x else lineAt S i k := by
  unfold lineAt VS.putL
  rw [h.now_put]
  by_cases e : j = k
  · subst e
    rw [if_pos rfl, if_pos rfl, Option.getD_some]
    exact dlK_made hx hi hj
  · rw [if_neg e, if_neg fun q => e (lKy_inj hj hk q)]
theorem docAt_putL {S : VS} (h : S.Ok) (i j k : Int) (x : Dl) : docAt (S.putL i j x) k = docAt S k := by
  unfold docAt VS.putL
  rw [h.now_put, if_neg (tag_apart (by omega) (by omega) (by omega) _ _)]
theorem linesAt_putL {S : VS} (h : S.Ok) {i : Int} {j : Nat} {x : Dl} (hi : held32 i = true) (hx : DlOk x) (hj6 : j < 100) : ∀ {n : Nat} {l : List Dl}, n ≤ 100 → linesAt S i n = some l → linesAt (S.putL i j x) i n = some (l.set j x)
  | 0, l, _, hl => by cases hl; rfl
  | n + 1, l, hn, hl => by
    have hlen := linesAt_len hl
    unfold linesAt at hl ⊢
    cases h1 : linesAt S i n with
    | none => rw [h1] at hl; cases hl
    | some l0 =>
      rw [h1] at hl
      simp only at hl
      have hl0 := linesAt_len h1
      rw [linesAt_putL h hi hx hj6 (by omega) h1]
      simp only []
      rw [lineAt_putL h hi ((held32_iff _).2 (by omega)) ((held32_iff _).2 (by omega)) hx]
      cases h2 : lineAt S i n with
      | none => rw [h2] at hl; cases hl
      | some u =>
        rw [h2] at hl
        cases hl
        by_cases e : (j : Int) = (n : Int)
        · have e' : j = n := by omega
          subst e'
          rw [if_pos rfl]
          simp only []
          rw [List.set_append_right _ _ (by omega), List.set_eq_of_length_le (by omega), hl0, Nat.sub_self]
          rfl
        · rw [if_neg e]
          simp only []
          rcases Nat.lt_or_ge j n with hlt | hge
          · rw [List.set_append_left _ _ (by omega)]
          · rw [List.set_eq_of_length_le (by omega), List.set_eq_of_length_le (by rw [List.length_append, List.length_singleton]; omega)]
theorem docGet_parts {S : VS} {i : Int} {d : Dc} {l : List Dl} (h : docGet S i = some (d, l)) : held32 i = true ∧ docAt S i = some d ∧ docIn d = true ∧ linesAt S i d.n.toNat = some l ∧ 1 ≤ l.length ∧ l.length ≤ 6 ∧ d.n = l.length := by
  unfold docGet at h
  split at h
  · rename_i hh
    split at h
    · cases h
    · rename_i d' hd
      split at h
      · rename_i hin
        obtain ⟨l', hl', e⟩ := Option.map_eq_some_iff.1 h
        cases e
        have hlen := linesAt_len hl'
        have hin' := hin
        unfold docIn at hin'
        simp only [Bool.and_eq_true, decide_eq_true_eq] at hin'
        exact ⟨hh, hd, hin, hl', by omega, by omega, by omega⟩
      · cases h
  · cases h
theorem docGet_of {S : VS} {i : Int} {d : Dc} {l : List Dl} (h1 : held32 i = true) (h2 : docAt S i = some d) (h3 : docIn d = true) (h4 : linesAt S i d.n.toNat = some l) : docGet S i = some (d, l) := by
  unfold docGet
  rw [if_pos h1, h2]
  simp only []
  rw [if_pos h3, h4]
  rfl
theorem docGet_putL {S : VS} (h : S.Ok) {i : Int} {d : Dc} {l : List Dl} (hg : docGet S i = some (d, l)) {j : Nat} (hj : j < l.length) {x : Dl} (hx : DlOk x) : docGet (S.putL i j x) i = some (d, l.set j x) := by
  obtain ⟨h1, h2, h3, h4, h5, h6, h7⟩ := docGet_parts hg
  exact docGet_of h1 ((docAt_putL h i j i x).trans h2) h3 (linesAt_putL h h1 hx (by omega) (by omega) h4)
/-- What Take answers, and leaves. -/
def takeR (S : VS) (k y f : Int) (l : List Ln) : (List Dl × Int) × VS :=
  match docGet S f with
  | none => (([], 7), S)
  | some (d, st) => if d.k ≠ k ∨ d.y ≠ y then (([], 12), S) else if (liqR st l).2 = 0 then (((liqR st l).1.2, 0), setsJ f S st l) else (([], (liqR st l).2), S)
theorem takeR_W (S : VS) (k y f : Int) (l : List Ln) : (takeR S k y f l).2.W = S.W := by
  unfold takeR
  split
  · rfl
  · split
    · rfl
    · split
      · exact setsJ_W _ _ _ _
      · rfl
theorem many_take {S : VS} {n : Nat} (h : ManyS S n) (k y f : Int) (l : List Ln) : ManyS (takeR S k y f l).2 (n + l.length) := by
  unfold takeR
  split
  · exact h.more (by omega)
  · split
    · exact h.more (by omega)
    · split
      · exact many_setsJ _ _ _ h
      · exact h.more (by omega)
theorem take_taken {S : VS} {k y f : Int} {l : List Ln} (h : (takeR S k y f l).1.2 = 0) : (takeR S k y f l).1.1.length = l.length := by
  unfold takeR at h ⊢
  cases hd : docGet S f with
  | none => rw [hd] at h; cases h
  | some u =>
    obtain ⟨d, st⟩ := u
    rw [hd] at h
    dsimp only at h ⊢
    by_cases g1 : d.k ≠ k ∨ d.y ≠ y
    · rw [if_pos g1] at h; cases h
    · rw [if_neg g1] at h ⊢
      by_cases g2 : (liqR st l).2 = 0
      · rw [if_pos g2]
        exact liqR_taken _ _ g2
      · rw [if_neg g2] at h
        exact absurd h g2
/-- What a document's line, that goes over or not, is charged. -/
def encC (over : Bool) (z : Dl) : Chg := ⟨z.nd, if over = true then wrap64 (-z.o) else 0, z.o, 0⟩
/-- What enc.New answers, and leaves. -/
def encNew (S : VS) (y f : Int) (l : List Ln) : (Int × Bool × Int) × VS :=
  if yChk S y = 0 then
    (if preChk l = 0 then
      (if f = 0 then orderR S y 2 0 ((l.map lineD).map (encC false)) (l.map lineD)
      else if (takeR S 1 y f l).1.2 = 0 then orderR (takeR S 1 y f l).2 y 2 f ((takeR S 1 y f l).1.1.map (encC true)) (takeR S 1 y f l).1.1
      else ((0, false, (takeR S 1 y f l).1.2), (takeR S 1 y f l).2))
    else ((0, false, 1), S))
  else ((0, false, yChk S y), S)
theorem encNew_W (S : VS) (y f : Int) (l : List Ln) : (encNew S y f l).2.W = S.W := by
  unfold encNew
  split
  · split
    · split
      · exact orderR_W _ _ _ _ _ _
      · split
        · exact (orderR_W _ _ _ _ _ _).trans (takeR_W _ _ _ _ _)
        · exact takeR_W _ _ _ _ _
    · rfl
  · rfl
theorem many_encNew {S : VS} {n : Nat} (h : ManyS S n) (y f : Int) (l : List Ln) : ManyS (encNew S y f l).2 (n + 62) := by
  unfold encNew
  split
  · split
    · rename_i hp
      have := preChk_len hp
      split
      · exact (many_order h _ _ _ _ _).more (by rw [List.length_map, List.length_map]; omega)
      · split
        · rename_i ht
          exact (many_order (many_take h 1 y f l) _ _ _ _ _).more (by rw [List.length_map, take_taken ht]; omega)
        · exact (many_take h 1 y f l).more (by omega)
    · exact h.more (by omega)
  · exact h.more (by omega)
end Go.Proofs.YtlcbmobdokicaaaGreat

/-
  Nodes behind puts, charges, and documents; a year with nodes as the laws of pre and enc begin. Plain facts; no condition beyond what each says.
-/
namespace Go.Proofs.YtlcbmobdokicaaaGreat
open Go.RowKit Go.Maps
set_option maxRecDepth 100000
set_option linter.unusedVariables false

section
variable {S : VS}
end
/-- A node of the law's year. -/
def at20 (x : Nd) : Nd := ⟨2020, x.i, x.p, x.f, x.o, x.ab, x.li, x.pr, x.en, x.ex, x.la, x.ca⟩
theorem at20_ok {x : Nd} (h : NdOk x) : NdOk (at20 x) := by
  intro v hv
  simp only [at20, List.mem_cons, List.not_mem_nil, or_false] at hv
  rcases hv with rfl | rfl | rfl | rfl | rfl | rfl | rfl | rfl | rfl | rfl | rfl
  · omega
  · exact h _ (by simp)
  · exact h _ (by simp)
  · exact h _ (by simp)
  · exact h _ (by simp)
  · exact h _ (by simp)
  · exact h _ (by simp)
  · exact h _ (by simp)
  · exact h _ (by simp)
  · exact h _ (by simp)
  · exact h _ (by simp)
/-- A view with the year, and nodes. -/
def yearS : VS := (⟨[], []⟩ : VS).put (yKey 2020) (packN 8 [1])
theorem yearS_is : (⟨[], []⟩ : VS).open_ 2020 = yearS := by
  unfold VS.open_
  rw [if_pos (by decide +kernel)]
  rfl
theorem yearS_open : openE ((⟨[], []⟩ : VS).now (yKey 2020)) 2020 = 0 := by decide +kernel
def begunS (l : List Nd) : VS := (l.map at20).foldl VS.putN yearS
theorem begunS_take {l : List Nd} {j : Nat} {x : Nd} (h : l[j]? = some x) : begunS (l.take (j + 1)) = (begunS (l.take j)).putN (at20 x) := by
  obtain ⟨hj, rfl⟩ := List.getElem?_eq_some_iff.1 h
  unfold begunS
  rw [List.take_succ_eq_append_getElem hj, List.map_append, List.foldl_append]
  rfl
theorem many_yearS : ManyS yearS 1 := ManyS.start.put (by rw [tx_length, yKeyLen]; omega) _
end Go.Proofs.YtlcbmobdokicaaaGreat
