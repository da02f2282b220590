/-
  Documents and their lines over plain lists: what stands of them in a view, what Put, Set leave and Get, All tell; what was put is got. No program; no condition beyond what each says.
-/
import Derived.Test.YtlcbmobdokicaaaGreatStru
import Derived.Test.YtlcbmobdokicaaaGreatRecA
import Derived.Test.YtlcbmobdokicaaaGreatRecD
import Derived.Test.YtlcbmobdokicaaaGreatRecG
import Derived.Test.YtlcbmobdokicaaaGreatNumsP
import Derived.Test.YtlcbmobdokicaaaGreatSeqP
import Derived.Test.YtlcbmobdokicaaaGreatManS
namespace Go.Proofs.YtlcbmobdokicaaaGreat
open Go.RowKit Go.Maps
set_option maxRecDepth 100000
set_option linter.unusedVariables false

/-- A document. -/
structure Dc where
  i : Int
  k : Int
  y : Int
  f : Int
  n : Int
/-- A document's line. -/
structure Dl where
  nd : Int
  o : Int
  l : Int
  c : Int
def dcV (x : Dc) : List Value := [.int .i64 x.i, .int .i64 x.k, .int .i64 x.y, .int .i64 x.f, .int .i64 x.n]
def dlV (x : Dl) : List Value := [.int .i64 x.nd, .int .i64 x.o, .int .i64 x.l, .int .i64 x.c]
def DcOk (x : Dc) : Prop := In64 [x.i, x.k, x.y, x.f, x.n]
def DlOk (x : Dl) : Prop := In64 [x.nd, x.o, x.l, x.c]
def DlE : Enc Dl := ⟨dlV, 4, DlOk, fun _ => rfl, by decide, fun x u hu => by
  unfold dlV at hu
  simp only [List.mem_cons, List.not_mem_nil, or_false] at hu
  rcases hu with rfl | rfl | rfl | rfl <;> rfl⟩
def dcOf (r : List Int × List Int) : Dc := ⟨r.1[0]?.getD 0, r.2[0]?.getD 0, r.2[1]?.getD 0, r.2[2]?.getD 0, r.2[3]?.getD 0⟩
def dlOf (r : List Int × List Int) : Dl := ⟨r.2[0]?.getD 0, r.2[1]?.getD 0, r.2[2]?.getD 0, r.2[3]?.getD 0⟩
def dcK (x : KV) : Option Dc := (numsR x 68 1 4).map dcOf
def dlK (x : KV) : Option Dl := (numsR x 76 2 4).map dlOf
def dcNil : Dc := ⟨0, 0, 0, 0, 0⟩
def dlNil : Dl := ⟨0, 0, 0, 0⟩
def dcW (o : Option Dc) : Value := .agg #[.int .i64 (o.getD dcNil).i, .int .i64 (o.getD dcNil).k, .int .i64 (o.getD dcNil).y, .int .i64 (o.getD dcNil).f, .int .i64 (o.getD dcNil).n]
def dlW (o : Option Dl) : Value := .agg #[.int .i64 (o.getD dlNil).nd, .int .i64 (o.getD dlNil).o, .int .i64 (o.getD dlNil).l, .int .i64 (o.getD dlNil).c]
theorem docV_w (x : KV) : docV (numsR x 68 1 4) = dcW (dcK x) := by
  unfold dcK
  cases numsR x 68 1 4 with
  | none => rfl
  | some r => rfl
theorem docLineV_w (x : KV) : docLineV (numsR x 76 2 4) = dlW (dlK x) := by
  unfold dlK
  cases numsR x 76 2 4 with
  | none => rfl
  | some r => rfl
theorem dcK_some (x : KV) : (numsR x 68 1 4).isSome = (dcK x).isSome := by
  unfold dcK
  cases numsR x 68 1 4 <;> rfl
theorem dlK_some (x : KV) : (numsR x 76 2 4).isSome = (dlK x).isSome := by
  unfold dlK
  cases numsR x 76 2 4 <;> rfl
theorem dcIntN {l : List Int} (h : ∀ x ∈ l, -9223372036854775808 ≤ x ∧ x ≤ 9223372036854775807) (k : Nat) : -9223372036854775808 ≤ l[k]?.getD 0 ∧ l[k]?.getD 0 ≤ 9223372036854775807 := by
  rcases Nat.lt_or_ge k l.length with hk | hk
  · rw [List.getElem?_eq_getElem hk]
    exact h _ (List.getElem_mem hk)
  · rw [List.getElem?_eq_none hk]
    exact ⟨by decide, by decide⟩
theorem numsR_ints {x : KV} (hk : AllBytes x.1) (hv : AllBytes x.2) {t : Int} {i j : Nat} {r : List Int × List Int} (h : numsR x t i j = some r) : In64 r.1 ∧ In64 r.2 := by
  unfold numsR at h
  split at h
  · have h := Option.some.inj h
    subst h
    refine ⟨fun z hz => ?_, fun z hz => ?_⟩
    · simp only [] at hz
      unfold splitK splitR at hz
      split at hz
      · exact unpackN_ints 4 x.1 _ _ hk z hz
      · cases hz
    · simp only [] at hz
      unfold unpackR at hz
      split at hz
      · split at hz
        · exact unpackN_ints 8 x.2 _ _ hv z hz
        · cases hz
      · cases hz
  · cases h
theorem dcK_ok {x : KV} (hk : AllBytes x.1) (hv : AllBytes x.2) {d : Dc} (h : dcK x = some d) : DcOk d := by
  unfold dcK at h
  obtain ⟨r, hr, rfl⟩ := Option.map_eq_some_iff.1 h
  obtain ⟨a1, a2⟩ := numsR_ints hk hv hr
  intro z hz
  simp only [dcOf, List.mem_cons, List.not_mem_nil, or_false] at hz
  rcases hz with rfl | rfl | rfl | rfl | rfl
  · exact dcIntN a1 0
  · exact dcIntN a2 0
  · exact dcIntN a2 1
  · exact dcIntN a2 2
  · exact dcIntN a2 3
theorem dlK_ok {x : KV} (hk : AllBytes x.1) (hv : AllBytes x.2) {d : Dl} (h : dlK x = some d) : DlOk d := by
  unfold dlK at h
  obtain ⟨r, hr, rfl⟩ := Option.map_eq_some_iff.1 h
  obtain ⟨a1, a2⟩ := numsR_ints hk hv hr
  intro z hz
  simp only [dlOf, List.mem_cons, List.not_mem_nil, or_false] at hz
  rcases hz with rfl | rfl | rfl | rfl
  · exact dcIntN a2 0
  · exact dcIntN a2 1
  · exact dcIntN a2 2
  · exact dcIntN a2 3
abbrev dKy (i : Int) : Txt := tx (keyL 68 [i])
abbrev lKy (i j : Int) : Txt := tx (keyL 76 [i, j])
theorem dKyLen (i : Int) : (keyL 68 [i]).length = 5 := by unfold keyL; rw [tagL_length]; rfl
theorem lKyLen (i j : Int) : (keyL 76 [i, j]).length = 9 := by unfold keyL; rw [tagL_length]; rfl
def dcVal (x : Dc) : List Int := packN 8 [x.k, x.y, x.f, x.n]
def dlVal (x : Dl) : List Int := packN 8 [x.nd, x.o, x.l, x.c]
def held32 (n : Int) : Bool := decide (0 ≤ n) && decide (n ≤ 4294967295)
theorem held32_iff (n : Int) : held32 n = true ↔ 0 ≤ n ∧ n < 4294967296 := by unfold held32; simp only [Bool.and_eq_true, decide_eq_true_eq]; omega
def VS.putD (S : VS) (x : Dc) : VS := S.put (dKy x.i) (dcVal x)
def VS.putL (S : VS) (i j : Int) (x : Dl) : VS := S.put (lKy i j) (dlVal x)
/-- Lines put from a number on. -/
def putLs (S : VS) (i : Int) : Nat → List Dl → VS
  | _, [] => S
  | j, x :: r => putLs (S.putL i j x) i (j + 1) r
theorem putLs_snoc (i : Int) (x : Dl) : ∀ (l : List Dl) (S : VS) (j : Nat), putLs S i j (l ++ [x]) = (putLs S i j l).putL i ((j + l.length : Nat) : Int) x
  | [], S, j => rfl
  | y :: l, S, j => by
    rw [List.cons_append]
    unfold putLs
    rw [putLs_snoc i x l _ (j + 1), List.length_cons, show j + 1 + l.length = j + (l.length + 1) by omega]
theorem putLs_take (S : VS) (i : Int) {l : List Dl} {j : Nat} {x : Dl} (h : l[j]? = some x) : putLs S i 0 (l.take (j + 1)) = (putLs S i 0 (l.take j)).putL i j x := by
  obtain ⟨hj, rfl⟩ := List.getElem?_eq_some_iff.1 h
  rw [List.take_succ_eq_append_getElem hj, putLs_snoc, List.length_take, Nat.min_eq_left (by omega), Nat.zero_add]
/-- The document that stands there; its line. -/
def docAt (S : VS) (i : Int) : Option Dc := dcK (keyL 68 [i], (S.now (dKy i)).getD [])
def lineAt (S : VS) (i j : Int) : Option Dl := dlK (keyL 76 [i, j], (S.now (lKy i j)).getD [])
/-- The first lines, if all are there. -/
def linesAt (S : VS) (i : Int) : Nat → Option (List Dl)
  | 0 => some []
  | n + 1 => match linesAt S i n with
    | none => none
    | some l => match lineAt S i n with
      | none => none
      | some x => some (l ++ [x])
theorem linesAt_len {S : VS} {i : Int} : ∀ {n : Nat} {l : List Dl}, linesAt S i n = some l → l.length = n
  | 0, l, h => by cases h; rfl
  | n + 1, l, h => by
    unfold linesAt at h
    split at h
    · cases h
    · rename_i m hm
      split at h
      · cases h
      · cases h
        rw [List.length_append, linesAt_len hm]
        rfl
theorem linesAt_none {S : VS} {i : Int} : ∀ {n m : Nat}, n ≤ m → linesAt S i n = none → linesAt S i m = none
  | n, 0, hn, h => by
    obtain rfl : n = 0 := by omega
    exact h
  | n, m + 1, hn, h => by
    rcases Nat.lt_or_ge m n with hlt | hge
    · obtain rfl : n = m + 1 := by omega
      exact h
    · unfold linesAt
      rw [linesAt_none hge h]
def docIn (x : Dc) : Bool := decide (1 ≤ x.n) && decide (x.n ≤ 6)
/-- What Get tells. -/
def docGet (S : VS) (i : Int) : Option (Dc × List Dl) :=
  if held32 i = true then
    match docAt S i with
    | none => none
    | some d => if docIn d = true then (linesAt S i d.n.toNat).map fun l => (d, l) else none
  else none
def openL (x : Dl) : Int := wrap64 (wrap64 (x.o - x.l) - x.c)
def rightL (x : Dl) : Bool := [x.o, x.l, x.c, openL x].all fun n => !(decide (n < 0) || decide (n > 1152921504606846976))
/-- What Put answers, and leaves. -/
def putDoc (S : VS) (d : Dc) (l : List Dl) : (Int × Int) × VS :=
  if l.length < 1 ∨ l.length > 6 then ((0, 1), S)
  else if (nextE (seqV (S.now (tx (keyL 83 [2]))))).2 = 0 then ((seqV (S.now (tx (keyL 83 [2]))) + 1, 0), (putLs (S.next 2) (seqV (S.now (tx (keyL 83 [2]))) + 1) 0 l).putD ⟨seqV (S.now (tx (keyL 83 [2]))) + 1, d.k, d.y, d.f, l.length⟩)
  else ((0, 9), S)
theorem next_bad {S : VS} {n : Int} (h : (nextE (seqV (S.now (tx (keyL 83 [n]))))).2 ≠ 0) : S.next n = S ∧ nextE (seqV (S.now (tx (keyL 83 [n])))) = (0, 9) := by
  by_cases hc : seqV (S.now (tx (keyL 83 [n]))) < 0 ∨ seqV (S.now (tx (keyL 83 [n]))) ≥ 4294967295
  · exact ⟨by unfold VS.next; rw [if_pos hc], by unfold nextE; rw [if_pos hc]⟩
  · exfalso
    unfold nextE at h
    rw [if_neg hc] at h
    exact h rfl
theorem next_ok {S : VS} {n : Int} (h : (nextE (seqV (S.now (tx (keyL 83 [n]))))).2 = 0) : nextE (seqV (S.now (tx (keyL 83 [n])))) = (seqV (S.now (tx (keyL 83 [n]))) + 1, 0) ∧ 0 ≤ seqV (S.now (tx (keyL 83 [n]))) ∧ seqV (S.now (tx (keyL 83 [n]))) < 4294967295 := by
  by_cases hc : seqV (S.now (tx (keyL 83 [n]))) < 0 ∨ seqV (S.now (tx (keyL 83 [n]))) ≥ 4294967295
  · exfalso
    unfold nextE at h
    rw [if_pos hc] at h
    cases h
  · exact ⟨by unfold nextE; rw [if_neg hc], by omega, by omega⟩
/-- What Set leaves. -/
def setLine (S : VS) (i j : Int) (x : Dl) : Int × VS :=
  match docGet S i with
  | none => (7, S)
  | some (_, l) => if 0 ≤ j ∧ j < (l.length : Int) then (0, S.putL i j x) else (7, S)
/-- Documents of a year and a kind. -/
def docsK (y k : Int) (ps : List KV) : List Int := ps.filterMap fun p => match dcK p with
  | some d => if d.y = y ∧ d.k = k then some d.i else none
  | none => none
def allDocs (S : VS) (y k : Int) : List Int := docsK y k ((S.scan (tx [68])).map kvOf)
theorem docsK_len (y k : Int) (ps : List KV) : (docsK y k ps).length ≤ ps.length := List.length_filterMap_le _ _
theorem docsK_step {y k : Int} {ps : List KV} {j : Nat} {p : KV} (h : ps[j]? = some p) : docsK y k (ps.take (j + 1)) = docsK y k (ps.take j) ++ (match dcK p with
    | some d => if d.y = y ∧ d.k = k then [d.i] else []
    | none => []) := by
  obtain ⟨hj, rfl⟩ := List.getElem?_eq_some_iff.1 h
  unfold docsK
  rw [List.take_succ_eq_append_getElem hj, List.filterMap_append]
  congr 1
  simp only [List.filterMap_cons, List.filterMap_nil]
  cases dcK ps[j] with
  | none => rfl
  | some d => by_cases hh : d.y = y ∧ d.k = k <;> simp [hh]
theorem putE_doc (x : Dc) : putE (keyL 68 [x.i]) (dcVal x) = 0 := by
  unfold putE
  rw [if_neg]
  unfold dcVal
  rw [dKyLen, packN_length]
  simp
theorem putE_line (i j : Int) (x : Dl) : putE (keyL 76 [i, j]) (dlVal x) = 0 := by
  unfold putE
  rw [if_neg]
  unfold dlVal
  rw [lKyLen, packN_length]
  simp

/-- What P30.2 says. -/
theorem dcK_made {x : Dc} (h : DcOk x) (hi : held32 x.i = true) : dcK (keyL 68 [x.i], dcVal x) = some x := by
  have a := (held32_iff _).1 hi
  unfold dcK dcVal
  rw [numsR_made (i := 1) (j := 4) (by intro v hv; simp only [List.mem_cons, List.not_mem_nil, or_false] at hv; rw [hv]; exact a) (by
    intro v hv
    simp only [List.mem_cons, List.not_mem_nil, or_false] at hv
    rcases hv with rfl | rfl | rfl | rfl
    · exact h _ (by simp)
    · exact h _ (by simp)
    · exact h _ (by simp)
    · exact h _ (by simp)) rfl (by omega) rfl (by omega)]
  rfl
theorem dlK_made {i j : Int} {x : Dl} (h : DlOk x) (hi : held32 i = true) (hj : held32 j = true) : dlK (keyL 76 [i, j], dlVal x) = some x := by
  have a := (held32_iff _).1 hi
  have b := (held32_iff _).1 hj
  unfold dlK dlVal
  rw [numsR_made (i := 2) (j := 4) (by intro v hv; simp only [List.mem_cons, List.not_mem_nil, or_false] at hv; rcases hv with rfl | rfl <;> omega) (by
    intro v hv
    simp only [List.mem_cons, List.not_mem_nil, or_false] at hv
    rcases hv with rfl | rfl | rfl | rfl
    · exact h _ (by simp)
    · exact h _ (by simp)
    · exact h _ (by simp)
    · exact h _ (by simp)) rfl (by omega) rfl (by omega)]
  rfl
theorem tag_apart {s t : Int} (hs : 0 ≤ s ∧ s < 256) (ht : 0 ≤ t ∧ t < 256) (hst : s ≠ t) (l m : List Int) : tx (keyL s l) ≠ tx (keyL t m) := fun e => by
  have h := tx_inj (keyL_bytes hs l) (keyL_bytes ht m) e
  unfold keyL tagL at h
  injection h with h1 _
  exact hst h1
theorem lKy_inj {i j j' : Int} (hj : held32 j = true) (hj' : held32 j' = true) (h : lKy i j = lKy i j') : j = j' := by
  have a := (held32_iff _).1 hj
  have b := (held32_iff _).1 hj'
  have h1 := tx_inj (keyL_bytes (by omega) _) (keyL_bytes (by omega) _) h
  unfold keyL tagL at h1
  injection h1 with _ h2
  rw [List.take_of_length_le (by simp), List.take_of_length_le (by simp)] at h2
  simp only [List.map_cons, List.map_nil] at h2
  have h3 : putB (held4 i) 4 ++ (putB (held4 j) 4 ++ []) = putB (held4 i) 4 ++ (putB (held4 j') 4 ++ []) := h2
  have h4 := List.append_cancel_left h3
  rw [List.append_nil, List.append_nil] at h4
  have h5 := congrArg numOf h4
  have e1 : held4 j = j := by unfold held4; omega
  have e2 : held4 j' = j' := by unfold held4; omega
  rw [e1, e2, num4 a, num4 b] at h5
  exact h5
theorem putLs_ok (i : Int) : ∀ (l : List Dl) {S : VS} (j : Nat), S.Ok → (putLs S i j l).Ok
  | [], S, j, h => h
  | x :: r, S, j, h => by unfold putLs; exact putLs_ok i r (j + 1) (h.put _ _)
/-- Other keys stand. -/
theorem putLs_other (i : Int) {z : Txt} (hz : ∀ j, z ≠ lKy i j) : ∀ (l : List Dl) {S : VS} (j : Nat), S.Ok → (putLs S i j l).now z = S.now z
  | [], S, j, h => rfl
  | x :: r, S, j, h => by
    show (putLs (S.put (lKy i j) (dlVal x)) i (j + 1) r).now z = S.now z
    rw [putLs_other i hz r (j + 1) (h.put _ _), h.now_put, if_neg (fun e => hz _ e.symm)]
/-- A line that was put, and those put behind it. -/
theorem putLs_line (i : Int) : ∀ (l : List Dl) {S : VS} (j : Nat), S.Ok → j + l.length ≤ 100 → ∀ k : Nat, k < 100 → (putLs S i j l).now (lKy i k) = if j ≤ k ∧ k < j + l.length then (l[k - j]?).map dlVal else S.now (lKy i k)
  | [], S, j, h, hj, k, hk => by
    rw [if_neg (by rintro ⟨a, b⟩; rw [List.length_nil] at b; omega)]
    rfl
  | x :: r, S, j, h, hj, k, hk => by
    rw [List.length_cons] at hj ⊢
    show (putLs (S.put (lKy i j) (dlVal x)) i (j + 1) r).now (lKy i k) = _
    rw [putLs_line i r (j + 1) (h.put _ _) (by omega) k hk]
    by_cases hkj : k = j
    · subst hkj
      rw [if_neg (by omega), if_pos (by omega)]
      rw [h.now_put, if_pos rfl, Nat.sub_self]
      rfl
    · have hne : ¬ lKy i (j : Int) = lKy i (k : Int) := fun e => hkj (by
        have := lKy_inj ((held32_iff _).2 (by omega)) ((held32_iff _).2 (by omega)) e
        omega)
      by_cases hin : j + 1 ≤ k ∧ k < j + 1 + r.length
      · rw [if_pos hin, if_pos (by omega), show k - j = (k - (j + 1)) + 1 by omega, List.getElem?_cons_succ]
      · rw [if_neg hin, h.now_put, if_neg hne, if_neg (by omega)]
theorem linesAt_put {S : VS} (h : S.Ok) {i : Int} (hi : held32 i = true) {l : List Dl} (hl : ∀ x ∈ l, DlOk x) (h100 : l.length ≤ 100) {d : Dc} : ∀ n, n ≤ l.length → linesAt ((putLs S i 0 l).putD d) i n = some (l.take n)
  | 0, _ => rfl
  | n + 1, hn => by
    unfold linesAt
    rw [linesAt_put h hi hl h100 n (by omega)]
    have hx : l[n]? = some l[n] := List.getElem?_eq_getElem (by omega)
    have hnow : ((putLs S i 0 l).putD d).now (lKy i n) = some (dlVal l[n]) := by
      unfold VS.putD
      rw [(putLs_ok i l 0 h).now_put, if_neg (tag_apart (by omega) (by omega) (by omega) _ _), putLs_line i l 0 h (by omega) n (by omega), if_pos (by omega), Nat.sub_zero, hx]
      rfl
    have hline : lineAt ((putLs S i 0 l).putD d) i n = some l[n] := by
      unfold lineAt
      rw [hnow, Option.getD_some]
      exact dlK_made (hl _ (List.getElem_mem _)) hi ((held32_iff _).2 (by omega))
    simp only [hline]
    rw [List.take_succ_eq_append_getElem (by omega)]
theorem putDoc_ok {S : VS} {d : Dc} {l : List Dl} (h1 : ¬ (l.length < 1 ∨ l.length > 6)) {k : Int} (hk : seqV (S.now (tx (keyL 83 [2]))) = k) (h0 : (nextE k).2 = 0) : putDoc S d l = ((k + 1, 0), (putLs (S.next 2) (k + 1) 0 l).putD ⟨k + 1, d.k, d.y, d.f, l.length⟩) := by
  subst hk
  unfold putDoc
  rw [if_neg h1, if_pos h0]
/-- Put of a document into a view that has none: what Get tells, and All. -/
theorem put_got {d : Dc} (hd : DcOk d) {l : List Dl} (hl : ∀ x ∈ l, DlOk x) (h1 : 1 ≤ l.length) (h6 : l.length ≤ 6) :
    putDoc ⟨[], []⟩ d l = ((1, 0), (putLs ((⟨[], []⟩ : VS).next 2) 1 0 l).putD ⟨1, d.k, d.y, d.f, l.length⟩) ∧
    docGet ((putLs ((⟨[], []⟩ : VS).next 2) 1 0 l).putD ⟨1, d.k, d.y, d.f, l.length⟩) 1 = some (⟨1, d.k, d.y, d.f, l.length⟩, l) := by
  have h0 : (⟨[], []⟩ : VS).Ok := ⟨List.Pairwise.nil, List.Pairwise.nil⟩
  have hs : seqV ((⟨[], []⟩ : VS).now (tx (keyL 83 [2]))) = 0 := rfl
  have hok : ((⟨[], []⟩ : VS).next 2).Ok := by unfold VS.next; rw [hs, if_neg (by omega)]; exact h0.put _ _
  refine ⟨?_, ?_⟩
  · have := putDoc_ok (S := ⟨[], []⟩) (d := d) (l := l) (by omega) hs (by decide)
    rw [show (0 : Int) + 1 = 1 from rfl] at this
    exact this
  · unfold docGet
    rw [if_pos (by decide)]
    have hdc : DcOk ⟨1, d.k, d.y, d.f, l.length⟩ := by
      intro v hv
      simp only [List.mem_cons, List.not_mem_nil, or_false] at hv
      rcases hv with rfl | rfl | rfl | rfl | rfl
      · omega
      · exact hd _ (by simp)
      · exact hd _ (by simp)
      · exact hd _ (by simp)
      · omega
    have hda : docAt ((putLs ((⟨[], []⟩ : VS).next 2) 1 0 l).putD ⟨1, d.k, d.y, d.f, l.length⟩) 1 = some ⟨1, d.k, d.y, d.f, l.length⟩ := by
      have hn : ((putLs ((⟨[], []⟩ : VS).next 2) 1 0 l).putD ⟨1, d.k, d.y, d.f, l.length⟩).now (dKy 1) = some (dcVal ⟨1, d.k, d.y, d.f, l.length⟩) := ((putLs_ok 1 l 0 hok).now_put (dKy 1) (dKy 1) _).trans (if_pos (Eq.refl (dKy 1)))
      have hm : dcK (keyL 68 [1], dcVal ⟨1, d.k, d.y, d.f, l.length⟩) = some ⟨1, d.k, d.y, d.f, l.length⟩ := dcK_made (x := ⟨1, d.k, d.y, d.f, l.length⟩) hdc ((held32_iff 1).2 (by omega))
      exact (congrArg (fun z => dcK (keyL 68 [1], Option.getD z [])) hn).trans hm
    simp only [hda]
    rw [if_pos (show docIn ⟨1, d.k, d.y, d.f, l.length⟩ = true by unfold docIn; simp only [Bool.and_eq_true, decide_eq_true_eq]; omega)]
    have := linesAt_put (S := (⟨[], []⟩ : VS).next 2) hok (i := 1) (by decide) hl (by omega) (d := ⟨1, d.k, d.y, d.f, l.length⟩) l.length (Nat.le_refl _)
    simp only [Int.toNat_natCast]
    rw [this, List.take_length]
    rfl
end Go.Proofs.YtlcbmobdokicaaaGreat
