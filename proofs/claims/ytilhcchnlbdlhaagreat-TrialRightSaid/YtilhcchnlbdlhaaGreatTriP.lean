/-
  Balances and their sums over plain lists: what setting one does to the sum of some of them, that lines with what balances them change none of these sums, what the sums of each fund are. No program; sums are told modulo 2^64; no condition beyond what each says.
-/
import Derived.Test.YtilhcchnlbdlhaaGreatBalE
import Derived.Test.YtilhcchnlbdlhaaGreatLinA
import Derived.Test.YtilhcchnlbdlhaaGreatRecA
namespace Go.Proofs.YtilhcchnlbdlhaaGreat
open Go.RowKit Go.Maps
set_option maxRecDepth 100000
set_option linter.unusedVariables false

/-- What some lines are together. -/
def sumIf (p : Int → Int → Bool) (L : List Ln) : Int := ((L.filter fun x => p x.f x.o).map Ln.a).sum
theorem sumIf_append (p : Int → Int → Bool) (L M : List Ln) : sumIf p (L ++ M) = sumIf p L + sumIf p M := by
  unfold sumIf; rw [List.filter_append, List.map_append, List.sum_append]
theorem sumIf_cons (p : Int → Int → Bool) (x : Ln) (L : List Ln) : sumIf p (x :: L) = (if p x.f x.o then x.a else 0) + sumIf p L := by
  unfold sumIf
  rw [List.filter_cons]
  split <;> simp
theorem sumIf_nil (p : Int → Int → Bool) : sumIf p [] = 0 := rfl
theorem sumAt_cons (x : Ln) (L : List Ln) (g : Int) : sumAt (x :: L) g = (if x.f = g then x.a else 0) + sumAt L g := by
  rw [show x :: L = [x] ++ L from rfl, sumAt_append, sumAt_one]
theorem sumIf_part (p : Int → Bool) (f : Int) : ∀ (L : List Ln), sumIf (fun g _ => p g) L = sumIf (fun g _ => p g) (L.filter fun x => x.f != f) + if p f then sumAt L f else 0
  | [] => by simp [sumIf, sumAt]
  | x :: r => by
    have ih := sumIf_part p f r
    rw [sumIf_cons, sumAt_cons]
    by_cases e : x.f = f
    · rw [List.filter_cons_of_neg (by simp [e]), if_pos e, ih, e]
      split <;> omega
    · rw [List.filter_cons_of_pos (by simp [e]), sumIf_cons, if_neg e, ih]
      split <;> split <;> omega
theorem sumAt_part (f g : Int) : ∀ (L : List Ln), sumAt (L.filter fun x => x.f != f) g = if g = f then 0 else sumAt L g
  | [] => by simp [sumAt]
  | x :: r => by
    have ih := sumAt_part f g r
    rw [sumAt_cons]
    by_cases e : x.f = f
    · rw [List.filter_cons_of_neg (by simp [e]), ih, e]
      by_cases e2 : g = f
      · rw [if_pos e2, if_pos e2]
      · rw [if_neg e2, if_neg e2, if_neg (fun h => e2 h.symm)]; omega
    · rw [List.filter_cons_of_pos (by simp [e]), sumAt_cons, ih]
      by_cases e2 : g = f
      · rw [if_pos e2, if_pos e2, if_neg (by rw [e2]; exact e)]; rfl
      · rw [if_neg e2, if_neg e2]
/-- If each fund has nothing, some funds have nothing. -/
theorem sum_funds (p : Int → Bool) : ∀ (n : Nat) (L : List Ln), L.length ≤ n → (∀ f, sumAt L f % 18446744073709551616 = 0) → sumIf (fun g _ => p g) L % 18446744073709551616 = 0
  | 0, L, hn, h => by
    obtain rfl := List.eq_nil_of_length_eq_zero (Nat.le_zero.1 hn)
    rfl
  | n + 1, [], hn, h => rfl
  | n + 1, x :: r, hn, h => by
    have ih := sum_funds p n ((x :: r).filter fun y => y.f != x.f) (by
      rw [List.filter_cons, if_neg (by simp)]
      have := List.length_filter_le (fun y : Ln => y.f != x.f) r
      rw [List.length_cons] at hn
      omega) (fun f => by
      rw [sumAt_part]
      split
      · rfl
      · exact h f)
    rw [sumIf_part p x.f]
    have := h x.f
    split <;> omega
/-- What an entry's lines are to all accounts that some numbers name. -/
theorem sumAt_all (l : List Ln) (hl : ∀ x ∈ l, LnOk x) (f : Int) : sumAt (l ++ balL (fundsOf l)) f % 18446744073709551616 = 0 := by
  have h2 := balL_at (fundsOf l) (fundsOf_rise l) f
  rw [fundsOf_look l hl] at h2
  rw [sumAt_append]
  split at h2
  · have := wrap_mod (sumAt l f); simp only [Option.getD_some] at h2; omega
  · rename_i hn
    have : sumAt l f = 0 := by
      unfold sumAt
      rw [List.filter_eq_nil_iff.2 (fun y hy h => hn (List.any_eq_true.2 ⟨y, hy, h⟩))]
      rfl
    simp only [Option.getD_none] at h2; omega
/-- Is it a number by which funds owe one another? -/
def dueB (o : Int) : Bool := o == 1900 || o == 2900
theorem balL_due (L : FL) : ∀ x ∈ balL L, dueB (held4 x.o) = true := by
  intro x hx
  obtain ⟨p, hp, e⟩ := List.mem_filterMap.1 hx
  unfold balF at e
  split at e
  · cases e
  · cases e
    show dueB (held4 (dueOf p.2)) = true
    unfold dueOf
    split <;> decide
theorem sumIf_all {q : Int → Int → Bool} : ∀ {L : List Ln}, (∀ x ∈ L, q x.f x.o = true) → sumIf q L = sumAll L
  | [], _ => rfl
  | x :: r, h => by
    rw [sumIf_cons, if_pos (h x List.mem_cons_self), sumIf_all fun y hy => h y (List.mem_cons_of_mem _ hy)]
    unfold sumAll
    simp
theorem sumIf_none {q : Int → Int → Bool} : ∀ {L : List Ln}, (∀ x ∈ L, q x.f x.o = false) → sumIf q L = 0
  | [], _ => rfl
  | x :: r, h => by
    rw [sumIf_cons, if_neg (by rw [h x List.mem_cons_self]; decide), sumIf_none fun y hy => h y (List.mem_cons_of_mem _ hy)]
    rfl
theorem sum_due {l : List Ln} (hz : sumAll l % 18446744073709551616 = 0) (hd : ∀ x ∈ l, dueB (held4 x.o) = false) : sumIf (fun _ o => dueB (held4 o)) (l ++ balL (fundsOf l)) % 18446744073709551616 = 0 := by
  rw [sumIf_append, sumIf_none hd, sumIf_all (balL_due _)]
  have := bal_nothing hz
  omega
theorem held_due {o : Int} (h1 : o ≠ 1900) (h2 : o ≠ 2900) : dueB (held4 o) = false := by
  unfold dueB held4
  simp
  omega

/-- What a pair is to the sum of some accounts of a year. -/
def wtP (p : Int → Int → Bool) (y : Int) (q : Txt × List Int) : Int := if (tx (keyL 66 [y])).isPrefixOf q.1 then (match lineK (kvOf q) with
  | some l => if p l.f l.o then l.a else 0
  | none => 0) else 0
def balW (p : Int → Int → Bool) (y : Int) (L : TL) : Int := (L.map (wtP p y)).sum
theorem balW_scan (p : Int → Int → Bool) (y : Int) (S : VS) : sumIf p (linesK ((S.scan (tx (keyL 66 [y]))).map kvOf)) = balW p y S.nowL := by
  unfold VS.scan balW linesK
  generalize S.nowL = L
  induction L with
  | nil => rfl
  | cons q r ih =>
    rw [List.map_cons, List.sum_cons]
    have e1 : wtP p y q = if (tx (keyL 66 [y])).isPrefixOf q.1 then (match lineK (kvOf q) with
      | some l => if p l.f l.o then l.a else 0
      | none => 0) else 0 := rfl
    rw [e1, ← ih]
    by_cases h : (tx (keyL 66 [y])).isPrefixOf q.1 = true
    · rw [List.filter_cons_of_pos (p := fun p : Txt × List Int => List.isPrefixOf (tx (keyL 66 [y])) p.1) h, if_pos h, List.map_cons, List.filterMap_cons]
      cases e : lineK (kvOf q) with
      | none => simp
      | some l => simp only [sumIf_cons]
    · rw [List.filter_cons_of_neg (p := fun p : Txt × List Int => List.isPrefixOf (tx (keyL 66 [y])) p.1) h, if_neg h, Int.zero_add]
theorem balW_set (p : Int → Int → Bool) (y : Int) (x : Txt) (v : List Int) : ∀ {L : TL}, RiseT L → balW p y (setT L x v) = balW p y L - (match lookT L x with
  | some o => wtP p y (x, o)
  | none => 0) + wtP p y (x, v)
  | [], _ => by simp [balW, setT, lookT]
  | q :: r, h => by
    have ih := balW_set p y x v h.tail
    rw [lookT_cons]
    unfold setT
    split
    · rename_i hlt
      rw [if_neg (fun e => by rw [e] at hlt; exact tlt_irrefl _ hlt)]
      show wtP p y q + balW p y (setT r x v) = wtP p y q + balW p y r - _ + _
      rw [ih]
      omega
    · split
      · rename_i e
        obtain ⟨k, o⟩ := q
        obtain rfl : k = x := e
        show wtP p y (k, v) + balW p y r = wtP p y (k, o) + balW p y r - wtP p y (k, o) + wtP p y (k, v)
        omega
      · rename_i n1 n2
        have hnone : lookT r x = none := lookT_none.2 fun q' hq e => by
          have := h.head q' hq
          rw [e] at this
          exact n1 this
        rw [hnone]
        show wtP p y (x, v) + (wtP p y q + balW p y r) = wtP p y q + balW p y r - 0 + wtP p y (x, v)
        omega
theorem balW_del (p : Int → Int → Bool) (y : Int) (x : Txt) : ∀ {L : TL}, RiseT L → balW p y (delT L x) = balW p y L - (match lookT L x with
  | some o => wtP p y (x, o)
  | none => 0)
  | [], _ => by simp [balW, delT, lookT]
  | q :: r, h => by
    have ih := balW_del p y x h.tail
    rw [lookT_cons]
    show balW p y (List.filter _ (q :: r)) = _
    rw [List.filter_cons]
    by_cases e : q.1 = x
    · rw [if_neg (by simpa using e), if_pos e]
      have hnone : lookT r x = none := lookT_none.2 fun q' hq e' => by
        have := h.head q' hq
        rw [e, e'] at this
        exact tlt_irrefl _ this
      have e2 : r.filter (fun p => decide (p.1 ≠ x)) = r := List.filter_eq_self.2 fun q' hq => by
        simpa using lookT_none.1 hnone q' hq
      rw [e2]
      obtain ⟨k, o⟩ := q
      obtain rfl : k = x := e
      show balW p y r = wtP p y (k, o) + balW p y r - wtP p y (k, o)
      omega
    · rw [if_pos (by simpa using e), if_neg e]
      show wtP p y q + balW p y (delT r x) = wtP p y q + balW p y r - _
      rw [ih]
      omega
theorem VS.Ok.nowL_put {S : VS} (h : S.Ok) (x : Txt) (v : List Int) : (S.put x v).nowL = setT S.nowL x v :=
  RiseT.ext (h.put x v).nowL (h.nowL.set x v) fun z => by rw [(h.put x v).look, h.now_put, lookT_setT h.nowL, h.look]
theorem VS.Ok.nowL_del {S : VS} (h : S.Ok) (x : Txt) : (S.del x).nowL = delT S.nowL x :=
  RiseT.ext (h.del x).nowL (h.nowL.del x) fun z => by rw [(h.del x).look, h.now_del, lookT_delT, h.look]

/-- A balance's key: its bytes. -/
theorem keyL_held (t : Int) (l : List Int) (h : l.length ≤ 7) : keyL t l = t :: packN 4 (l.map held4) := by
  unfold keyL tagL
  rw [List.take_of_length_le h]
theorem packN_three (a b c : Int) : packN 4 [a, b, c] = putB a 4 ++ (putB b 4 ++ (putB c 4 ++ [])) := rfl
theorem held_in (x : Int) : 0 ≤ held4 x ∧ held4 x < 4294967296 := by unfold held4; omega
theorem bal_prefix (y f o : Int) : (tx (keyL 66 [y])).isPrefixOf (bKy y f o) = true := by
  rw [List.isPrefixOf_iff_prefix]
  refine ⟨tx (putB (held4 f) 4 ++ putB (held4 o) 4), ?_⟩
  unfold bKy
  rw [keyL_held 66 [y] (by simp), keyL_held 66 [y, f, o] (by simp)]
  show tx (66 :: packN 4 [held4 y]) ++ _ = tx (66 :: packN 4 [held4 y, held4 f, held4 o])
  rw [packN_three, show packN 4 [held4 y] = putB (held4 y) 4 ++ [] from rfl]
  unfold tx
  simp
theorem bal_split (y f o : Int) : splitK (keyL 66 [y, f, o]) = ([held4 y, held4 f, held4 o], 66, true) := by
  have e : keyL 66 [y, f, o] = keyL 66 [held4 y, held4 f, held4 o] := by
    rw [keyL_held 66 [y, f, o] (by simp), keyL_held 66 [held4 y, held4 f, held4 o] (by simp)]
    show _ :: packN 4 [held4 y, held4 f, held4 o] = _ :: packN 4 [held4 (held4 y), held4 (held4 f), held4 (held4 o)]
    have hh : ∀ x, held4 (held4 x) = held4 x := fun x => by unfold held4; omega
    rw [hh, hh, hh]
  unfold splitK
  rw [e, split_key (fun x hx => by
    simp only [List.mem_cons, List.not_mem_nil, or_false] at hx
    rcases hx with rfl | rfl | rfl <;> exact held_in _) (by simp)]
theorem bal_line (y f o : Int) (v : List Int) : lineK (kvOf (bKy y f o, v)) = if (numB v).2 = true then some ⟨held4 f, held4 o, 0, (numB v).1⟩ else none := by
  have hk : (kvOf (bKy y f o, v)).1 = keyL 66 [y, f, o] := by
    show by_ (tx (keyL 66 [y, f, o])) = _
    exact by_tx (tagL_bytes (by omega) _)
  have hv : (kvOf (bKy y f o, v)).2 = v := rfl
  unfold lineK
  rw [hk, hv, bal_split]
  rfl
theorem numB_no {v : List Int} (h : (numB v).2 = false) : (numB v).1 = 0 := by
  unfold numB at h ⊢
  split
  · rename_i e; rw [if_pos e] at h; cases h
  · rfl
theorem wtP_bal (p : Int → Int → Bool) (y f o : Int) (v : List Int) : wtP p y (bKy y f o, v) = if p (held4 f) (held4 o) then seqV (some v) else 0 := by
  unfold wtP
  rw [if_pos (bal_prefix y f o), bal_line]
  have h1 : (numB v).1 = seqV (some v) := numB_one (some v)
  cases h : (numB v).2 with
  | true => rw [if_pos rfl]; show (if p (held4 f) (held4 o) then (numB v).1 else 0) = _; rw [h1]
  | false =>
    rw [if_neg (by decide)]
    rw [numB_no h] at h1
    rw [← h1]
    show (0 : Int) = (if p (held4 f) (held4 o) = true then 0 else 0)
    split <;> rfl
theorem seqV_none : seqV none = 0 := rfl
theorem balW_setB {S : VS} (h : S.Ok) (p : Int → Int → Bool) (y f o : Int) {n : Int} (hn : FitsI n) : balW p y (S.setB (bKy y f o) n).nowL = balW p y S.nowL + if p (held4 f) (held4 o) then n - seqV (S.now (bKy y f o)) else 0 := by
  unfold VS.setB
  have h1 : (match lookT S.nowL (bKy y f o) with
    | some x => wtP p y (bKy y f o, x)
    | none => 0) = if p (held4 f) (held4 o) then seqV (S.now (bKy y f o)) else 0 := by
    rw [h.look]
    cases S.now (bKy y f o) with
    | none =>
      show (0 : Int) = (if p (held4 f) (held4 o) = true then 0 else 0)
      split <;> rfl
    | some x => exact wtP_bal p y f o x
  split
  · rename_i h0
    rw [h.nowL_del, balW_del p y _ h.nowL, h1, h0]
    split <;> omega
  · rw [h.nowL_put, balW_set p y _ _ h.nowL, h1, wtP_bal, seqV_pack ⟨by have := hn.1; omega, by have := hn.2; omega⟩]
    split <;> omega
theorem balW_addB {S : VS} (h : S.Ok) (p : Int → Int → Bool) (y f o a : Int) (h0 : (amtAddR (seqV (S.now (bKy y f o))) a).2 = 0) : balW p y (S.addB (bKy y f o) a).nowL = balW p y S.nowL + if p (held4 f) (held4 o) then a else 0 := by
  unfold VS.addB
  obtain ⟨_, _, h3, h4⟩ := amtAdd_yes h0
  rw [if_pos h0, h4, balW_setB h p y f o h3]
  split <;> omega
/-- A key of another table is no balance. -/
theorem wtP_other (p : Int → Int → Bool) (y : Int) {t : Int} (ht : 0 ≤ t ∧ t < 256) (h66 : t ≠ 66) (l v : List Int) : wtP p y (tx (keyL t l), v) = 0 := by
  unfold wtP
  rw [if_neg]
  intro h
  obtain ⟨n, rfl⟩ := Int.eq_ofNat_of_zero_le ht.1
  rw [List.isPrefixOf_iff_prefix] at h
  obtain ⟨r, hr⟩ := h
  have h1 : (tx (keyL 66 [y]) ++ r)[0]? = some (UInt8.ofNat 66) := rfl
  rw [hr] at h1
  have h2 : (tx (keyL (n : Int) l))[0]? = some (UInt8.ofNat n) := rfl
  rw [h2] at h1
  have h3 : (UInt8.ofNat n).toNat = (UInt8.ofNat 66).toNat := congrArg UInt8.toNat (Option.some.inj h1)
  rw [UInt8.toNat_ofNat', UInt8.toNat_ofNat'] at h3
  omega
theorem balW_other {S : VS} (h : S.Ok) (p : Int → Int → Bool) (y : Int) {t : Int} (ht : 0 ≤ t ∧ t < 256) (h66 : t ≠ 66) (l v : List Int) : balW p y (S.put (tx (keyL t l)) v).nowL = balW p y S.nowL := by
  rw [h.nowL_put, balW_set p y _ _ h.nowL, wtP_other p y ht h66]
  split
  · rw [wtP_other p y ht h66]; omega
  · omega

/-- A key with three numbers. -/
theorem key_of3 {b : List Int} (hb : AllBytes b) (h1 : (splitK b).2.2 = true) (h3 : (splitK b).1.length = 3) : ∃ t x y z, b = keyL t [x, y, z] ∧ (splitK b).1 = [x, y, z] ∧ InU32 [x, y, z] ∧ b[0]? = some t := by
  unfold splitK splitR at h1 h3 ⊢
  split at h1
  · rename_i hl
    rw [if_pos hl] at h3 ⊢
    have h3 : (unpackN 4 b 1 (b.length / 4)).length = 3 := h3
    rw [unpackN_length] at h3
    have hl13 : b.length = 13 := by omega
    rw [show b.length / 4 = 3 by omega]
    match b, hl13 with
    | [t, a0, a1, a2, a3, b0, b1, b2, b3, c0, c1, c2, c3], _ =>
      have A := four_bytes (hb a0 (by simp)) (hb a1 (by simp)) (hb a2 (by simp)) (hb a3 (by simp))
      have B := four_bytes (hb b0 (by simp)) (hb b1 (by simp)) (hb b2 (by simp)) (hb b3 (by simp))
      have C := four_bytes (hb c0 (by simp)) (hb c1 (by simp)) (hb c2 (by simp)) (hb c3 (by simp))
      have hu : InU32 [numOf [a0, a1, a2, a3], numOf [b0, b1, b2, b3], numOf [c0, c1, c2, c3]] := fun v hv => by
        simp only [List.mem_cons, List.not_mem_nil, or_false] at hv
        rcases hv with rfl | rfl | rfl
        · exact A.1
        · exact B.1
        · exact C.1
      refine ⟨t, numOf [a0, a1, a2, a3], numOf [b0, b1, b2, b3], numOf [c0, c1, c2, c3], ?_, rfl, hu, rfl⟩
      rw [keyL_held t _ (by simp), map_held4 hu, packN_three, A.2, B.2, C.2]
      rfl
  · cases h1
theorem line_key {S : VS} (h : S.Ok) {y : Int} (hy : 0 ≤ y ∧ y < 4294967296) {q : Txt × List Int} (hq : q ∈ S.scan (tx (keyL 66 [y]))) {l : Ln} (hl : lineK (kvOf q) = some l) : q.1 = bKy y l.f l.o ∧ InU32 [y, l.f, l.o] := by
  have hp := ((scan_mem h).1 hq).2
  unfold lineK at hl
  split at hl
  · rename_i hs
    obtain ⟨t, x, f, o, hk, hn, hu, ht⟩ := key_of3 (by_bytes q.1) hs.1 hs.2
    split at hl
    · obtain rfl := Option.some.inj hl
      have hk' : (kvOf q).1 = keyL t [x, f, o] := hk
      have hn' : (splitK (kvOf q).1).1 = [x, f, o] := hn
      rw [hn']
      have hkey : q.1 = tx (keyL t [x, f, o]) := by rw [← hk', show (kvOf q).1 = by_ q.1 from rfl, tx_by]
      rw [hkey, List.isPrefixOf_iff_prefix] at hp
      obtain ⟨r, hr⟩ := hp
      have tb : 0 ≤ t ∧ t < 256 := by
        have := List.mem_of_getElem? ht
        exact by_bytes q.1 t this
      have e5 : (keyL t [x, f, o]).take 5 = keyL 66 [y] := by
        have h1 : (tx (keyL t [x, f, o])).take 5 = tx (keyL 66 [y]) := by
          rw [← hr, List.take_append_of_le_length (by rw [tx_length, bYearLen]; omega), List.take_of_length_le (by rw [tx_length, bYearLen]; omega)]
        rw [tx_take] at h1
        exact tx_inj (fun z hz => tagL_bytes tb _ z (List.mem_of_mem_take hz)) (tagL_bytes (by omega) _) h1
      rw [keyL_held t [x, f, o] (by simp), keyL_held 66 [y] (by simp), map_held4 hu] at e5
      have e6 : t :: ((putB x 4 ++ (putB f 4 ++ (putB o 4 ++ []))).take 4) = 66 :: (putB (held4 y) 4 ++ []) := e5
      rw [List.take_append_of_le_length (by rw [putB_length]; omega), List.take_of_length_le (by rw [putB_length]; omega), List.append_nil] at e6
      injection e6 with e7 e8
      have hx := hu x (by simp)
      have e9 : x = y := by
        have h1 := congrArg numOf e8
        have hyy : held4 y = y := by unfold held4; omega
        rw [hyy, num4 hx, num4 hy] at h1
        exact h1
      subst e7 e9
      exact ⟨hkey, hu⟩
    · cases hl
  · cases hl
/-- The lines of a year stand by their funds. -/
theorem lines_rise {S : VS} (h : S.Ok) {y : Int} (hy : 0 ≤ y ∧ y < 4294967296) : (linesK ((S.scan (tx (keyL 66 [y]))).map kvOf)).Pairwise (fun a b => a.f ≤ b.f) := by
  unfold linesK
  have hr : RiseT (S.scan (tx (keyL 66 [y]))) := h.nowL.filter _
  rw [List.pairwise_filterMap, List.pairwise_map]
  refine hr.imp_of_mem fun {p q} hp hq hpq a ha b hb => ?_
  obtain ⟨k1, u1⟩ := line_key h hy hp ha
  obtain ⟨k2, u2⟩ := line_key h hy hq hb
  rw [k1, k2] at hpq
  have h1 := (cmpB_lt _ _).2 hpq
  rw [cmpT_key (by omega) u1 u2 (by simp) (by simp)] at h1
  unfold cmpI cmp1 at h1
  rw [if_neg (Int.lt_irrefl y), if_neg (Int.lt_irrefl y)] at h1
  simp only [cmpI, cmp1] at h1
  by_cases h2 : a.f ≤ b.f
  · exact h2
  · exfalso
    revert h1
    simp [show ¬ a.f < b.f by omega, show b.f < a.f by omega]

/-- What a fund has. -/
structure Sm where
  f : Int
  d : Int
  c : Int
def upS (s : Sm) (a : Int) : Sm := if a > 0 then ⟨s.f, IntKind.i64.wrap (s.d + a), s.c⟩ else ⟨s.f, s.d, IntKind.i64.wrap (s.c - a)⟩
def sumStep (acc : List Sm) (l : Ln) : List Sm := match acc.getLast? with
  | some s => if s.f = l.f then acc.dropLast ++ [upS s l.a] else acc ++ [upS ⟨l.f, 0, 0⟩ l.a]
  | none => acc ++ [upS ⟨l.f, 0, 0⟩ l.a]
def sumsF (L : List Ln) : List Sm := L.foldl sumStep []
theorem upS_f (s : Sm) (a : Int) : (upS s a).f = s.f := by unfold upS; split <;> rfl
theorem upS_mod (s : Sm) (a k : Int) (h : (s.d - s.c - k) % 18446744073709551616 = 0) (hd : B64 s.d) (hc : B64 s.c) : ((upS s a).d - (upS s a).c - (k + a)) % 18446744073709551616 = 0 ∧ B64 (upS s a).d ∧ B64 (upS s a).c := by
  unfold upS
  split
  · have := wrap_mod (s.d + a)
    exact ⟨by simp only []; omega, wrap_in _, hc⟩
  · have := wrap_mod (s.c - a)
    exact ⟨by simp only []; omega, hd, wrap_in _⟩
theorem sumsF_snoc (L : List Ln) (x : Ln) : sumsF (L ++ [x]) = sumStep (sumsF L) x := by unfold sumsF; rw [List.foldl_append]; rfl
/-- What stands behind some lines: each fund once, rising, the last line's the last. -/
def SumsAt (L : List Ln) (A : List Sm) : Prop := (∀ s ∈ A, (s.d - s.c - sumAt L s.f) % 18446744073709551616 = 0 ∧ B64 s.d ∧ B64 s.c) ∧ A.Pairwise (fun a b => a.f < b.f) ∧ (∀ x ∈ L, ∃ s ∈ A, s.f = x.f) ∧ ∀ s ∈ A, ∃ x ∈ L, x.f = s.f
theorem sumsAt_all (L : List Ln) (hs : L.Pairwise (fun a b => a.f ≤ b.f)) : SumsAt L (sumsF L) := by
  revert hs
  refine snoc_ind (P := fun L => L.Pairwise (fun a b => a.f ≤ b.f) → SumsAt L (sumsF L)) (fun _ => ⟨(fun s h => by cases h), List.Pairwise.nil, (fun x h => by cases h), (fun s h => by cases h)⟩) (fun L x ih hs => ?_) L
  obtain ⟨p1, _, p3⟩ := List.pairwise_append.1 hs
  obtain ⟨i1, i2, i3, i4⟩ := ih p1
  rw [sumsF_snoc]
  generalize sumsF L = A at i1 i2 i3 i4
  have zz : B64 0 := by unfold B64; omega
  rcases List.eq_nil_or_concat A with rfl | ⟨A0, s, rfl⟩
  · obtain rfl : L = [] := List.eq_nil_iff_forall_not_mem.2 fun z hz => by obtain ⟨s, hs, _⟩ := i3 z hz; cases hs
    show SumsAt [x] [upS ⟨x.f, 0, 0⟩ x.a]
    obtain ⟨u1, u2, u3⟩ := upS_mod ⟨x.f, 0, 0⟩ x.a 0 rfl zz zz
    refine ⟨fun s hs => ?_, List.pairwise_singleton _ _, fun z hz => ⟨_, List.mem_cons_self, ?_⟩, fun s hs => ⟨x, List.mem_cons_self, ?_⟩⟩
    · obtain rfl := List.mem_singleton.1 hs
      rw [upS_f, sumAt_one, if_pos rfl]
      rw [Int.zero_add] at u1
      exact ⟨u1, u2, u3⟩
    · obtain rfl := List.mem_singleton.1 hz
      rw [upS_f]
    · obtain rfl := List.mem_singleton.1 hs
      rw [upS_f]
  · have hst : sumStep (A0 ++ [s]) x = if s.f = x.f then A0 ++ [upS s x.a] else A0 ++ [s] ++ [upS ⟨x.f, 0, 0⟩ x.a] := by
      unfold sumStep
      rw [List.getLast?_append, List.getLast?_singleton, List.dropLast_concat]
      rfl
    rw [List.concat_eq_append, hst]
    rw [List.concat_eq_append] at i1 i2 i3 i4
    obtain ⟨j1, _, j3⟩ := List.pairwise_append.1 i2
    obtain ⟨z0, hz0, ez0⟩ := i4 s (by simp)
    have hsx : s.f ≤ x.f := by rw [← ez0]; exact p3 z0 hz0 x List.mem_cons_self
    by_cases e : s.f = x.f
    · rw [if_pos e]
      obtain ⟨h1, h2, h3⟩ := i1 s (by simp)
      obtain ⟨u1, u2, u3⟩ := upS_mod s x.a (sumAt L s.f) h1 h2 h3
      refine ⟨fun t ht => ?_, List.pairwise_append.2 ⟨j1, List.pairwise_singleton _ _, fun a ha b hb => by obtain rfl := List.mem_singleton.1 hb; rw [upS_f]; exact j3 a ha s List.mem_cons_self⟩, fun z hz => ?_, fun t ht => ?_⟩
      · rcases List.mem_append.1 ht with ht | ht
        · have hlt := j3 t ht s List.mem_cons_self
          rw [sumAt_append, sumAt_one, if_neg (by omega), Int.add_zero]
          exact i1 t (List.mem_append_left _ ht)
        · obtain rfl := List.mem_singleton.1 ht
          rw [upS_f, sumAt_append, sumAt_one, if_pos e.symm]
          exact ⟨u1, u2, u3⟩
      · rcases List.mem_append.1 hz with hz | hz
        · obtain ⟨t, ht, et⟩ := i3 z hz
          rcases List.mem_append.1 ht with ht | ht
          · exact ⟨t, List.mem_append_left _ ht, et⟩
          · obtain rfl := List.mem_singleton.1 ht
            exact ⟨upS t x.a, by simp, by rw [upS_f]; exact et⟩
        · obtain rfl := List.mem_singleton.1 hz
          exact ⟨upS s z.a, by simp, by rw [upS_f]; exact e⟩
      · rcases List.mem_append.1 ht with ht | ht
        · obtain ⟨z, hz, ez⟩ := i4 t (List.mem_append_left _ ht)
          exact ⟨z, List.mem_append_left _ hz, ez⟩
        · obtain rfl := List.mem_singleton.1 ht
          exact ⟨x, by simp, by rw [upS_f]; exact e.symm⟩
    · rw [if_neg e]
      have hlt : ∀ t ∈ A0 ++ [s], t.f < x.f := fun t ht => by
        rcases List.mem_append.1 ht with ht | ht
        · have := j3 t ht s List.mem_cons_self; omega
        · obtain rfl := List.mem_singleton.1 ht; omega
      have hz : sumAt L x.f = 0 := by
        unfold sumAt
        rw [List.filter_eq_nil_iff.2 (fun z hz h => by
          obtain ⟨t, ht, et⟩ := i3 z hz
          have := hlt t ht
          have : z.f = x.f := by simpa using h
          omega)]
        rfl
      obtain ⟨u1, u2, u3⟩ := upS_mod ⟨x.f, 0, 0⟩ x.a 0 rfl zz zz
      refine ⟨fun t ht => ?_, List.pairwise_append.2 ⟨i2, List.pairwise_singleton _ _, fun a ha b hb => by obtain rfl := List.mem_singleton.1 hb; rw [upS_f]; exact hlt a ha⟩, fun z hz => ?_, fun t ht => ?_⟩
      · rcases List.mem_append.1 ht with ht | ht
        · have := hlt t ht
          rw [sumAt_append, sumAt_one, if_neg (by omega), Int.add_zero]
          exact i1 t ht
        · obtain rfl := List.mem_singleton.1 ht
          rw [upS_f, sumAt_append, sumAt_one, if_pos rfl, hz]
          exact ⟨u1, u2, u3⟩
      · rcases List.mem_append.1 hz with hz | hz
        · obtain ⟨t, ht, et⟩ := i3 z hz
          exact ⟨t, List.mem_append_left _ ht, et⟩
        · obtain rfl := List.mem_singleton.1 hz
          exact ⟨_, List.mem_append_right _ List.mem_cons_self, by rw [upS_f]⟩
      · rcases List.mem_append.1 ht with ht | ht
        · obtain ⟨z, hz, ez⟩ := i4 t ht
          exact ⟨z, List.mem_append_left _ hz, ez⟩
        · obtain rfl := List.mem_singleton.1 ht
          exact ⟨x, by simp, by rw [upS_f]⟩
/-- If each fund has nothing, debits are as credits. -/
theorem sums_level {L : List Ln} (hs : L.Pairwise (fun a b => a.f ≤ b.f)) (hz : ∀ F, sumAt L F % 18446744073709551616 = 0) : ∀ s ∈ sumsF L, s.d = s.c := by
  intro s h
  obtain ⟨h1, h2, h3⟩ := (sumsAt_all L hs).1 s h
  have := hz s.f
  unfold B64 at h2 h3
  omega
theorem sumAt_if (L : List Ln) (F : Int) : sumAt L F = sumIf (fun f _ => f == F) L := rfl
end Go.Proofs.YtilhcchnlbdlhaaGreat
