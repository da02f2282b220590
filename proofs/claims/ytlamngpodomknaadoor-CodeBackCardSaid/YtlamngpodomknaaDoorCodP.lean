/-
  Codes of accounts as lists of bytes: the digits of a fund and of an object, what a text reads as, and that both ways of reading it are one. Plain facts; no condition.
-/
import Derived.Test.YtlamngpodomknaaDoorAmtU
import Derived.Lib.IndexMore
namespace Go.Proofs.YtlamngpodomknaaDoor
set_option maxRecDepth 100000
set_option linter.unusedVariables false

/-- May n be a fund, an object? -/
def fundB (n : Int) : Bool := decide (100 ≤ n) && decide (n ≤ 999)
def objB (n : Int) : Bool := decide (1000 ≤ n) && decide (n ≤ 5999)
theorem fund_iff (n : Int) : fundB n = true ↔ 100 ≤ n ∧ n ≤ 999 := by simp [fundB]
theorem obj_iff (n : Int) : objB n = true ↔ 1000 ≤ n ∧ n ≤ 5999 := by simp [objB]
/-- A code. -/
def printL (f o : Int) : List UInt8 := if (fundB f && objB o) = true then Lib.itoa f ++ 46 :: Lib.itoa o else []
/-- A digit. -/
def isDig (c : UInt8) : Bool := decide (48 ≤ c.toNat) && decide (c.toNat ≤ 57)
/-- What bytes tell, one by one. -/
def valI (l : List UInt8) : Int := l.foldl (fun n c => n * 10 + (c.toNat : Int) - 48) 0
theorem valI_snoc (l : List UInt8) (c : UInt8) : valI (l ++ [c]) = valI l * 10 + (c.toNat : Int) - 48 := by simp [valI]
/-- What just so many digits tell; 0 of all else. -/
def numL (l : List UInt8) (d : Nat) : Int := if l.length = d ∧ l.all isDig = true then valI l else 0
/-- What is read of a code, by the dot. -/
def parseC (l : List UInt8) : Int × Int × Bool :=
  let f := numL (Lib.cut l [46]).1 3
  let o := numL (Lib.cut l [46]).2.1 4
  if (fundB f && objB o) = true then (f, o, true) else (0, 0, false)
/-- What is read of a code, by its places. -/
def parseR (l : List UInt8) : Int × Int × Bool :=
  if l.length = 8 then
    if printL (valI (l.take 3)) (valI ((l.drop 4).take 4)) = l then (valI (l.take 3), valI ((l.drop 4).take 4), true) else (0, 0, false)
  else (0, 0, false)

theorem digit_nat {n : Nat} (h : n < 10) : (UInt8.ofNat (48 + n)).toNat = 48 + n := by simp; omega
theorem dig_is {n : Nat} (h : n < 10) : isDig (UInt8.ofNat (48 + n)) = true := by
  unfold isDig
  rw [digit_nat h]
  simp
  omega
theorem dig_of {c : UInt8} (h : isDig c = true) : ∃ n, n < 10 ∧ c = UInt8.ofNat (48 + n) := by
  unfold isDig at h
  simp at h
  refine ⟨c.toNat - 48, by omega, ?_⟩
  rw [show 48 + (c.toNat - 48) = c.toNat by omega]
  simp

/-- The digits of three and of four. -/
theorem dec3 {a b c : Nat} (ha : a < 10) (h0 : 0 < a) (hb : b < 10) (hc : c < 10) : Lib.decDigits (a * 100 + b * 10 + c) = [UInt8.ofNat (48 + a), UInt8.ofNat (48 + b), UInt8.ofNat (48 + c)] := by
  rw [Lib.decDigits, dif_neg (by omega), show (a * 100 + b * 10 + c) / 10 = a * 10 + b by omega, show (a * 100 + b * 10 + c) % 10 = c by omega,
    Lib.decDigits_two (by omega) (by omega), show (a * 10 + b) / 10 = a by omega, show (a * 10 + b) % 10 = b by omega]
  rfl
theorem dec4 {a b c d : Nat} (ha : a < 10) (h0 : 0 < a) (hb : b < 10) (hc : c < 10) (hd : d < 10) : Lib.decDigits (a * 1000 + b * 100 + c * 10 + d) = [UInt8.ofNat (48 + a), UInt8.ofNat (48 + b), UInt8.ofNat (48 + c), UInt8.ofNat (48 + d)] := by
  rw [Lib.decDigits, dif_neg (by omega), show (a * 1000 + b * 100 + c * 10 + d) / 10 = a * 100 + b * 10 + c by omega, show (a * 1000 + b * 100 + c * 10 + d) % 10 = d by omega,
    dec3 ha h0 hb hc]
  rfl
theorem val3 {a b c : Nat} (ha : a < 10) (hb : b < 10) (hc : c < 10) : valI [UInt8.ofNat (48 + a), UInt8.ofNat (48 + b), UInt8.ofNat (48 + c)] = (a * 100 + b * 10 + c : Nat) := by
  unfold valI
  simp only [List.foldl_cons, List.foldl_nil, digit_nat ha, digit_nat hb, digit_nat hc]
  omega
theorem val4 {a b c d : Nat} (ha : a < 10) (hb : b < 10) (hc : c < 10) (hd : d < 10) : valI [UInt8.ofNat (48 + a), UInt8.ofNat (48 + b), UInt8.ofNat (48 + c), UInt8.ofNat (48 + d)] = (a * 1000 + b * 100 + c * 10 + d : Nat) := by
  unfold valI
  simp only [List.foldl_cons, List.foldl_nil, digit_nat ha, digit_nat hb, digit_nat hc, digit_nat hd]
  omega
theorem itoa_nat (n : Nat) : Lib.itoa (n : Int) = Lib.decDigits n := by
  unfold Lib.itoa
  rw [if_neg (by omega)]
  rfl

/-- What a code reads as. -/
theorem code_shape {f o : Int} (h : (fundB f && objB o) = true) : ∃ a b c p q r s : Nat, a < 10 ∧ 0 < a ∧ b < 10 ∧ c < 10 ∧ p < 10 ∧ 0 < p ∧ q < 10 ∧ r < 10 ∧ s < 10 ∧ f = (a * 100 + b * 10 + c : Nat) ∧ o = (p * 1000 + q * 100 + r * 10 + s : Nat) := by
  rw [Bool.and_eq_true, fund_iff, obj_iff] at h
  obtain ⟨⟨h1, h2⟩, h3, h4⟩ := h
  obtain ⟨n, rfl⟩ := Int.eq_ofNat_of_zero_le (show 0 ≤ f by omega)
  obtain ⟨m, rfl⟩ := Int.eq_ofNat_of_zero_le (show 0 ≤ o by omega)
  exact ⟨n / 100, n / 10 % 10, n % 10, m / 1000, m / 100 % 10, m / 10 % 10, m % 10, by omega, by omega, by omega, by omega, by omega, by omega, by omega, by omega, by omega, by omega, by omega⟩
theorem dig_ne {n : Nat} (h : n < 10) : UInt8.ofNat (48 + n) ≠ 46 := by
  intro e
  have := digit_nat h
  rw [e] at this
  simp at this
  omega

theorem occ_no {x : UInt8} (h : x ≠ 46) (t : List UInt8) : ((46 : UInt8) == x && List.isPrefixOf [] t) = false := by
  rw [beq_eq_false_iff_ne.2 (Ne.symm h)]
  rfl

theorem read_code {f o : Int} (h : (fundB f && objB o) = true) : parseC (printL f o) = (f, o, true) ∧ parseR (printL f o) = (f, o, true) := by
  have h' := h
  obtain ⟨a, b, c, p, q, r, s, ha, ha0, hb, hc, hp, hp0, hq, hr, hs, rfl, rfl⟩ := code_shape h
  have hL : printL (a * 100 + b * 10 + c : Nat) (p * 1000 + q * 100 + r * 10 + s : Nat) = [UInt8.ofNat (48 + a), UInt8.ofNat (48 + b), UInt8.ofNat (48 + c), 46, UInt8.ofNat (48 + p), UInt8.ofNat (48 + q), UInt8.ofNat (48 + r), UInt8.ofNat (48 + s)] := by
    unfold printL
    rw [if_pos h, itoa_nat, itoa_nat, dec3 ha ha0 hb hc, dec4 hp hp0 hq hr hs]
    rfl
  have hi : Lib.index [UInt8.ofNat (48 + a), UInt8.ofNat (48 + b), UInt8.ofNat (48 + c), 46, UInt8.ofNat (48 + p), UInt8.ofNat (48 + q), UInt8.ofNat (48 + r), UInt8.ofNat (48 + s)] [46] = 3 := by
    refine Lib.index_first (i := 3) (by simp) (by simp [Lib.occAt]) ?_
    intro j hj
    rcases (show j = 0 ∨ j = 1 ∨ j = 2 by omega) with rfl | rfl | rfl
    · exact occ_no (dig_ne ha) _
    · exact occ_no (dig_ne hb) _
    · exact occ_no (dig_ne hc) _
  have hcut : Lib.cut [UInt8.ofNat (48 + a), UInt8.ofNat (48 + b), UInt8.ofNat (48 + c), 46, UInt8.ofNat (48 + p), UInt8.ofNat (48 + q), UInt8.ofNat (48 + r), UInt8.ofNat (48 + s)] [46] = ([UInt8.ofNat (48 + a), UInt8.ofNat (48 + b), UInt8.ofNat (48 + c)], [UInt8.ofNat (48 + p), UInt8.ofNat (48 + q), UInt8.ofNat (48 + r), UInt8.ofNat (48 + s)], true) := by
    unfold Lib.cut
    rw [hi]
    rfl
  constructor
  · unfold parseC
    rw [hL, hcut]
    have e1 : numL [UInt8.ofNat (48 + a), UInt8.ofNat (48 + b), UInt8.ofNat (48 + c)] 3 = (a * 100 + b * 10 + c : Nat) := by
      unfold numL
      rw [if_pos ⟨rfl, by show (isDig _ && (isDig _ && (isDig _ && true))) = true; rw [dig_is ha, dig_is hb, dig_is hc]; rfl⟩, val3 ha hb hc]
    have e2 : numL [UInt8.ofNat (48 + p), UInt8.ofNat (48 + q), UInt8.ofNat (48 + r), UInt8.ofNat (48 + s)] 4 = (p * 1000 + q * 100 + r * 10 + s : Nat) := by
      unfold numL
      rw [if_pos ⟨rfl, by show (isDig _ && (isDig _ && (isDig _ && (isDig _ && true)))) = true; rw [dig_is hp, dig_is hq, dig_is hr, dig_is hs]; rfl⟩, val4 hp hq hr hs]
    simp only [e1, e2, h', if_true]
  · have e1 : valI ((printL (a * 100 + b * 10 + c : Nat) (p * 1000 + q * 100 + r * 10 + s : Nat)).take 3) = (a * 100 + b * 10 + c : Nat) := by
      rw [hL]; exact val3 ha hb hc
    have e2 : valI (((printL (a * 100 + b * 10 + c : Nat) (p * 1000 + q * 100 + r * 10 + s : Nat)).drop 4).take 4) = (p * 1000 + q * 100 + r * 10 + s : Nat) := by
      rw [hL]; exact val4 hp hq hr hs
    unfold parseR
    rw [if_pos (by rw [hL]; rfl), e1, e2, if_pos rfl]

theorem num3 {l : List UInt8} (h : 100 ≤ numL l 3) : Lib.itoa (numL l 3) = l := by
  unfold numL at h ⊢
  split at h
  · rename_i hc
    rw [if_pos hc]
    obtain ⟨h1, h2⟩ := hc
    match l, h1 with
    | [x, y, z], _ =>
      simp only [List.all_cons, List.all_nil, Bool.and_true, Bool.and_eq_true] at h2
      obtain ⟨a, ha, rfl⟩ := dig_of h2.1
      obtain ⟨b, hb, rfl⟩ := dig_of h2.2.1
      obtain ⟨c, hc, rfl⟩ := dig_of h2.2.2
      rw [val3 ha hb hc] at h ⊢
      rw [itoa_nat, dec3 ha (by omega) hb hc]
  · omega
theorem num4 {l : List UInt8} (h : 1000 ≤ numL l 4) : Lib.itoa (numL l 4) = l := by
  unfold numL at h ⊢
  split at h
  · rename_i hc
    rw [if_pos hc]
    obtain ⟨h1, h2⟩ := hc
    match l, h1 with
    | [x, y, z, u], _ =>
      simp only [List.all_cons, List.all_nil, Bool.and_true, Bool.and_eq_true] at h2
      obtain ⟨a, ha, rfl⟩ := dig_of h2.1
      obtain ⟨b, hb, rfl⟩ := dig_of h2.2.1
      obtain ⟨c, hc, rfl⟩ := dig_of h2.2.2.1
      obtain ⟨d, hd, rfl⟩ := dig_of h2.2.2.2
      rw [val4 ha hb hc hd] at h ⊢
      rw [itoa_nat, dec4 ha (by omega) hb hc hd]
  · omega

/-- What is read by the dot has just this text. -/
theorem parseC_back {l : List UInt8} {f o : Int} (h : parseC l = (f, o, true)) : (fundB f && objB o) = true ∧ printL f o = l := by
  unfold parseC at h
  simp only at h
  split at h
  · rename_i hc
    obtain ⟨rfl, rfl⟩ : numL (Lib.cut l [46]).1 3 = f ∧ numL (Lib.cut l [46]).2.1 4 = o := by
      simp only [Prod.mk.injEq] at h
      exact ⟨h.1, h.2.1⟩
    refine ⟨hc, ?_⟩
    have hk := hc
    rw [Bool.and_eq_true, fund_iff, obj_iff] at hk
    unfold printL
    rw [if_pos hc, num3 hk.1.1, num4 hk.2.1]
    rcases Lib.index_spec l [46] with ⟨hi, _⟩ | ⟨i, hi, hle, ho, _⟩
    · exfalso
      have e : (Lib.cut l [46]).2.1 = [] := by
        unfold Lib.cut
        rw [hi]
        rfl
      rw [e] at hk
      have : numL [] 4 = 0 := rfl
      omega
    · have e : Lib.cut l [46] = (l.take i, l.drop (i + 1), true) := by
        unfold Lib.cut
        rw [hi, if_pos (by omega)]
        rfl
      rw [e]
      show l.take i ++ 46 :: l.drop (i + 1) = l
      unfold Lib.occAt at ho
      have hlt : i < l.length := by
        rcases Nat.lt_or_ge i l.length with h' | h'
        · exact h'
        · rw [List.drop_eq_nil_of_le h'] at ho
          simp at ho
      rw [List.drop_eq_getElem_cons hlt] at ho
      have hx : l[i] = 46 := by
        have h2 : ((46 : UInt8) == l[i] && List.isPrefixOf [] (l.drop (i + 1))) = true := ho
        rw [Bool.and_eq_true] at h2
        exact (beq_iff_eq.1 h2.1).symm
      have := List.take_append_drop i l
      rw [List.drop_eq_getElem_cons hlt, hx] at this
      exact this
  · simp at h
theorem parseC_no {l : List UInt8} (h : (parseC l).2.2 = false) : parseC l = (0, 0, false) := by
  unfold parseC at h ⊢
  simp only at h ⊢
  split
  · rename_i hc; rw [if_pos hc] at h; cases h
  · rfl

/-- Both ways of reading are one. -/
theorem parse_same (l : List UInt8) : parseR l = parseC l := by
  by_cases hex : ∃ f o, (fundB f && objB o) = true ∧ printL f o = l
  · obtain ⟨f, o, h, rfl⟩ := hex
    rw [(read_code h).1, (read_code h).2]
  · have e1 : parseC l = (0, 0, false) := by
      cases hc : (parseC l).2.2
      · exact parseC_no hc
      · exact absurd ⟨_, _, parseC_back (l := l) (f := (parseC l).1) (o := (parseC l).2.1) (by rw [← hc])⟩ hex
    rw [e1]
    unfold parseR
    split
    · rename_i h8
      split
      · rename_i hp
        exfalso
        refine hex ⟨_, _, ?_, hp⟩
        rcases Bool.eq_false_or_eq_true (fundB (valI (l.take 3)) && objB (valI ((l.drop 4).take 4))) with hv | hv
        · exact hv
        · unfold printL at hp
          rw [hv] at hp
          rw [← hp] at h8
          simp at h8
      · rfl
    · rfl

end Go.Proofs.YtlamngpodomknaaDoor
