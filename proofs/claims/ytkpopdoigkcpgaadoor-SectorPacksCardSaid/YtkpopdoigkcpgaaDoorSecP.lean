/-
  Plain: what a sector of a page is, what a sector's page is, that the one undoes the other, and that a byte that is changed is found. No program; no condition beyond what each says.
-/
import Derived.Test.YtkpopdoigkcpgaaDoorNumP
import Derived.Test.YtkpopdoigkcpgaaDoorNumBackP
import Derived.Test.YtkpopdoigkcpgaaDoorCrcW
namespace Go.Proofs.YtkpopdoigkcpgaaDoor
open Go.RowKit
set_option linter.unusedVariables false

/-- Numbers that may stand ahead of data. -/
def secR (p s : Int) : Bool := decide (0 ≤ p ∧ p < 4294967296 ∧ 0 ≤ s ∧ s ≤ 4611686018427387904)
/-- What is summed. -/
def secBody (p s : Int) (l : List Int) : List Int := putB p 4 ++ putB s 8 ++ l
/-- The sector of a page. -/
def secL (p s : Int) (l : List Int) : List Int := putB (sumOf (secBody p s l) : Int) 4 ++ secBody p s l
/-- What Pack answers. -/
def packR (p s : Int) (l : List Int) : List Int × Int := if secR p s = true ∧ l.length = 240 then (secL p s l, 0) else ([], 1)
/-- Whether bytes are a sector. -/
def isSec (l : List Int) : Prop := l.length = 256 ∧ numOf (l.take 4) = (sumOf (l.drop 4) : Int) ∧ secR (numOf ((l.drop 4).take 4)) (numOf ((l.drop 8).take 8)) = true
instance (l : List Int) : Decidable (isSec l) := by unfold isSec; infer_instance
/-- What Unpack answers. -/
def unpackR (l : List Int) : Int × Int × List Int × Int := if isSec l then (numOf ((l.drop 4).take 4), numOf ((l.drop 8).take 8), l.drop 16, 0) else (0, 0, [], 4)

theorem secR_right {p s : Int} (h : secR p s = true) : rightB p 4 = true ∧ rightB s 8 = true := by
  have h' := of_decide_eq_true h
  obtain ⟨a, b, c, d⟩ := h'
  exact ⟨by simp [rightB, a, b], by simp [rightB]⟩
theorem sum_right {l : List Int} (h : AllBytes l) : rightB (sumOf l : Int) 4 = true := by
  have := sumOf_lt h
  have b : ((sumOf l : Nat) : Int) < 4294967296 := by omega
  simp [rightB, b]
theorem secR_ints {p s : Int} (h : secR p s = true) : -9223372036854775808 ≤ p ∧ p ≤ 9223372036854775807 ∧ -9223372036854775808 ≤ s ∧ s ≤ 9223372036854775807 := by
  have h' := of_decide_eq_true h
  omega
theorem secBody_bytes (p s : Int) {l : List Int} (h : AllBytes l) : AllBytes (secBody p s l) := (AllBytes.append (putB_bytes _ _) (putB_bytes _ _)).append h
theorem secBody_length (p s : Int) (l : List Int) : (secBody p s l).length = l.length + 12 := by
  simp [secBody, putB_length]; omega
theorem secL_bytes (p s : Int) {l : List Int} (h : AllBytes l) : AllBytes (secL p s l) := AllBytes.append (putB_bytes _ _) (secBody_bytes p s h)
theorem secL_length (p s : Int) (l : List Int) : (secL p s l).length = l.length + 16 := by
  simp [secL, putB_length, secBody_length]; omega
theorem packR_bytes (p s : Int) {l : List Int} (h : AllBytes l) : AllBytes (packR p s l).1 := by
  unfold packR
  split
  · exact secL_bytes p s h
  · exact AllBytes.nil
theorem unpackR_bytes {l : List Int} (h : AllBytes l) : AllBytes (unpackR l).2.2.1 := by
  unfold unpackR
  split
  · exact h.drop 16
  · exact AllBytes.nil

/-- The parts of a sector that was packed. -/
theorem secL_parts (p s : Int) (l : List Int) : (secL p s l).take 4 = putB (sumOf (secBody p s l) : Int) 4 ∧ (secL p s l).drop 4 = secBody p s l ∧ ((secL p s l).drop 4).take 4 = putB p 4 ∧ ((secL p s l).drop 8).take 8 = putB s 8 ∧ (secL p s l).drop 16 = l := by
  have e1 : (secL p s l).drop 4 = secBody p s l := by
    unfold secL
    rw [List.drop_append_of_le_length (by rw [putB_length]; omega), List.drop_of_length_le (by rw [putB_length]; omega), List.nil_append]
  have e2 : (secBody p s l).drop 4 = putB s 8 ++ l := by
    unfold secBody
    rw [List.append_assoc, List.drop_append_of_le_length (by rw [putB_length]; omega), List.drop_of_length_le (by rw [putB_length]; omega), List.nil_append]
  refine ⟨?_, e1, ?_, ?_, ?_⟩
  · unfold secL
    rw [List.take_append_of_le_length (by rw [putB_length]; omega), List.take_of_length_le (by rw [putB_length]; omega)]
  · rw [e1]
    unfold secBody
    rw [List.append_assoc, List.take_append_of_le_length (by rw [putB_length]; omega), List.take_of_length_le (by rw [putB_length]; omega)]
  · rw [show 8 = 4 + 4 from rfl, ← List.drop_drop, e1, e2]
    rw [List.take_append_of_le_length (by rw [putB_length]; omega), List.take_of_length_le (by rw [putB_length]; omega)]
  · rw [show 16 = 4 + (4 + 8) from rfl, ← List.drop_drop, e1, ← List.drop_drop, e2, List.drop_append_of_le_length (by rw [putB_length]; omega), List.drop_of_length_le (by rw [putB_length]; omega), List.nil_append]

/-- What was packed is unpacked. -/
theorem unpack_pack {p s : Int} {l : List Int} (hl : AllBytes l) (h : secR p s = true) (hn : l.length = 240) : unpackR (secL p s l) = (p, s, l, 0) := by
  obtain ⟨e1, e2, e3, e4, e5⟩ := secL_parts p s l
  obtain ⟨r1, r2⟩ := secR_right h
  obtain ⟨b1, b2, b3, b4⟩ := secR_ints h
  have hsum := sumOf_lt (secBody_bytes p s hl)
  have n1 : numOf (putB p 4) = p := wrap_putB r1 b1 b2
  have n2 : numOf (putB s 8) = s := wrap_putB r2 b3 b4
  have n3 : numOf (putB (sumOf (secBody p s l) : Int) 4) = (sumOf (secBody p s l) : Int) := wrap_putB (sum_right (secBody_bytes p s hl)) (by omega) (by omega)
  have hsec : isSec (secL p s l) := ⟨by rw [secL_length, hn], by rw [e1, n3, e2], by rw [e3, e4, n1, n2]; exact h⟩
  unfold unpackR
  rw [if_pos hsec, e3, e4, e5, n1, n2]

theorem putB_numOf4 {l : List Int} (h : AllBytes l) (hn : l.length = 4) : putB (numOf l) 4 = l := by
  match l, hn with
  | [a, b, c, d], _ =>
    have ha := h a (by simp); have hb := h b (by simp); have hc := h c (by simp); have hd := h d (by simp)
    rw [numOf_eq _ h]
    simp only [beOf, List.foldl_cons, List.foldl_nil, putB, List.nil_append, List.cons_append, List.cons.injEq, and_true]
    unfold wrap64
    refine ⟨by omega, by omega, by omega, by omega⟩
theorem putB_numOf8 {l : List Int} (h : AllBytes l) (hn : l.length = 8) : putB (numOf l) 8 = l := by
  match l, hn with
  | [a, b, c, d, e, f, g, i], _ =>
    have ha := h a (by simp); have hb := h b (by simp); have hc := h c (by simp); have hd := h d (by simp)
    have he := h e (by simp); have hf := h f (by simp); have hg := h g (by simp); have hi := h i (by simp)
    rw [numOf_eq _ h]
    simp only [beOf, List.foldl_cons, List.foldl_nil, putB, List.nil_append, List.cons_append, List.cons.injEq, and_true]
    unfold wrap64
    refine ⟨by omega, by omega, by omega, by omega, by omega, by omega, by omega, by omega⟩

/-- What is unpacked is packed as it was. -/
theorem pack_unpack {l : List Int} (hl : AllBytes l) (h : isSec l) : secL (numOf ((l.drop 4).take 4)) (numOf ((l.drop 8).take 8)) (l.drop 16) = l := by
  obtain ⟨hn, hs, hr⟩ := h
  have hb : secBody (numOf ((l.drop 4).take 4)) (numOf ((l.drop 8).take 8)) (l.drop 16) = l.drop 4 := by
    unfold secBody
    rw [putB_numOf4 ((hl.drop 4).take 4) (by simp; omega), putB_numOf8 ((hl.drop 8).take 8) (by simp; omega)]
    rw [List.append_assoc, show l.drop 16 = (l.drop 8).drop 8 from by rw [List.drop_drop], List.take_append_drop, show l.drop 8 = (l.drop 4).drop 4 from by rw [List.drop_drop], List.take_append_drop]
  unfold secL
  rw [hb, ← hs, putB_numOf4 (hl.take 4) (by simp; omega), List.take_append_drop]

theorem sumOf_set_ne {l : List Int} (h : AllBytes l) {i : Nat} (hi : i < l.length) {y : Int} (hy : 0 ≤ y ∧ y < 256) (hne : l[i] ≠ y) : sumOf l ≠ sumOf (l.set i y) := by
  intro e
  unfold sumOf at e
  have e' := xor_right_inj e
  rw [List.map_set] at e'
  refine runB_changed (nat_byte h) (by decide) i (by simpa using hi) y.toNat (by omega) ?_ e'
  rw [List.getElem_map]
  have := h _ (List.getElem_mem hi)
  omega
theorem numOf4_inj {l m : List Int} (hl : AllBytes l) (hm : AllBytes m) (h1 : l.length = 4) (h2 : m.length = 4) (h : numOf l = numOf m) : l = m := by
  rw [← putB_numOf4 hl h1, ← putB_numOf4 hm h2, h]
theorem set_bytes {l : List Int} (h : AllBytes l) (i : Nat) {y : Int} (hy : 0 ≤ y ∧ y < 256) : AllBytes (l.set i y) := by
  intro x hx
  rcases List.mem_or_eq_of_mem_set hx with a | a
  · exact h x a
  · subst a; exact hy

/-- A byte that is changed is found. -/
theorem changed_found {l : List Int} (hl : AllBytes l) (h : isSec l) {i : Nat} (hi : i < l.length) {y : Int} (hy : 0 ≤ y ∧ y < 256) (hne : l[i] ≠ y) : ¬ isSec (l.set i y) := by
  obtain ⟨hn, hs, _⟩ := h
  rintro ⟨_, hs', _⟩
  by_cases h4 : i < 4
  · have e : (l.set i y).drop 4 = l.drop 4 := by rw [List.drop_set_of_lt h4]
    rw [e, ← hs] at hs'
    have e' := numOf4_inj ((set_bytes hl i hy).take 4) (hl.take 4) (by simp; omega) (by simp; omega) hs'
    have e2 : ((l.set i y).take 4)[i]? = (l.take 4)[i]? := by rw [e']
    rw [List.getElem?_take, List.getElem?_take, if_pos h4, if_pos h4, List.getElem?_set_self hi, List.getElem?_eq_getElem hi] at e2
    exact hne (Option.some.inj e2).symm
  · have e : (l.set i y).take 4 = l.take 4 := by rw [List.take_set_of_le (by omega)]
    have e2 : (l.set i y).drop 4 = (l.drop 4).set (i - 4) y := by
      rw [List.drop_set, if_neg (by omega)]
    rw [e, e2, hs] at hs'
    refine sumOf_set_ne (hl.drop 4) (i := i - 4) (y := y) (by simp; omega) hy ?_ (by exact_mod_cast hs')
    rw [List.getElem_drop]
    have : 4 + (i - 4) = i := by omega
    simpa [this] using hne
theorem unpack_changed {l : List Int} (hl : AllBytes l) (h : isSec l) {i : Nat} (hi : i < l.length) {y : Int} (hy : 0 ≤ y ∧ y < 256) (hne : l[i] ≠ y) : unpackR (l.set i y) = (0, 0, [], 4) := by
  unfold unpackR
  rw [if_neg (changed_found hl h hi hy hne)]
theorem secL_isSec {p s : Int} {l : List Int} (hl : AllBytes l) (h : secR p s = true) (hn : l.length = 240) : isSec (secL p s l) := by
  by_cases hs : isSec (secL p s l)
  · exact hs
  · have := unpack_pack hl h hn
    unfold unpackR at this
    rw [if_neg hs] at this
    simp at this

end Go.Proofs.YtkpopdoigkcpgaaDoor
