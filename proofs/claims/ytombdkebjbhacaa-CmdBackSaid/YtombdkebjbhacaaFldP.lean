/-
  Numbers in so many bytes each, one behind the other, and such numbers of bytes, as plain lists: the one undoes the other. No program; no condition but that the numbers are ints.
-/
import Derived.Test.YtombdkebjbhacaaNumBackP
import Derived.Test.YtombdkebjbhacaaRefPut
import Derived.Test.YtombdkebjbhacaaIntApp
namespace Go.Proofs.Ytombdkebjbhacaa
open Go.RowKit
set_option maxRecDepth 100000
set_option linter.unusedVariables false

/-- Numbers in k bytes each, one behind the other. -/
def packN (k : Nat) (l : List Int) : List Int := l.flatMap (fun x => putB x k)
/-- The numbers of m times k bytes, from a on. -/
def unpackN (k : Nat) (b : List Int) (a m : Nat) : List Int := (List.range m).map (fun i => numOf ((b.drop (a + k * i)).take k))

theorem packN_nil (k : Nat) : packN k [] = [] := rfl
theorem packN_append (k : Nat) (l m : List Int) : packN k (l ++ m) = packN k l ++ packN k m := by simp [packN]
theorem packN_one (k : Nat) (x : Int) : packN k [x] = putB x k := by simp [packN]
theorem packN_length (k : Nat) (l : List Int) : (packN k l).length = k * l.length := by
  induction l with
  | nil => simp [packN]
  | cons x r ih =>
    rw [show x :: r = [x] ++ r from rfl, packN_append, List.length_append, ih, packN_one, putB_length, List.length_append, Nat.mul_add]
    simp
theorem packN_bytes (k : Nat) (l : List Int) : AllBytes (packN k l) := fun x hx => by
  obtain ⟨y, _, hy⟩ := List.mem_flatMap.1 hx
  exact putB_bytes _ _ x hy
theorem packN_step (k : Nat) (l : List Int) (i : Nat) (h : i < l.length) : packN k (l.take (i + 1)) = packN k (l.take i) ++ putB (l[i]?.getD 0) k := by
  rw [List.take_succ_eq_append_getElem h, packN_append, packN_one]
  simp [List.getElem?_eq_getElem h]
theorem unpackN_step (k : Nat) (b : List Int) (a m : Nat) : unpackN k b a (m + 1) = unpackN k b a m ++ [numOf ((b.drop (a + k * m)).take k)] := by
  simp [unpackN, List.range_succ]
theorem unpackN_length (k : Nat) (b : List Int) (a m : Nat) : (unpackN k b a m).length = m := by simp [unpackN]
theorem numOf_bound (l : List Int) (h : AllBytes l) : -9223372036854775808 ≤ numOf l ∧ numOf l ≤ 9223372036854775807 := by
  rw [numOf_eq l h]
  unfold wrap64
  omega
theorem unpackN_ints (k : Nat) (b : List Int) (a m : Nat) (h : AllBytes b) : ∀ x ∈ unpackN k b a m, -9223372036854775808 ≤ x ∧ x ≤ 9223372036854775807 := fun x hx => by
  obtain ⟨i, _, rfl⟩ := List.mem_map.1 hx
  exact numOf_bound _ ((h.drop _).take _)
theorem unpackN_cons (k : Nat) (p b : List Int) (a m : Nat) (h : p.length = a) : unpackN k (p ++ b) a m = unpackN k b 0 m := by
  subst h
  unfold unpackN
  apply List.map_congr_left
  intro i _
  rw [List.drop_append, List.drop_of_length_le (by omega), List.nil_append]
  congr 3
  omega
/-- What stands in k bytes each is what these bytes are. -/
theorem unpack_pack (k : Nat) (l : List Int) (h : ∀ x ∈ l, numOf (putB x k) = x) : unpackN k (packN k l) 0 l.length = l := by
  apply List.ext_getElem (unpackN_length _ _ _ _)
  intro i h1 h2
  have hi : i < l.length := h2
  have e0 : (unpackN k (packN k l) 0 l.length)[i] = numOf (((packN k l).drop (0 + k * i)).take k) := by simp [unpackN]
  rw [e0]
  have e : packN k l = packN k (l.take i) ++ (putB l[i] k ++ packN k (l.drop (i + 1))) := by
    rw [← packN_one, ← packN_append, ← packN_append]
    congr 1
    rw [List.singleton_append, ← List.drop_eq_getElem_cons hi, List.take_append_drop]
  rw [e, Nat.zero_add, List.drop_append, List.drop_of_length_le (by rw [packN_length, List.length_take]; rw [Nat.min_eq_left (by omega)]; exact Nat.le_refl _), List.nil_append, packN_length, List.length_take, Nat.min_eq_left (by omega), Nat.sub_self, List.drop_zero, List.take_append_of_le_length (by rw [putB_length]; exact Nat.le_refl _), List.take_of_length_le (by rw [putB_length]; exact Nat.le_refl _)]
  exact h _ (List.getElem_mem hi)
theorem num8 {x : Int} (h : -9223372036854775808 ≤ x ∧ x ≤ 9223372036854775807) : numOf (putB x 8) = x := wrap_putB (s := 8) (by simp [rightB]) h.1 h.2
theorem num4 {x : Int} (h : 0 ≤ x ∧ x < 4294967296) : numOf (putB x 4) = x := wrap_putB (s := 4) (by simp [rightB, h]) (by omega) (by omega)
/-- A number held from 0 to 2^32 - 1. -/
def held4 (x : Int) : Int := min (max x 0) 4294967295
theorem held4_in (x : Int) : 0 ≤ held4 x ∧ held4 x < 4294967296 := by unfold held4; omega
theorem held4_same {x : Int} (h : 0 ≤ x ∧ x < 4294967296) : held4 x = x := by unfold held4; omega
theorem putR8 (l : List Int) (x : Int) : putR l x 8 = l ++ putB x 8 := by unfold putR; rw [if_pos (by simp [rightB])]; rfl
theorem putR4 (l : List Int) (x : Int) (h : 0 ≤ x ∧ x < 4294967296) : putR l x 4 = l ++ putB x 4 := by unfold putR; rw [if_pos (by simp [rightB, h])]; rfl

end Go.Proofs.Ytombdkebjbhacaa
