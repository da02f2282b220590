/-
  The texts YrA, YrC, YrB, YrD joined. Conditions: those that each part says at its head.
-/
import Derived.Test.YtccibahlcpkiaaaGreatViewC
import Derived.Test.YtccibahlcpkiaaaGreatSeqS
import Derived.Test.YtccibahlcpkiaaaGreatChaA
import Derived.Deep.RegionHeld3

/-
  Contracts of years over a view in memory: a year's state, Check, Open, Shut. Condition: which number is an int.
-/
namespace Go.Proofs.YtccibahlcpkiaaaGreat
open Go.RowKit Go.Maps
set_option maxRecDepth 100000
set_option linter.unusedVariables false

/-- The state that what stands at a key is. -/
def stV (o : Option (List Int)) : Int := if seqV o = 1 ∨ seqV o = 2 then seqV o else 0
theorem stV_getD (o : Option (List Int)) : stV (some (o.getD [])) = stV o := by
  cases o with
  | none => rfl
  | some b => rfl
theorem stV_three (o : Option (List Int)) : stV o = 0 ∨ stV o = 1 ∨ stV o = 2 := by
  unfold stV
  split
  · rename_i h
    exact .inr h
  · exact .inl rfl
/-- Which years may be; what is wrong with a year. -/
def yearB (n : Int) : Bool := decide (2000 ≤ n) && decide (n ≤ 2099)
def chkE (s : Int) : Int := if s = 1 then 0 else if s = 2 then 13 else 7
abbrev yKey (n : Int) : Txt := tx (keyL 89 [n])
theorem yKeyLen (n : Int) : (keyL 89 [n]).length = 5 := by unfold keyL; rw [tagL_length]; rfl
def openE (o : Option (List Int)) (n : Int) : Int := if yearB n = true then (if stV o = 0 then 0 else 8) else 1
def VS.open_ (S : VS) (n : Int) : VS := if openE (S.now (yKey n)) n = 0 then S.put (yKey n) (packN 8 [1]) else S
def VS.shut (S : VS) (n : Int) : VS := if stV (S.now (yKey n)) = 1 then S.put (yKey n) (packN 8 [2]) else S
section
variable {w w' : World} {X : Nat → Prop} {v m c : Nat} {S : VS}
end
end Go.Proofs.YtccibahlcpkiaaaGreat

/-
  Contract of years.All over a view in memory: the years that are there, in a row of the call's own; nothing that was there is written. Condition: what a scan of the tag comes to.
-/
namespace Go.Proofs.YtccibahlcpkiaaaGreat
open Go.RowKit Go.Maps
set_option maxRecDepth 100000
set_option linter.unusedVariables false

/-- The year that a pair is. -/
def yOf (x : KV) : Option Int := if stV (some x.2) = 0 then none else oneOf x.1
def yearsK (ps : List KV) : List Int := ps.filterMap yOf
theorem yearsK_len (ps : List KV) : (yearsK ps).length ≤ ps.length := List.length_filterMap_le _ _
theorem yearsK_step {ps : List KV} {k : Nat} {x : KV} (h : ps[k]? = some x) : yearsK (ps.take (k + 1)) = yearsK (ps.take k) ++ (yOf x).toList := by
  obtain ⟨hk, rfl⟩ := List.getElem?_eq_some_iff.1 h
  unfold yearsK
  rw [List.take_succ_eq_append_getElem hk, List.filterMap_append]
  congr 1
theorem yearsK_ints {ps : List KV} (h : ∀ x ∈ ps, AllBytes x.1) : ∀ x ∈ yearsK ps, -9223372036854775808 ≤ x ∧ x ≤ 9223372036854775807 := by
  intro x hx
  obtain ⟨q, hq, e⟩ := List.mem_filterMap.1 hx
  unfold yOf at e
  split at e
  · cases e
  · exact numsK_ints h x (List.mem_filterMap.2 ⟨q, hq, e⟩)
section
variable {w w' : World} {v : Nat}
end
end Go.Proofs.YtccibahlcpkiaaaGreat

/-
  Contracts of years over a view in memory: a year's state set, Open, Shut. Condition: which number is an int; fewer than 2^63 changes.
-/
namespace Go.Proofs.YtccibahlcpkiaaaGreat
open Go.RowKit Go.Maps
set_option maxRecDepth 100000
set_option linter.unusedVariables false

theorem putE_year (n x : Int) : putE (keyL 89 [n]) (packN 8 [x]) = 0 := by
  have h8 : (packN 8 [x]).length = 8 := by rw [packN_length]; rfl
  unfold putE
  rw [yKeyLen, h8]
  exact if_neg (by rintro (a | a | a) <;> omega)
section
variable {w w' : World} {X : Nat → Prop} {v m c : Nat} {S : VS}
end
end Go.Proofs.YtccibahlcpkiaaaGreat

/-
  Contracts of the document's own years over its own view: State, Check, Open, Shut, Right, and what a key of a tag with one number is. Condition: which number is an int; tables of fewer than 2^31 pairs.
-/
namespace Go.Proofs.YtccibahlcpkiaaaGreat
open Go.RowKit Go.Maps
set_option maxRecDepth 100000
set_option linter.unusedVariables false

section
variable {w w' : World} {X : Nat → Prop} {x p q r : Nat} {a b d : TL}
theorem rOne_any (t n : Int) (W : World) (g : Nat) (T : TypeId) (ht : 0 ≤ t ∧ t < 256) (h : W.heap[g]? = some (.cells #[.int .i64 n] T (0, 0))) (hn : -9223372036854775808 ≤ n ∧ n ≤ 9223372036854775807) :
    Calls Tryz.prog 34 #[.int .u8 t, .slice (some ⟨g, 0, none⟩) 1 1] W fun e w' => ∃ A c, e = .returned (.slice A 5 c) ∧ SV w' (fun k => k < W.heap.size) (.slice A 5 c) (keyL t [n]) ∧ Below W.heap.size W w' := by
  have hr : RI W W.heap.size (some ⟨g, 0, none⟩) 1 [n] := by
    refine ⟨rfl, fun y hy => by obtain rfl := List.mem_singleton.1 hy; exact hn, fun _ => ⟨g, 0, rfl, (Array.getElem?_eq_some_iff.1 h).1, fun j hj => ?_⟩⟩
    rw [Nat.zero_add, cell_of_row W g j _ T (0, 0) h]
    obtain rfl : j = 0 := by simpa using hj
    rfl
  refine (rKey_any t _ 1 1 _ [n] W ht hr (Nat.le_refl _) (Nat.le_refl _) (by decide)).mono ?_
  rintro e w' ⟨u, rfl, ho⟩
  have e5 : (keyL t [n]).length = 5 := by unfold keyL; rw [tagL_length]; rfl
  have hs := own_sv ho (tagL_bytes ht _) (by rw [e5]; omega)
  obtain ⟨A, c, rfl, h1, h2⟩ := ho.read (tagL_bytes ht _)
  rw [e5] at hs ⊢
  exact ⟨A, c, rfl, hs, ho.2⟩
end
set_option maxHeartbeats 1600000 in
theorem rOf_any {w : World} {A : Option Addr} {n c B : Nat} {b : List Int} (t : Int) (hr : RB w B A n b) (hB : B ≤ w.heap.size) (hc : n ≤ c) (hm : n ≤ maxLen) (h0 : b[0]? = some t) :
    Calls Tryz.prog 73 #[.slice A n c, .int .u8 t, .int .i64 1] w fun e w' => ∃ A' k c' ok, e = .returned (.tuple #[.slice A' k c', .bool ok]) ∧ (ok = true → ∃ z, k = 1 ∧ oneOf b = some z ∧ RI w' w'.heap.size A' 1 [z]) ∧ (ok = false → oneOf b = none) ∧ Below w.heap.size w w' := by
  have HG := Lib.hid (rSplit_any A n c B b w hr hB hc hm)
  have hone := Lib.hid (oneOf_split b)
  have htag : (splitK b).2.2 = true → (splitK b).2.1 = t := by
    unfold splitK splitR
    split
    · intro _
      show b[0]?.getD 0 = t
      rw [h0]; rfl
    · intro h; cases h
  have HT := Lib.hid htag
  clear htag hr h0
  generalize splitK b = rr at HG hone HT
  obtain ⟨nums, tag, okb⟩ := rr
  cases okb with
  | false =>
    go_enter Tryz.func73, Tryz.ntmps73
    go_wp2_with fail
    refine HG.out.mono ?_
    rintro e w2 ⟨A2, k2, c2, rfl, _, _, hr2, hb2⟩
    have HE := Lib.hid hb2
    clear hr2 hb2
    go_wp2_with fail
    go_ret2
    exact ⟨none, 0, 0, false, rfl, (fun h => by cases h), fun _ => by rw [hone.out, if_neg (fun q => by cases q.1)], HE.out⟩
  | true =>
    obtain rfl : tag = t := HT.out rfl
    go_enter Tryz.func73, Tryz.ntmps73
    go_wp2_with fail
    refine HG.out.mono ?_
    rintro e w2 ⟨A2, k2, c2, rfl, _, _, hr2, hb2⟩
    have hl2 := hr2.len
    have HE := Lib.hid hb2
    have HR := Lib.hid hr2
    clear hr2 hb2
    by_cases h1 : k2 = 1
    · subst h1
      obtain ⟨z, rfl⟩ : ∃ z, nums = [z] := List.length_eq_one_iff.1 hl2
      clear hl2
      go_wp2_with fail
      go_ret2
      exact ⟨A2, 1, c2, true, rfl, fun _ => ⟨z, (by first | rfl | trivial), by have := hone.out; simpa using this, HR.out⟩, (fun h => by cases h), HE.out⟩
    · have hk : ((k2 : Int) != 1) = true := by simp; omega
      have hnone := Lib.hid (show oneOf b = none by rw [hone.out, if_neg (fun q => h1 (by rw [← hl2]; exact q.2))])
      clear hl2 h1
      go_wp2_with fail
      go_ret2
      exact ⟨none, 0, 0, false, rfl, (fun h => by cases h), fun _ => hnone.out, HE.out⟩
end Go.Proofs.YtccibahlcpkiaaaGreat
