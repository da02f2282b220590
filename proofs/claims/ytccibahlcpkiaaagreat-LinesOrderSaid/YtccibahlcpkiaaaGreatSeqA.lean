/-
  Contracts of seqn over a view in memory: a counter's key, its last number, Last and Next. Condition: which number is an int.
-/
import Derived.Test.YtccibahlcpkiaaaGreatViewC
import Derived.Test.YtccibahlcpkiaaaGreatFldB
import Derived.Test.YtccibahlcpkiaaaGreatKeyB
import Derived.Deep.RegionHeld3
namespace Go.Proofs.YtccibahlcpkiaaaGreat
open Go.RowKit Go.Maps
set_option maxRecDepth 100000
set_option linter.unusedVariables false

/-- The number that stands at a key; 0, if none does. -/
def seqV (o : Option (List Int)) : Int := match o with
  | none => 0
  | some b => if (unpackR b 1).2 = 0 then (unpackR b 1).1[0]?.getD 0 else 0

theorem one_lit (w : World) (e : TypeId) (l : List Int) (cs : Array Value) (hcs : cs = (l.map (Value.int .i64)).toArray) (h : ∀ x ∈ l, -9223372036854775808 ≤ x ∧ x ≤ 9223372036854775807) : RI (w.alloc (.cells cs e)) (w.heap.size + 1) (some ⟨w.heap.size, 0, none⟩) l.length l := by
  subst hcs
  refine ⟨rfl, h, fun _ => ⟨w.heap.size, 0, rfl, Nat.lt_succ_self _, fun j hj => ?_⟩⟩
  rw [Nat.zero_add, cell_of_row (w.alloc (.cells _ e)) w.heap.size j _ e (0, 0) (heap_alloc_new w _)]
  simp [List.getElem?_eq_getElem hj]
theorem unpack_one (b : List Int) : (∃ x, unpackR b 1 = ([x], 0)) ∨ ∃ e, e ≠ 0 ∧ unpackR b 1 = ([], e) := by
  unfold unpackR
  rw [if_pos ⟨by omega, by omega⟩]
  split
  · exact .inl ⟨_, rfl⟩
  · exact .inr ⟨4, by omega, rfl⟩
theorem keyOne_len (n : Int) : (keyL 83 [n]).length = 5 := by unfold keyL; rw [tagL_length]; rfl
section
variable {w w' : World} {X : Nat → Prop} {v m c : Nat} {S : VS}
/-- What Next leaves. -/
def VS.next (S : VS) (n : Int) : VS := if seqV (S.now (tx (keyL 83 [n]))) < 0 ∨ seqV (S.now (tx (keyL 83 [n]))) ≥ 4294967295 then S else S.put (tx (keyL 83 [n])) (packN 8 [seqV (S.now (tx (keyL 83 [n]))) + 1])
def nextE (k : Int) : Int × Int := if k < 0 ∨ k ≥ 4294967295 then (0, 9) else (k + 1, 0)
theorem putE_key (n x : Int) : putE (keyL 83 [n]) (packN 8 [x]) = 0 := by
  have h8 : (packN 8 [x]).length = 8 := by rw [packN_length]; rfl
  unfold putE
  rw [keyOne_len, h8]
  exact if_neg (by rintro (a | a | a) <;> omega)
end
end Go.Proofs.YtccibahlcpkiaaaGreat
