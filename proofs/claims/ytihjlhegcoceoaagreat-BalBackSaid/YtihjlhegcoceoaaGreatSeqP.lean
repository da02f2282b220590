/-
  The texts SeqA, SeqP joined. Conditions: those that each part says at its head.
-/
import Derived.Test.YtihjlhegcoceoaaGreatViewC
import Derived.Test.YtihjlhegcoceoaaGreatFldB
import Derived.Test.YtihjlhegcoceoaaGreatKeyA
import Derived.Deep.RegionHeld3

/-
  Contracts of seqn over a view in memory: a counter's key, its last number, Last and Next. Condition: which number is an int.
-/
namespace Go.Proofs.YtihjlhegcoceoaaGreat
open Go.RowKit Go.Maps
set_option maxRecDepth 100000
set_option linter.unusedVariables false

/-- The number that stands at a key; 0, if none does. -/
def seqV (o : Option (List Int)) : Int := match o with
  | none => 0
  | some b => if (unpackR b 1).2 = 0 then (unpackR b 1).1[0]?.getD 0 else 0

theorem one_lit (w : World) (e : TypeId) (l : List Int) (cs : Array Value) (hcs : cs = (l.map (Value.int .i64)).toArray) (h : ∀ x ∈ l, -9223372036854775808 ≤ x ∧ x ≤ 9223372036854775807) : RI (w.alloc (.cells cs e)) (w.heap.size + 1) (some ⟨w.heap.size, 0, none⟩) l.length l := by
  subst hcs
  refine ⟨rfl, h, fun _ => ⟨w.heap.size, 0, rfl, Nat.lt_succ_self _, fun j hj => ?_⟩⟩
  rw [Nat.zero_add, cell_of_row (w.alloc (.cells _ e)) w.heap.size j _ e (0, 0) (heap_alloc_new w _)]
  simp [List.getElem?_eq_getElem hj]
theorem packOne_any (x : Int) (W : World) (g : Nat) (T : TypeId) (h : W.heap[g]? = some (.cells #[.int .i64 x] T (0, 0))) (hx : -9223372036854775808 ≤ x ∧ x ≤ 9223372036854775807) :
    Calls Tryz.prog 32 #[.slice (some ⟨g, 0, none⟩) 1 1] W fun e w' => ∃ A c, e = .returned (.slice A 8 c) ∧ 8 ≤ c ∧ RB w' w'.heap.size A 8 (packN 8 [x]) ∧ Below W.heap.size W w' := by
  have hr : RI W W.heap.size (some ⟨g, 0, none⟩) 1 [x] := by
    refine ⟨rfl, fun y hy => by obtain rfl := List.mem_singleton.1 hy; exact hx, fun _ => ⟨g, 0, rfl, (Array.getElem?_eq_some_iff.1 h).1, fun j hj => ?_⟩⟩
    rw [Nat.zero_add, cell_of_row W g j _ T (0, 0) h]
    obtain rfl : j = 0 := by simpa using hj
    rfl
  refine (fPack_any _ 1 1 _ [x] W hr (Nat.le_refl _) (Nat.le_refl _) (by decide)).mono ?_
  rintro e w' ⟨u, rfl, ho⟩
  obtain ⟨A, c, rfl, h1, h2⟩ := ho.read (packN_bytes _ _)
  have e8 : (packN 8 ([x].take 15)).length = 8 := by rw [packN_length]; rfl
  rw [e8] at h1 h2
  exact ⟨A, c, by rw [e8], h1, h2, ho.2⟩
theorem unpack_one (b : List Int) : (∃ x, unpackR b 1 = ([x], 0)) ∨ ∃ e, e ≠ 0 ∧ unpackR b 1 = ([], e) := by
  unfold unpackR
  rw [if_pos ⟨by omega, by omega⟩]
  split
  · exact .inl ⟨_, rfl⟩
  · exact .inr ⟨4, by omega, rfl⟩
theorem keyOne_len (n : Int) : (keyL 83 [n]).length = 5 := by unfold keyL; rw [tagL_length]; rfl
section
variable {w w' : World} {X : Nat → Prop} {v m c : Nat} {S : VS}
/-- What Next leaves. -/
def VS.next (S : VS) (n : Int) : VS := if seqV (S.now (tx (keyL 83 [n]))) < 0 ∨ seqV (S.now (tx (keyL 83 [n]))) ≥ 4294967295 then S else S.put (tx (keyL 83 [n])) (packN 8 [seqV (S.now (tx (keyL 83 [n]))) + 1])
def nextE (k : Int) : Int × Int := if k < 0 ∨ k ≥ 4294967295 then (0, 9) else (k + 1, 0)
theorem putE_key (n x : Int) : putE (keyL 83 [n]) (packN 8 [x]) = 0 := by
  have h8 : (packN 8 [x]).length = 8 := by rw [packN_length]; rfl
  unfold putE
  rw [keyOne_len, h8]
  exact if_neg (by rintro (a | a | a) <;> omega)
end
end Go.Proofs.YtihjlhegcoceoaaGreat

/-
  Numbers given out, over plain lists: what Next makes of what stands at a key, of each of four kinds. Plain facts; no condition.
-/
namespace Go.Proofs.YtihjlhegcoceoaaGreat
open Go.RowKit Go.Maps
set_option linter.unusedVariables false

theorem seqV_pack {x : Int} (h : -9223372036854775808 ≤ x ∧ x ≤ 9223372036854775807) : seqV (some (packN 8 [x])) = x := by
  have e : unpackR (packN 8 [x]) 1 = ([x], 0) := by
    unfold unpackR
    rw [if_pos ⟨by omega, by omega⟩, if_pos (by rw [packN_length]; rfl)]
    show (unpackN 8 (packN 8 [x]) 0 1, (0 : Int)) = ([x], 0)
    rw [show (1 : Nat) = [x].length from rfl, unpack_pack 8 [x] (fun y hy => by obtain rfl := List.mem_singleton.1 hy; exact num8 h)]
  simp [seqV, e]
theorem keyOne_inj {n m : Int} (hn : 0 ≤ n ∧ n < 4294967296) (hm : 0 ≤ m ∧ m < 4294967296) (h : tx (keyL 83 [n]) = tx (keyL 83 [m])) : n = m := by
  have e := tx_inj (tagL_bytes (by omega) _) (tagL_bytes (by omega) _) h
  have h1 := split_key (t := 83) (l := [n]) (fun x hx => by obtain rfl := List.mem_singleton.1 hx; exact hn) (by simp)
  have h2 := split_key (t := 83) (l := [m]) (fun x hx => by obtain rfl := List.mem_singleton.1 hx; exact hm) (by simp)
  rw [show keyL 83 [n] = keyL 83 [m] from e, h2] at h1
  simpa using h1.symm
/-- The numbers that four kinds were given last. -/
structure CntS (S : VS) (f : Nat → Int) : Prop where
  ok : S.Ok
  is : ∀ n : Nat, n < 4 → seqV (S.now (tx (keyL 83 [(n : Int)]))) = f n
theorem CntS.start : CntS ⟨[], []⟩ (fun _ => 0) := ⟨⟨List.Pairwise.nil, List.Pairwise.nil⟩, fun n _ => rfl⟩
theorem CntS.next {S : VS} {f : Nat → Int} (h : CntS S f) {n : Nat} (hn : n < 4) (hf : 0 ≤ f n ∧ f n < 4294967295) : CntS (S.next n) (fun m => if m = n then f n + 1 else f m) := by
  have e : S.next n = S.put (tx (keyL 83 [(n : Int)])) (packN 8 [f n + 1]) := by
    unfold VS.next
    rw [h.is n hn, if_neg (by omega)]
  rw [e]
  refine ⟨h.ok.put _ _, fun m hm => ?_⟩
  rw [h.ok.now_put]
  by_cases q : m = n
  · subst q
    rw [if_pos rfl, if_pos rfl, seqV_pack (by omega)]
  · rw [if_neg q, if_neg (fun q' => q (by have := keyOne_inj (n := (n : Int)) (m := (m : Int)) (by omega) (by omega) q'; omega))]
    exact h.is m hm
theorem next_len (S : VS) (n : Int) : (S.next n).C.length ≤ S.C.length + 1 := by
  unfold VS.next
  split
  · exact Nat.le_succ _
  · exact setT_len _ _ _
theorem nextE_in {k : Int} (h : 0 ≤ k ∧ k < 4294967295) : nextE k = (k + 1, 0) := if_neg (by omega)
end Go.Proofs.YtihjlhegcoceoaaGreat
