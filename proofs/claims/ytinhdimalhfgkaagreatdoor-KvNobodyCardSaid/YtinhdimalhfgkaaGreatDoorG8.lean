/-
  The texts RedoRB, RedoRC, RedoRD, RedoRE, Imgs joined. Conditions: those that each part says at its head.
-/
import Derived.Test.YtinhdimalhfgkaaGreatDoorG7
import Derived.BigQuiet

/-
  Contracts of the plain log's slots, over the plain disk. Condition: the disk is up; a count below 2^33.
-/
namespace Go.Proofs.YtinhdimalhfgkaaGreatDoor
open Go.RowKit
set_option maxRecDepth 100000
set_option linter.unusedVariables false

theorem wpList_append_int1 {w : World} {ops : Array Oper} {rest : List Oper} {o : Oper} {a : Act} {Q : Exit → Act → World → Prop} (hgd : o.guard = none) (s x : Operand)
    (ho : o.op = .call { callee := .builtin .append, args := #[s, x], argTypes := #[39, 39] })
    (base : Nat) (v : Value) (n : Nat) (xs : List Value) (hs : a.eval s = v) (b : Nat) (z : Int) (T : TypeId) (hx : a.eval x = .slice (some ⟨b, 0, none⟩) 1 1)
    (hown : w.ownsRow base 3 1 v n xs) (hb : w.heap[b]? = some (.cells #[.int .i64 z] T)) (h63 : n ≤ 8796093022207) (hbase : base ≤ w.heap.size)
    (h : ∀ A' c' w', w'.ownsRow base 3 1 (.slice A' (n + 1) c') (n + 1) (xs ++ [.int .i64 z]) → w.grownBy w' v.ownBlock → ((Value.slice A' (n + 1) c').ownBlock = v.ownBlock ∨ (Value.slice A' (n + 1) c').ownBlock = some w.heap.size) → wpList Tryz.prog ops Q rest (a.put o.dst (.slice A' (n + 1) c')) w') : wpList Tryz.prog ops Q (o :: rest) a w := by
  obtain ⟨i0, hi, hz0, hz1, hz2⟩ := info_parts info_int
  refine wpList_append_own_at w hgd s x 39 ho base 3 i0 (.int .i64 0) 1 8 Tryz.underlying39 hi hz0 hz1 hz2 rfl (by decide) v n _ hs hown ⟨b, 0, none⟩ 1 1 [.int .i64 z] hx rfl (World.news_of_block (cs := #[.int .i64 z]) hb) (fun u hu => by obtain rfl := List.mem_singleton.1 hu; rfl) (by unfold maxLen; omega) (by omega) hbase ?_
  intro v' w' h1 h2 _ h4
  obtain ⟨A', c', rfl, _⟩ := int_own_shape h1
  exact h A' c' w' h1 h2 h4
theorem wpList_append_slice1 {w : World} {ops : Array Oper} {rest : List Oper} {o : Oper} {a : Act} {Q : Exit → Act → World → Prop} (hgd : o.guard = none) (s x : Operand)
    (ho : o.op = .call { callee := .builtin .append, args := #[s, x], argTypes := #[127, 127] })
    (base : Nat) (v : Value) (n : Nat) (xs : List Value) (hs : a.eval s = v) (b : Nat) (A : Option Addr) (k c : Nat) (T : TypeId) (hx : a.eval x = .slice (some ⟨b, 0, none⟩) 1 1)
    (hown : w.ownsRow base 46 1 v n xs) (hb : w.heap[b]? = some (.cells #[.slice A k c] T)) (h63 : n ≤ 4398046511103) (hbase : base ≤ w.heap.size)
    (h : ∀ A' c' w', w'.ownsRow base 46 1 (.slice A' (n + 1) c') (n + 1) (xs ++ [.slice A k c]) → w.grownBy w' v.ownBlock → ((Value.slice A' (n + 1) c').ownBlock = v.ownBlock ∨ (Value.slice A' (n + 1) c').ownBlock = some w.heap.size) → wpList Tryz.prog ops Q rest (a.put o.dst (.slice A' (n + 1) c')) w') : wpList Tryz.prog ops Q (o :: rest) a w := by
  obtain ⟨i0, hi, hz0, hz1, hz2⟩ := info_parts info_slice
  refine wpList_append_own_at w hgd s x 127 ho base 46 i0 (.slice none 0 0) 1 24 Tryz.underlying127 hi hz0 hz1 hz2 rfl (by decide) v n _ hs hown ⟨b, 0, none⟩ 1 1 [.slice A k c] hx rfl (World.news_of_block (cs := #[.slice A k c]) hb) (fun u hu => by obtain rfl := List.mem_singleton.1 hu; rfl) (by unfold maxLen; omega) (by omega) hbase ?_
  intro v' w' h1 h2 _ h4
  obtain ⟨A', c', rfl, _⟩ := int_own_shape h1
  exact h A' c' w' h1 h2 h4

theorem slotsUp_none {n seq : Int} {f : Nat → List Int} {k m : Nat} (h : slotsUp n f seq k = none) (hkm : k ≤ m) : slotsUp n f seq m = none := by
  induction hkm with
  | refl => exact h
  | step _ ih => unfold slotsUp; rw [ih]
theorem slotsUp_next {n seq : Int} {f : Nat → List Int} {k : Nat} {l : List (Int × List Int)} {x : Int × List Int} (h : slotsUp n f seq k = some l) (hx : slotIn n f seq k = some x) : slotsUp n f seq (k + 1) = some (l ++ [x]) := by unfold slotsUp; rw [h, hx]
theorem slotsUp_stop {n seq : Int} {f : Nat → List Int} {k : Nat} (hx : slotIn n f seq k = none) : slotsUp n f seq (k + 1) = none := by unfold slotsUp; rw [hx]; split <;> simp_all

section
variable {w : World} {G : Nat → Prop} {x : Addr} {S : DS}

end

end Go.Proofs.YtinhdimalhfgkaaGreatDoor

/-
  Contracts of the plain log's homes, over the plain disk. Conditions: pages that the disk has; fewer than 2^63 - 1 writes.
-/
namespace Go.Proofs.YtinhdimalhfgkaaGreatDoor
open Go.RowKit
set_option maxRecDepth 100000
set_option linter.unusedVariables false

section
variable {w : World} {G : Nat → Prop} {x : Addr} {S : DS}

theorem homesS_cons (S : DS) (y : Int × List Int) (r : List (Int × List Int)) : homesS S (y :: r) = thenS (S.wr (y.1 + 1 + S.P) y.2) (fun S' => homesS S' r) := by
  obtain ⟨p, b⟩ := y
  rfl
theorem write_more (S : DS) (i : Int) (l : List Int) : (S.write i l).writes ≤ S.writes + 1 ∧ (S.write i l).n = S.n := by
  unfold DS.write
  split
  · exact ⟨Nat.le_succ _, rfl⟩
  split
  · exact ⟨Nat.le_succ _, rfl⟩
  split
  · exact ⟨Nat.le_succ _, rfl⟩
  · exact ⟨Nat.le_refl _, rfl⟩
theorem drop_at {α : Type} {l : List α} {k : Nat} {y : α} (h : l[k]? = some y) : l.drop k = y :: l.drop (k + 1) := by
  obtain ⟨hk, e⟩ := List.getElem?_eq_some_iff.1 h
  rw [List.drop_eq_getElem_cons hk, e]

end

end Go.Proofs.YtinhdimalhfgkaaGreatDoor

/-
  Contracts of the plain log's Open, Pages and Load, over the plain disk. Condition: fewer than 2^63 - 1 writes.
-/
namespace Go.Proofs.YtinhdimalhfgkaaGreatDoor
open Go.RowKit
set_option maxRecDepth 100000
set_option linter.unusedVariables false

theorem unpack_err (l : List Int) : (unpackR l).2.2.2 = 0 ∨ (unpackR l).2.2.2 = 4 := by
  unfold unpackR
  split
  · exact .inl rfl
  · exact .inr rfl
theorem unpack_count {l : List Int} (h : (unpackR l).2.2.2 = 0) : (unpackR l).1 < 4294967296 ∧ (unpackR l).2.1 ≤ 4611686018427387904 := by
  unfold unpackR at h ⊢
  by_cases hs : isSec l
  · rw [if_pos hs]
    have h4 := of_decide_eq_true hs.2.2
    exact ⟨h4.2.1, h4.2.2.2⟩
  · rw [if_neg hs] at h
    cases h

/-- What Open answers behind the slots. -/
def openTail (S : DS) (seq : Int) : Option (List (Int × List Int)) → Int × Int × DS
  | none => (0, seq, S)
  | some l => if (homesS S l).1 ≠ 0 then ((homesS S l).1, 0, (homesS S l).2) else (0, seq, (homesS S l).2)
theorem openS_up {S : DS} (hd : S.down = false) (he : (unpackR (S.last 0)).2.2.2 = 0) : openS S = openTail S (unpackR (S.last 0)).2.1 (slotsOf S.n S.last (unpackR (S.last 0)).1 (unpackR (S.last 0)).2.1) := by
  unfold openS openTail
  rw [if_neg (by simp [hd]), if_neg (fun h' => h' he)]
  rfl
theorem slotsOf_pages {n c s : Int} {f : Nat → List Int} {l : List (Int × List Int)} (h : slotsOf n f c s = some l) : (∀ y ∈ l, 0 ≤ y.1 ∧ y.1 < pagesOf n) ∧ (l.length : Int) ≤ 32767 := by
  obtain ⟨h1, h2⟩ := slotsOf_some h
  obtain ⟨h3, h4⟩ := slotsUp_mem _ h2
  have hb := pagesOf_bounds n
  refine ⟨fun y hy => ?_, by omega⟩
  obtain ⟨i, hi, e⟩ := List.getElem_of_mem hy
  obtain ⟨h5, _, h6, h7⟩ := slotIn_some (h4 i y (by rw [List.getElem?_eq_getElem hi, e]))
  rw [h7]
  exact ⟨(unpack_page h5).1, h6⟩

section
variable {w : World} {G : Nat → Prop} {x : Addr} {S : DS}

end

end Go.Proofs.YtinhdimalhfgkaaGreatDoor

/-
  Contracts of the plain log's Pages and Load, over the plain disk. No condition.
-/
namespace Go.Proofs.YtinhdimalhfgkaaGreatDoor
open Go.RowKit
set_option maxRecDepth 100000
set_option linter.unusedVariables false

section
variable {w : World} {G : Nat → Prop} {x : Addr} {S : DS} {q : Nat} {seq : Int}

end

end Go.Proofs.YtinhdimalhfgkaaGreatDoor

/-
  Words for a list of images as it lies in memory; the plain log's test of images by contract. Condition: at most 65,536 images.
-/
namespace Go.Proofs.YtinhdimalhfgkaaGreatDoor
open Go.RowKit
set_option maxRecDepth 100000
set_option linter.unusedVariables false

/-- An image at place i of a row, apart from the blocks G. -/
def ImgAt (w : World) (G : Nat → Prop) (b i : Nat) (y : Int × List Int) : Prop :=
  w.cell? ⟨b, i * 2, none⟩ = some (.int .i64 y.1) ∧ ∃ D m c, w.cell? ⟨b, i * 2 + 1, none⟩ = some (.slice D m c) ∧ m ≤ c ∧ m ≤ 9223372036854775807 ∧ RB w w.heap.size D m y.2 ∧ ∀ a, D = some a → 0 < m → ¬ G a.block
/-- The slice at A of n images reads as the list l, apart from the blocks G. -/
def RImgs (w : World) (G : Nat → Prop) (A : Option Addr) (n : Nat) (l : List (Int × List Int)) : Prop :=
  l.length = n ∧ (0 < n → ∃ b, A = some ⟨b, 0, none⟩ ∧ ¬ G b ∧ b < w.heap.size ∧ ∀ i y, l[i]? = some y → ImgAt w G b i y)

theorem RImgs.keep {w w' : World} {G G' : Nat → Prop} {A : Option Addr} {n : Nat} {l : List (Int × List Int)} (h : RImgs w G A n l) (hs : w.heap.size ≤ w'.heap.size) (hG : ∀ k, k < w.heap.size → ¬ G k → ¬ G' k) (hk : ∀ k, k < w.heap.size → ¬ G k → w'.heap[k]? = w.heap[k]?) : RImgs w' G' A n l := by
  refine ⟨h.1, fun hn => ?_⟩
  obtain ⟨b, e, h1, h2, h3⟩ := h.2 hn
  refine ⟨b, e, hG b h2 h1, by omega, fun i y hy => ?_⟩
  obtain ⟨c1, D, m, c, c2, c3, c4, c5, c6⟩ := h3 i y hy
  refine ⟨(World.cell?_of_block (a := ⟨b, i * 2, none⟩) (hk b h2 h1)).trans c1, D, m, c, (World.cell?_of_block (a := ⟨b, i * 2 + 1, none⟩) (hk b h2 h1)).trans c2, c3, c4, ?_, fun a ha hm => ?_⟩
  · refine ⟨c5.1, c5.2.1, fun hm => ?_⟩
    obtain ⟨bb, off, e2, hbb, hc⟩ := c5.2.2 hm
    have hng : ¬ G bb := by have := c6 _ e2 hm; exact this
    exact ⟨bb, off, e2, by omega, fun j hj => (World.cell?_of_block (a := ⟨bb, off + j, none⟩) (hk bb hbb hng)).trans (hc j hj)⟩
  · obtain ⟨bb, off, e2, hbb, hc⟩ := c5.2.2 hm
    rw [e2] at ha
    cases ha
    exact hG bb hbb (c6 _ e2 hm)

/-- The first i images may be committed. -/
def GoodUp (S : DS) (l : List (Int × List Int)) (i : Nat) : Prop :=
  (∀ j y, j < i → l[j]? = some y → 0 ≤ y.1 ∧ y.1 < S.P ∧ y.2.length = 240) ∧ ∀ j k y z, j < k → k < i → l[j]? = some y → l[k]? = some z → y.1 ≠ z.1
theorem GoodUp.all {S : DS} {l : List (Int × List Int)} (h : GoodUp S l l.length) : rightS S l := by
  refine ⟨fun x hx => ?_, ?_⟩
  · obtain ⟨i, hi, e⟩ := List.getElem_of_mem hx
    exact h.1 i x hi (by rw [List.getElem?_eq_getElem hi, e])
  · rw [List.nodup_iff_pairwise_ne, List.pairwise_iff_getElem]
    intro i j hi hj hij
    simp only [List.length_map] at hi hj
    rw [List.getElem_map, List.getElem_map]
    exact h.2 i j _ _ hij hj (List.getElem?_eq_getElem hi) (List.getElem?_eq_getElem hj)
theorem not_right_at {S : DS} {l : List (Int × List Int)} {i : Nat} {y : Int × List Int} (hy : l[i]? = some y) (h : ¬ (0 ≤ y.1 ∧ y.1 < S.P ∧ y.2.length = 240)) : ¬ rightS S l := fun hr => h (hr.1 y (List.mem_of_getElem? hy))
theorem not_right_two {S : DS} {l : List (Int × List Int)} {i j : Nat} {y z : Int × List Int} (hij : j < i) (hy : l[i]? = some y) (hz : l[j]? = some z) (h : z.1 = y.1) : ¬ rightS S l := fun hr => by
  have := hr.2
  rw [List.nodup_iff_pairwise_ne, List.pairwise_iff_getElem] at this
  obtain ⟨hi, e1⟩ := List.getElem?_eq_some_iff.1 hy
  obtain ⟨hj, e2⟩ := List.getElem?_eq_some_iff.1 hz
  refine this j i (by simpa using hj) (by simpa using hi) hij ?_
  rw [List.getElem_map, List.getElem_map, e1, e2, h]
theorem GoodUp.next {S : DS} {l : List (Int × List Int)} {i : Nat} {y : Int × List Int} (h : GoodUp S l i) (hy : l[i]? = some y) (h1 : 0 ≤ y.1 ∧ y.1 < S.P ∧ y.2.length = 240) (h2 : ∀ j z, j < i → l[j]? = some z → z.1 ≠ y.1) : GoodUp S l (i + 1) := by
  refine ⟨fun j z hj hz => ?_, fun j k z v hjk hk hz hv => ?_⟩
  · rcases Nat.lt_or_ge j i with h' | h'
    · exact h.1 j z h' hz
    · obtain rfl : j = i := by omega
      rw [hy] at hz
      cases hz
      exact h1
  · rcases Nat.lt_or_ge k i with h' | h'
    · exact h.2 j k z v hjk h' hz hv
    · obtain rfl : k = i := by omega
      rw [hy] at hv
      cases hv
      exact h2 j z hjk hz

end Go.Proofs.YtinhdimalhfgkaaGreatDoor
