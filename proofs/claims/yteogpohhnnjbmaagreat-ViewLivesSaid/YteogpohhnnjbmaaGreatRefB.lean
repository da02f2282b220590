/-
  The document's plain view's New, Commit, Abort by contract. No condition.
-/
import Derived.Test.YteogpohhnnjbmaaGreatRefA
namespace Go.Proofs.YteogpohhnnjbmaaGreat
open Go.RowKit Go.Maps
set_option maxRecDepth 100000
set_option linter.unusedVariables false

section
variable {w w' : World} {X : Nat → Prop} {x p q r : Nat} {a b d : TL}
/-- The blocks that a call made are the view's own, too. -/
def And_ (X : Nat → Prop) (w w' : World) : Nat → Prop := fun k => X k ∨ (w.heap.size ≤ k ∧ k < w'.heap.size)
theorem SPs.more {A : Option Addr} {n c : Nat} {L : TL} (h : SPs w X A n c L) (hx : X x) (hs : w.heap.size ≤ w'.heap.size) (hk : ∀ k, k < w.heap.size → k ≠ x → w'.heap[k]? = w.heap[k]?) : SPs w' (And_ X w w') A n c L :=
  h.keep hs (fun k hk hx hy => by rcases hy with a | a; exact hx a; omega) (fun k hk' hX => hk k hk' fun e => hX (by rw [e]; exact hx))
theorem TabAt.more {t : Nat} {L : TL} (h : TabAt w X t L) (hx : X x) (hs : w.heap.size ≤ w'.heap.size) (hk : ∀ k, k < w.heap.size → k ≠ x → w'.heap[k]? = w.heap[k]?) (hne : t ≠ x) : TabAt w' (And_ X w w') t L := by
  have ht := h.lt
  obtain ⟨A, n, c, h1, h2, h3⟩ := h
  exact ⟨A, n, c, (hk t ht hne).trans h1, .inl h2, h3.more hx hs hk⟩

/-- The world behind Commit and Abort: two blocks more, and two cells of the view set. -/
def renewed (w : World) (x i : Nat) (u : Value) : World :=
  (((w.setCell ⟨x, i, none⟩ (.pointer (some ⟨w.heap.size, 0, none⟩))).setCell ⟨x, 2, none⟩ (.pointer (some ⟨w.heap.size + 1, 0, none⟩))).alloc (.cells #[u] 42 (0, 0))).alloc (.cells #[.slice none 0 0] 42 (0, 0))
theorem renewed_is (h : RefAt w X x p q r a b d) (u : Value) (i : Nat) :
    (renewed w x i u).heap.size = w.heap.size + 2 ∧ (∀ k, k < w.heap.size → k ≠ x → (renewed w x i u).heap[k]? = w.heap[k]?) ∧ (renewed w x i u).heap[w.heap.size]? = some (.cells #[u] 42 (0, 0)) ∧ (renewed w x i u).heap[w.heap.size + 1]? = some (.cells #[.slice none 0 0] 42 (0, 0)) ∧
      (renewed w x i u).heap[x]? = some (.cells (((#[.pointer (some ⟨p, 0, none⟩), .pointer (some ⟨q, 0, none⟩), .pointer (some ⟨r, 0, none⟩)] : Array Value).setIfInBounds i (.pointer (some ⟨w.heap.size, 0, none⟩))).setIfInBounds 2 (.pointer (some ⟨w.heap.size + 1, 0, none⟩))) 44 (0, 0)) ∧ Touch (fun k => k = x) w (renewed w x i u) := by
  have hx := h.lt
  obtain ⟨w1, h1⟩ : ∃ w1, w1 = w.setCell ⟨x, i, none⟩ (.pointer (some ⟨w.heap.size, 0, none⟩)) := ⟨_, rfl⟩
  obtain ⟨w2, h2⟩ : ∃ w2, w2 = w1.setCell ⟨x, 2, none⟩ (.pointer (some ⟨w.heap.size + 1, 0, none⟩)) := ⟨_, rfl⟩
  obtain ⟨w3, h3⟩ : ∃ w3, w3 = w2.alloc (.cells #[u] 42 (0, 0)) := ⟨_, rfl⟩
  obtain ⟨w4, h4⟩ : ∃ w4, w4 = w3.alloc (.cells #[.slice none 0 0] 42 (0, 0)) := ⟨_, rfl⟩
  have e : renewed w x i u = w4 := by rw [h4, h3, h2, h1]; rfl
  rw [e]
  have z1 : w1.heap.size = w.heap.size := by rw [h1]; simp [World.setCell]
  have z2 : w2.heap.size = w.heap.size := by rw [h2, ← z1]; simp [World.setCell]
  have z3 : w3.heap.size = w.heap.size + 1 := by rw [h3]; simp [z2]
  have z4 : w4.heap.size = w.heap.size + 2 := by rw [h4]; simp [z3]
  have b1 : ∀ k, k ≠ x → w1.heap[k]? = w.heap[k]? := fun k hk => by rw [h1]; exact Below.heap_setCell _ _ _ _ hk
  have b2 : ∀ k, k ≠ x → w2.heap[k]? = w1.heap[k]? := fun k hk => by rw [h2]; exact Below.heap_setCell _ _ _ _ hk
  have b3 : ∀ k, k < w.heap.size → w3.heap[k]? = w2.heap[k]? := fun k hk => by rw [h3]; exact heap_alloc_old _ _ (by omega)
  have b4 : ∀ k, k < w.heap.size + 1 → w4.heap[k]? = w3.heap[k]? := fun k hk => by rw [h4]; exact heap_alloc_old _ _ (by omega)
  have n3 : w3.heap[w.heap.size]? = some (.cells #[u] 42 (0, 0)) := by rw [h3, ← z2]; exact heap_alloc_new _ _
  have n4 : w4.heap[w.heap.size + 1]? = some (.cells #[.slice none 0 0] 42 (0, 0)) := by rw [h4, ← z3]; exact heap_alloc_new _ _
  have m1 := heap_setCell_same w x i _ 44 (.pointer (some ⟨w.heap.size, 0, none⟩)) h.me
  rw [← h1] at m1
  have m2 := heap_setCell_same w1 x 2 _ 44 (.pointer (some ⟨w.heap.size + 1, 0, none⟩)) m1
  rw [← h2] at m2
  have m4 := (b4 x (by omega)).trans ((b3 x hx).trans m2)
  have hk : ∀ k, k < w.heap.size → k ≠ x → w4.heap[k]? = w.heap[k]? := fun k hk hne => (b4 k (by omega)).trans ((b3 k hk).trans ((b2 k hne).trans (b1 k hne)))
  refine ⟨z4, hk, (b4 _ (by omega)).trans n3, n4, m4, ⟨?_, ?_, ?_, by omega, fun k hk' hX => hk k hk' hX⟩⟩
  · rw [h4, h3, h2, h1]; rfl
  · rw [h4, h3, h2, h1]; rfl
  · rw [h4, h3, h2, h1]; rfl

set_option maxHeartbeats 1600000 in
theorem refCommit_any (h : RefAt w X x p q r a b d) :
    Calls Tryz.prog 19 #[.pointer (some ⟨x, 0, none⟩)] w fun e w' => e = .returned (.tuple #[]) ∧ RefAt w' (And_ X w w') x w.heap.size q (w.heap.size + 1) b b [] ∧ Touch (fun k => k = x) w w' := by
  obtain ⟨c0, c1, c2⟩ := h.cells
  have hx := h.lt
  obtain ⟨A, n, c, hq, _, hs⟩ := h.now
  have cq : w.cell? ⟨q, 0, none⟩ = some (.slice A n c) := by rw [cell_of_row w q 0 _ _ (0, 0) hq]; rfl
  have hf : ∀ i, w.frozen? ⟨x, i, none⟩ = false := fun i => frozen_of_row w x i _ _ h.me
  have hql := h.now.lt
  have HEND := Lib.hid (show RefAt (renewed w x 0 (.slice A n c)) (And_ X w (renewed w x 0 (.slice A n c))) x w.heap.size q (w.heap.size + 1) b b [] ∧ Touch (fun k => k = x) w (renewed w x 0 (.slice A n c)) from by
    obtain ⟨r1, r2, r3, r4, r5, r6⟩ := renewed_is h (.slice A n c) 0
    have hle : w.heap.size ≤ (renewed w x 0 (.slice A n c)).heap.size := by omega
    refine ⟨⟨r5, .inl h.own, ⟨A, n, c, r3, .inr (by omega), hs.more h.own hle r2⟩, h.now.more h.own hle r2 (Ne.symm h.apart.2.1), ⟨none, 0, 0, r4, .inr (by omega), SPs.nil_ _ _ _ _⟩, ⟨by omega, h.apart.2.1, by omega, by omega, by omega, by omega⟩, fun k hk => ?_⟩, r6⟩
    rcases hk with a | a
    · exact Nat.lt_of_lt_of_le (h.old k a) hle
    · exact a.2)
  have f0 := hf 0
  have f2 := hf 2
  have hne : ¬ x = w.heap.size := by omega
  clear h hs hq hf
  unfold renewed at HEND
  go_enter Tryz.func19, Tryz.ntmps19
  go_wp2_with fail
  go_end0
  exact ⟨rfl, HEND.out⟩
set_option maxHeartbeats 1600000 in
theorem refAbort_any (h : RefAt w X x p q r a b d) :
    Calls Tryz.prog 21 #[.pointer (some ⟨x, 0, none⟩)] w fun e w' => e = .returned (.tuple #[]) ∧ RefAt w' (And_ X w w') x p w.heap.size (w.heap.size + 1) a a [] ∧ Touch (fun k => k = x) w w' := by
  obtain ⟨c0, c1, c2⟩ := h.cells
  have hx := h.lt
  obtain ⟨A, n, c, hq, _, hs⟩ := h.was
  have cq : w.cell? ⟨p, 0, none⟩ = some (.slice A n c) := by rw [cell_of_row w p 0 _ _ (0, 0) hq]; rfl
  have hf : ∀ i, w.frozen? ⟨x, i, none⟩ = false := fun i => frozen_of_row w x i _ _ h.me
  have hql := h.was.lt
  have HEND := Lib.hid (show RefAt (renewed w x 1 (.slice A n c)) (And_ X w (renewed w x 1 (.slice A n c))) x p w.heap.size (w.heap.size + 1) a a [] ∧ Touch (fun k => k = x) w (renewed w x 1 (.slice A n c)) from by
    obtain ⟨r1, r2, r3, r4, r5, r6⟩ := renewed_is h (.slice A n c) 1
    have hle : w.heap.size ≤ (renewed w x 1 (.slice A n c)).heap.size := by omega
    refine ⟨⟨r5, .inl h.own, h.was.more h.own hle r2 (Ne.symm h.apart.1), ⟨A, n, c, r3, .inr (by omega), hs.more h.own hle r2⟩, ⟨none, 0, 0, r4, .inr (by omega), SPs.nil_ _ _ _ _⟩, ⟨h.apart.1, by omega, by omega, by omega, by omega, by omega⟩, fun k hk => ?_⟩, r6⟩
    rcases hk with a | a
    · exact Nat.lt_of_lt_of_le (h.old k a) hle
    · exact a.2)
  have f0 := hf 1
  have f2 := hf 2
  have hne : ¬ x = w.heap.size := by omega
  clear h hs hq hf
  unfold renewed at HEND
  go_enter Tryz.func21, Tryz.ntmps21
  go_wp2_with fail
  go_end0
  exact ⟨rfl, HEND.out⟩
set_option maxHeartbeats 1600000 in
theorem refNew_nil (w : World) :
    Calls Tryz.prog 5 #[.slice none 0 0] w fun e w' => e = .returned (.pointer (some ⟨w.heap.size + 3, 0, none⟩)) ∧ RefAt w' (fun k => w.heap.size ≤ k ∧ k < w'.heap.size) (w.heap.size + 3) w.heap.size (w.heap.size + 1) (w.heap.size + 2) [] [] [] ∧ RowKit.Below w.heap.size w w' := by
  go_enter Tryz.func5, Tryz.ntmps5
  go_wp2_with fail
  go_ret
  refine ⟨rfl, ?_⟩
  obtain ⟨w1, h1⟩ : ∃ w1, w1 = w.alloc (.cells #[.slice none 0 0] 42 (0, 0)) := ⟨_, rfl⟩
  obtain ⟨w2, h2⟩ : ∃ w2, w2 = w1.alloc (.cells #[.slice none 0 0] 42 (0, 0)) := ⟨_, rfl⟩
  obtain ⟨w3, h3⟩ : ∃ w3, w3 = w2.alloc (.cells #[.slice none 0 0] 42 (0, 0)) := ⟨_, rfl⟩
  obtain ⟨w4, h4⟩ : ∃ w4, w4 = w3.alloc (.cells #[.pointer (some ⟨w.heap.size, 0, none⟩), .pointer (some ⟨w.heap.size + 1, 0, none⟩), .pointer (some ⟨w.heap.size + 1 + 1, 0, none⟩)] 44 (0, 0)) := ⟨_, rfl⟩
  have z1 : w1.heap.size = w.heap.size + 1 := by rw [h1]; simp
  have z2 : w2.heap.size = w.heap.size + 2 := by rw [h2]; simp [z1]
  have z3 : w3.heap.size = w.heap.size + 3 := by rw [h3]; simp [z2]
  have z4 : w4.heap.size = w.heap.size + 4 := by rw [h4]; simp [z3]
  have n1 : w1.heap[w.heap.size]? = some (.cells #[.slice none 0 0] 42 (0, 0)) := by rw [h1]; exact heap_alloc_new _ _
  have n2 : w2.heap[w.heap.size + 1]? = some (.cells #[.slice none 0 0] 42 (0, 0)) := by rw [h2, ← z1]; exact heap_alloc_new _ _
  have n3 : w3.heap[w.heap.size + 2]? = some (.cells #[.slice none 0 0] 42 (0, 0)) := by rw [h3, ← z2]; exact heap_alloc_new _ _
  have n4 : w4.heap[w.heap.size + 3]? = some (.cells #[.pointer (some ⟨w.heap.size, 0, none⟩), .pointer (some ⟨w.heap.size + 1, 0, none⟩), .pointer (some ⟨w.heap.size + 1 + 1, 0, none⟩)] 44 (0, 0)) := by rw [h4, ← z3]; exact heap_alloc_new _ _
  have b2 : ∀ k, k < w.heap.size + 1 → w2.heap[k]? = w1.heap[k]? := fun k hk => by rw [h2]; exact heap_alloc_old _ _ (by omega)
  have b3 : ∀ k, k < w.heap.size + 2 → w3.heap[k]? = w2.heap[k]? := fun k hk => by rw [h3]; exact heap_alloc_old _ _ (by omega)
  have b4 : ∀ k, k < w.heap.size + 3 → w4.heap[k]? = w3.heap[k]? := fun k hk => by rw [h4]; exact heap_alloc_old _ _ (by omega)
  have hb : RowKit.Below w.heap.size w w4 := by
    rw [h4, h3, h2, h1]
    exact ((((RowKit.Below.refl _ _).alloc (Nat.le_refl _) _).alloc (by simp) _).alloc (by simp; omega) _).alloc (by simp; omega) _
  rw [← h1, ← h2, ← h3, ← h4]
  refine ⟨⟨n4, ⟨by omega, by omega⟩, ⟨none, 0, 0, (b4 _ (by omega)).trans ((b3 _ (by omega)).trans ((b2 _ (by omega)).trans n1)), ⟨by omega, by omega⟩, SPs.nil_ _ _ _ _⟩, ⟨none, 0, 0, (b4 _ (by omega)).trans ((b3 _ (by omega)).trans n2), ⟨by omega, by omega⟩, SPs.nil_ _ _ _ _⟩,
    ⟨none, 0, 0, (b4 _ (by omega)).trans n3, ⟨by omega, by omega⟩, SPs.nil_ _ _ _ _⟩, ⟨by omega, by omega, by omega, by omega, by omega, by omega⟩, fun k hk => hk.2⟩, hb⟩
end

end Go.Proofs.YteogpohhnnjbmaaGreat
