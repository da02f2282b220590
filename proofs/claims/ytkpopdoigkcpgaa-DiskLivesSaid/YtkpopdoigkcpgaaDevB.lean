/-
  disk.New by contract. No condition.
-/
import Derived.Test.YtkpopdoigkcpgaaDevA
import Derived.Carry
namespace Go.Proofs.Ytkpopdoigkcpgaa
open Go.RowKit
set_option linter.unusedVariables false

set_option maxHeartbeats 400000 in
theorem new_no (n : Int) (w : World) (h : ¬ (3 ≤ n ∧ n ≤ 65536)) : Calls Try.prog 8 #[.int .i64 n] w fun e w' => e = .returned (.tuple #[.pointer none, .int .i64 1]) ∧ w = w' := by
  by_cases h1 : n < 3
  · have k1 : decide (n < 3) = true := by simpa using h1
    clear h h1
    go_enter Try.func8, Try.ntmps8
    go_wp2
    go_ret2
    exact ⟨rfl, rfl⟩
  · have k1 : decide (n < 3) = false := by simpa using h1
    have k2 : decide ((65536 : Int) < n) = true := by simp; omega
    clear h h1
    go_enter Try.func8, Try.ntmps8
    go_wp2
    go_ret2
    exact ⟨rfl, rfl⟩

/-- A disk as New makes it. -/
theorem new_at (n : Nat) (w : World) (h1 : 3 ≤ n) (h2 : n ≤ 65536) : After (fun _ => False) w ((((w.alloc (.map #[] 0)).alloc (.map #[] 0))).alloc (.cells #[.int .i64 (-1), .bool false, .int .i64 (n : Int), .map (some w.heap.size), .map (some (w.heap.size + 1)), .slice none 0 0, .int .i64 0] 61)) ⟨w.heap.size + 2, 0, none⟩ (DS.new n) := by
  have s0 : (w.alloc (.map #[] 0)).heap.size = w.heap.size + 1 := by simp
  have s1 : ((w.alloc (.map #[] 0)).alloc (.map #[] 0)).heap.size = w.heap.size + 2 := by simp
  generalize hw1 : w.alloc (.map #[] 0) = w1 at *
  generalize hw2 : w1.alloc (.map #[] 0) = w2 at *
  have m1 : IMap w1 w.heap.size 0 (fun _ => none) := by rw [← hw1]; exact IMap.made w
  have m1' : IMap w2 w.heap.size 0 (fun _ => none) := m1.of_block (by rw [← hw2]; exact heap_alloc_old _ _ (by omega))
  have m2 : IMap w2 (w.heap.size + 1) 0 (fun _ => none) := by rw [← hw2, ← s0]; exact IMap.made w1
  have b01 : Below w.heap.size w w2 := by
    rw [← hw2, ← hw1]
    exact ((Below.refl _ _).alloc (Nat.le_refl _) _).alloc (by simp) _
  have b02 := b01.alloc (o := .cells #[.int .i64 (-1), .bool false, .int .i64 (n : Int), .map (some w.heap.size), .map (some (w.heap.size + 1)), .slice none 0 0, .int .i64 0] 61) (by omega)
  rw [← s1]
  have hrest : Rest w2 (FN (fun _ => False) w) w.heap.size (w.heap.size + 1) (.slice none 0 0) (DS.new n).n (DS.new n).safe (DS.new n).last (DS.new n).pend 0 0 (fun _ => none) (fun _ => none) :=
    ⟨m1', m2, by omega, ⟨rfl, .inl ⟨rfl, rfl⟩⟩, fun i _ => rfl, (fun i _ v hv => by cases hv), .inr (Nat.le_refl _), .inr (by omega), fun g hg => by cases hg⟩
  refine After.mk' (left := -1) ?_ (hrest.keep (fun _ h _ => h) (fun k _ hk _ => heap_alloc_old _ _ hk)) ⟨by omega, .inl ⟨by omega, rfl⟩⟩ (DS.new_ok ⟨h1, h2⟩) (fun i _ => by simp [DS.new]) ⟨Nat.le_refl _, Nat.le_refl _, Nat.zero_le _⟩ (.inr (by omega)) (Touch.of_below b02)
  refine ⟨_, heap_alloc_new _ _, rfl, fun i hi => ?_⟩
  rcases (show i = 0 ∨ i = 1 ∨ i = 2 ∨ i = 3 ∨ i = 4 ∨ i = 5 ∨ i = 6 by omega) with rfl | rfl | rfl | rfl | rfl | rfl | rfl <;> rfl

set_option maxHeartbeats 400000 in
theorem new_yes (n : Nat) (w : World) (h1 : 3 ≤ n) (h2 : n ≤ 65536) : Calls Try.prog 8 #[.int .i64 n] w fun e w' => ∃ p : Addr, e = .returned (.tuple #[.pointer (some p), .int .i64 0]) ∧ After (fun _ => False) w w' p (DS.new n) := by
  have hmm := @run_makeMap Try.prog
  have k1 : decide ((n : Int) < 3) = false := by simp; omega
  have k2 : decide ((65536 : Int) < (n : Int)) = false := by simp; omega
  have HE := Lib.hid (new_at n w h1 h2)
  go_enter Try.func8, Try.ntmps8
  go_wp2
  go_ret2
  exact ⟨_, rfl, HE.out⟩

end Go.Proofs.Ytkpopdoigkcpgaa
