/-
  The program's own Right and Pack of sectors by contract. Conditions: fewer than 2^47 bytes; the table that crc.Step reads holds what the program's text lays in it.
-/
import Derived.Test.YtkpopdoigkcpgaaDoorSecSaid
import Derived.Test.YtkpopdoigkcpgaaDoorSConcat
import Derived.Test.YtkpopdoigkcpgaaDoorSEqual
import Derived.Test.YtkpopdoigkcpgaaDoorSClone
namespace Go.Proofs.YtkpopdoigkcpgaaDoor
open Go.RowKit
set_option linter.unusedVariables false

theorem secR_and (p s : Int) : secR p s = (rightB p 4 && (decide (0 ≤ s) && decide (s ≤ 4611686018427387904))) := by
  unfold secR rightB
  by_cases a : 0 ≤ p <;> by_cases b : p < 4294967296 <;> by_cases c : 0 ≤ s <;> by_cases d : s ≤ 4611686018427387904 <;> simp [a, b, c, d]

set_option maxHeartbeats 800000 in
theorem secRight_said : SecRightSaid := by
  intro p s w
  rw [secR_and]
  generalize hb : rightB p 4 = b
  generalize h3 : decide (0 ≤ s) = b3
  generalize h4 : decide (s ≤ 4611686018427387904) = b4
  have HB := Lib.hid hb
  clear hb
  cases b
  · go_enter Tryd.func10, Tryd.ntmps10
    go_wp2_with (go_at_call 19; refine (Right_no _ _ _ HB.out).mono ?_; rintro e w' ⟨rfl, rfl⟩)
    go_ret; exact ⟨rfl, rfl⟩
  cases b3
  · go_enter Tryd.func10, Tryd.ntmps10
    go_wp2_with (go_at_call 19; refine (Right_yes _ _ _ HB.out).mono ?_; rintro e w' ⟨rfl, rfl⟩)
    go_ret; exact ⟨rfl, rfl⟩
  cases b4
  · go_enter Tryd.func10, Tryd.ntmps10
    go_wp2_with (go_at_call 19; refine (Right_yes _ _ _ HB.out).mono ?_; rintro e w' ⟨rfl, rfl⟩)
    go_ret; exact ⟨rfl, rfl⟩
  · go_enter Tryd.func10, Tryd.ntmps10
    go_wp2_with (go_at_call 19; refine (Right_yes _ _ _ HB.out).mono ?_; rintro e w' ⟨rfl, rfl⟩)
    go_ret; exact ⟨rfl, rfl⟩

set_option maxHeartbeats 800000 in
theorem sumOf_any (A : Option Addr) (n c B : Nat) (l : List Int) (w : World) (hr : RB w B A n l) (hm : n ≤ maxLen) (ht : Tab w) :
    Calls Tryd.prog 16 #[.slice A n c] w fun e w' => ∃ v, e = .returned v ∧ w'.ownsRow w.heap.size 5 1 v 4 ((putB (sumOf l : Int) 4).map (Value.int .u8)) ∧ Below w.heap.size w w' := by
  have hsl := sumOf_lt hr.bytes
  have HR := Lib.hid (putR_page (sum_right hr.bytes))
  go_enter Tryd.func16, Tryd.ntmps16
  go_wp2_with fail
  refine (Sum_any _ _ _ _ _ _ hr hm ht).mono ?_
  rintro e w1 ⟨rfl, rfl⟩
  go_wp2_with fail
  refine (Put_own none 0 0 0 [] (sumOf l : Int) 4 _ RB.nil_ (Nat.zero_le _) (Nat.le_refl _) (by decide) (by omega) (by omega)).mono ?_
  rw [HR.out, putB_length]
  rintro e w2 ⟨v, rfl, hown, hb⟩
  go_wp2
  go_ret
  exact ⟨_, rfl, hown, hb⟩

theorem block_fn (w : World) (cs : Array Value) (T : TypeId) (f : Nat → Value) (k : Nat) (h : ∀ j, j < k → cs[j]? = some (f j)) : ∀ j, j < k → (w.alloc (.cells cs T)).cell? ⟨w.heap.size, j, none⟩ = some (f j) := by
  intro j hj
  rw [cell_of_row (w.alloc (.cells cs T)) w.heap.size j cs T (0, 0) (heap_alloc_new w _)]
  exact h j hj

/-- The slices that Pack joins. -/
def three (v1 v2 v3 : Value) : Nat → Value | 0 => v1 | 1 => v2 | _ => v3
theorem three_cells (w : World) (v1 v2 v3 : Value) (T : TypeId) : ∀ j, j < 3 → (w.alloc (.cells #[v1, v2, v3] T)).cell? ⟨w.heap.size, j, none⟩ = some (three v1 v2 v3 j) :=
  block_fn w _ T _ 3 fun j hj => by
    rcases (show j = 0 ∨ j = 1 ∨ j = 2 by omega) with rfl | rfl | rfl <;> rfl
theorem two_cells (w : World) (v1 v2 : Value) (T : TypeId) : ∀ j, j < 2 → (w.alloc (.cells #[v1, v2] T)).cell? ⟨w.heap.size, j, none⟩ = some (three v1 v2 v2 j) :=
  block_fn w _ T _ 2 fun j hj => by
    rcases (show j = 0 ∨ j = 1 by omega) with rfl | rfl <;> rfl
def pick3 {α : Type} (a b c : α) : Nat → α | 0 => a | 1 => b | _ => c
theorem three_slices (A1 A2 A3 : Option Addr) (n1 n2 n3 c1 c2 c3 : Nat) (j : Nat) : three (.slice A1 n1 c1) (.slice A2 n2 c2) (.slice A3 n3 c3) j = .slice (pick3 A1 A2 A3 j) (pick3 n1 n2 n3 j) (pick3 c1 c2 c3 j) := by
  match j with
  | 0 => rfl
  | 1 => rfl
  | j + 2 => rfl

theorem Concat3 {A1 A2 A3 : Option Addr} {n1 n2 n3 c1 c2 c3 B : Nat} {l1 l2 l3 : List Int} {w : World} (T : TypeId) (h1 : RB w B A1 n1 l1) (h2 : RB w B A2 n2 l2) (h3 : RB w B A3 n3 l3) (hB : B ≤ w.heap.size) (h0 : 0 < n1) (hn : n1 + n2 + n3 ≤ 140737488355328) :
    Calls Tryd.prog 14 #[.slice (some ⟨w.heap.size, 0, none⟩) 3 3] (w.alloc (.cells #[.slice A1 n1 c1, .slice A2 n2 c2, .slice A3 n3 c3] T)) fun e w' => ∃ v, e = .returned v ∧ w'.ownsRow w.heap.size 5 1 v (n1 + n2 + n3) ((l1 ++ l2 ++ l3).map (Value.int .u8)) ∧ Below w.heap.size w w' := by
  have ht : totN (pick3 n1 n2 n3) 3 = n1 + n2 + n3 := by simp [totN, pick3]
  have hl : catL (pick3 l1 l2 l3) 3 = l1 ++ l2 ++ l3 := by simp [catL, pick3]
  have hx := Concat_any w.heap.size 3 B (pick3 A1 A2 A3) (pick3 n1 n2 n3) (pick3 c1 c2 c3) (pick3 l1 l2 l3) (w.alloc (.cells #[.slice A1 n1 c1, .slice A2 n2 c2, .slice A3 n3 c3] T)) (by simp) (by simp; omega) (by decide)
    (fun j hj => by rw [← three_slices]; exact three_cells w _ _ _ T j hj)
    (fun j hj => by
      rcases (show j = 0 ∨ j = 1 ∨ j = 2 by omega) with rfl | rfl | rfl
      · exact h1.alloc hB _
      · exact h2.alloc hB _
      · exact h3.alloc hB _)
    (by omega) (by omega)
  rw [ht, hl] at hx
  refine hx.mono ?_
  rintro e w' ⟨v, rfl, hown, hb⟩
  exact ⟨v, rfl, own_base_le hown (by simp), ((Below.refl w.heap.size w).alloc (Nat.le_refl _) _).trans (hb.mono (by simp))⟩

theorem Concat2 {A1 A2 : Option Addr} {n1 n2 c1 c2 B : Nat} {l1 l2 : List Int} {w : World} (T : TypeId) (h1 : RB w B A1 n1 l1) (h2 : RB w B A2 n2 l2) (hB : B ≤ w.heap.size) (h0 : 0 < n1) (hn : n1 + n2 ≤ 140737488355328) :
    Calls Tryd.prog 14 #[.slice (some ⟨w.heap.size, 0, none⟩) 2 2] (w.alloc (.cells #[.slice A1 n1 c1, .slice A2 n2 c2] T)) fun e w' => ∃ v, e = .returned v ∧ w'.ownsRow w.heap.size 5 1 v (n1 + n2) ((l1 ++ l2).map (Value.int .u8)) ∧ Below w.heap.size w w' := by
  have ht : totN (pick3 n1 n2 n2) 2 = n1 + n2 := by simp [totN, pick3]
  have hl : catL (pick3 l1 l2 l2) 2 = l1 ++ l2 := by simp [catL, pick3]
  have hx := Concat_any w.heap.size 2 B (pick3 A1 A2 A2) (pick3 n1 n2 n2) (pick3 c1 c2 c2) (pick3 l1 l2 l2) (w.alloc (.cells #[.slice A1 n1 c1, .slice A2 n2 c2] T)) (by simp) (by simp; omega) (by decide)
    (fun j hj => by rw [← three_slices]; exact two_cells w _ _ T j hj)
    (fun j hj => by
      rcases (show j = 0 ∨ j = 1 by omega) with rfl | rfl
      · exact h1.alloc hB _
      · exact h2.alloc hB _)
    (by omega) (by omega)
  rw [ht, hl] at hx
  refine hx.mono ?_
  rintro e w' ⟨v, rfl, hown, hb⟩
  exact ⟨v, rfl, own_base_le hown (by simp), ((Below.refl w.heap.size w).alloc (Nat.le_refl _) _).trans (hb.mono (by simp))⟩

set_option maxHeartbeats 1600000 in
theorem Pack_yes (A : Option Addr) (n c B : Nat) (l : List Int) (p s : Int) (w : World) (hr : RB w B A n l) (hB : B ≤ w.heap.size) (hn : n = 240) (hs : secR p s = true) (ht : Tab w) (hg : 0 < w.heap.size) :
    Calls Tryd.prog 7 #[.int .i64 p, .int .i64 s, .slice A n c] w fun e w' => ∃ v, e = .returned (.tuple #[v, .int .i64 0]) ∧ w'.ownsRow w.heap.size 5 1 v 256 ((secL p s l).map (Value.int .u8)) ∧ Below w.heap.size w w' := by
  subst hn
  obtain ⟨r1, r2⟩ := secR_right hs
  obtain ⟨b1, b2, b3, b4⟩ := secR_ints hs
  have HS := Lib.hid hs
  have hlen := hr.len
  have HR1 := Lib.hid (putR_page r1)
  have HR2 := Lib.hid (putR_seq [] r2)
  have hbytes := secBody_bytes p s hr.bytes
  clear hs r1 r2
  go_enter Tryd.func7, Tryd.ntmps7
  go_wp2_with fail
  refine (secRight_said _ _ _).mono ?_
  rw [HS.out]
  rintro e w1 ⟨rfl, rfl⟩
  go_wp2_with fail
  refine (Put_own none 0 0 0 [] p 4 _ RB.nil_ (Nat.zero_le _) (Nat.le_refl _) (by decide) b1 b2).mono ?_
  rw [HR1.out, putB_length]
  rintro e w1 ⟨v1, rfl, hown1, hb1⟩
  obtain ⟨A1, c1, rfl, hc1, hr1⟩ := read_own hown1 (putB_bytes _ _)
  have hs1 := hb1.size
  have hra1 := hr.below (hb1.mono hB)
  clear hown1
  go_wp2_with fail
  refine (Put_own none 0 0 0 [] s 8 _ RB.nil_ (Nat.zero_le _) (Nat.le_refl _) (by decide) b3 b4).mono ?_
  rw [HR2.out, List.nil_append, putB_length]
  rintro e w2 ⟨v2, rfl, hown2, hb2⟩
  obtain ⟨A2, c2, rfl, hc2, hr2⟩ := read_own hown2 (putB_bytes _ _)
  have hs2 := hb2.size
  have hb02 := hb1.trans (hb2.mono hs1)
  have hra2 := (hra1.below (hb2.mono (Nat.le_trans hB hs1))).more (B' := w2.heap.size) (by omega)
  have hr12 := (hr1.below hb2).more (B' := w2.heap.size) hs2
  clear hr1 hra1 hown2
  go_wp2_with fail
  refine (Concat3 _ hr12 hr2 hra2 (Nat.le_refl _) (by decide) (by decide)).mono ?_
  rintro e w3 ⟨v3, rfl, hown3, hb3⟩
  have hown3' : w3.ownsRow w2.heap.size 5 1 v3 252 ((secBody p s l).map (Value.int .u8)) := hown3
  obtain ⟨A3, c3, rfl, hc3, hr3⟩ := read_own hown3' hbytes
  have hs3 := hb3.size
  have hb03 := hb02.trans (hb3.mono hb02.size)
  have ht3 := ht.below hb03 hg
  clear hown3 hown3' hra2 hr12 hr2
  go_wp2_with fail
  refine (sumOf_any _ _ _ _ _ _ hr3 (by decide) ht3).mono ?_
  rintro e w4 ⟨v4, rfl, hown4, hb4⟩
  obtain ⟨A4, c4, rfl, hc4, hr4⟩ := read_own hown4 (putB_bytes _ _)
  have hs4 := hb4.size
  have hr34 := (hr3.below hb4).more (B' := w4.heap.size) hs4
  have hb04 := hb03.trans (hb4.mono hb03.size)
  clear hr3 hown4
  go_wp2_with fail
  refine (Concat2 _ hr4 hr34 (Nat.le_refl _) (by decide) (by decide)).mono ?_
  rintro e w5 ⟨v5, rfl, hown5, hb5⟩
  have hown5' := Lib.hid (own_base_le (show w5.ownsRow w4.heap.size 5 1 v5 256 ((secL p s l).map (Value.int .u8)) from hown5) hb04.size)
  have hb05 := hb04.trans (hb5.mono hb04.size)
  clear hown5 hr4 hr34
  go_wp2
  go_ret2
  exact ⟨_, rfl, hown5'.out, hb05⟩

set_option maxHeartbeats 400000 in
theorem Pack_no (A : Option Addr) (n c : Nat) (p s : Int) (w : World) (hn : n ≤ maxLen) (h : secR p s = false ∨ n ≠ 240) :
    Calls Tryd.prog 7 #[.int .i64 p, .int .i64 s, .slice A n c] w fun e w' => e = .returned (.tuple #[.slice none 0 0, .int .i64 1]) ∧ w = w' := by
  unfold maxLen at hn
  by_cases hs : secR p s = true
  · have hne : n ≠ 240 := by
      rcases h with h | h
      · rw [hs] at h; cases h
      · exact h
    have k : ((n : Int) != 240) = true := by simp; omega
    have HS := Lib.hid hs
    clear hs h
    go_enter Tryd.func7, Tryd.ntmps7
    go_wp2_with fail
    refine (secRight_said _ _ _).mono ?_
    rw [HS.out]
    rintro e w1 ⟨rfl, rfl⟩
    go_wp2
    go_ret2
    exact ⟨rfl, rfl⟩
  · have HS := Lib.hid (show secR p s = false by simpa using hs)
    clear hs h
    go_enter Tryd.func7, Tryd.ntmps7
    go_wp2_with fail
    refine (secRight_said _ _ _).mono ?_
    rw [HS.out]
    rintro e w1 ⟨rfl, rfl⟩
    go_wp2
    go_ret2
    exact ⟨rfl, rfl⟩

theorem pack_said : PackSaid := by
  intro A n c B l p s w hr hB hc hn ht hg
  unfold packR
  by_cases h : secR p s = true ∧ l.length = 240
  · rw [if_pos h]
    refine (Pack_yes A n c B l p s w hr hB (by rw [← hr.len]; exact h.2) h.1 ht hg).mono ?_
    rintro e w' ⟨v, rfl, hown, hb⟩
    have hl : (secL p s l).length = 256 := by rw [secL_length, h.2]
    exact ⟨v, rfl, by rw [hl]; exact hown, hb⟩
  · rw [if_neg h]
    have h' : secR p s = false ∨ n ≠ 240 := by
      by_cases hs : secR p s = true
      · right
        intro e
        exact h ⟨hs, by rw [hr.len]; exact e⟩
      · left; simpa using hs
    refine (Pack_no A n c p s w (by unfold maxLen; omega) h').mono ?_
    rintro e w' ⟨rfl, rfl⟩
    exact ⟨_, rfl, World.ownsRow_nil _ _ _ _, Below.refl _ _⟩

end Go.Proofs.YtkpopdoigkcpgaaDoor
