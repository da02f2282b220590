/-
  The texts SecPack, SecDev, RedoPA, RedoPB, RedoPC joined. Conditions: those that each part says at its head.
-/
import Derived.Test.YtinhdimalhfgkaaGreatDoorG7
import Derived.Test.YtinhdimalhfgkaaGreatDoorG9
import Derived.Test.YtinhdimalhfgkaaGreatDoorG8
import Derived.Deep.RegionWith
import Derived.BigQuiet
import Derived.Deep.Cut

/-
  The program's own Right and Pack of sectors by contract. Conditions: fewer than 2^47 bytes; the table that crc.Step reads holds what the program's text lays in it.
-/
namespace Go.Proofs.YtinhdimalhfgkaaGreatDoor
open Go.RowKit
set_option maxRecDepth 100000
set_option linter.unusedVariables false

theorem secR_and (p s : Int) : secR p s = (rightB p 4 && (decide (0 ≤ s) && decide (s ≤ 4611686018427387904))) := by
  unfold secR rightB
  by_cases a : 0 ≤ p <;> by_cases b : p < 4294967296 <;> by_cases c : 0 ≤ s <;> by_cases d : s ≤ 4611686018427387904 <;> simp [a, b, c, d]

set_option maxHeartbeats 800000 in
theorem secRight_said : SecRightSaid := by
  intro p s w
  rw [secR_and]
  generalize hb : rightB p 4 = b
  generalize h3 : decide (0 ≤ s) = b3
  generalize h4 : decide (s ≤ 4611686018427387904) = b4
  have HB := Lib.hid hb
  clear hb
  cases b
  · go_enter Tryz.func138, Tryz.ntmps138
    go_wp2_with (go_at_call 199; refine (Right_no _ _ _ HB.out).mono ?_; rintro e w' ⟨rfl, rfl⟩)
    go_ret; exact ⟨rfl, rfl⟩
  cases b3
  · go_enter Tryz.func138, Tryz.ntmps138
    go_wp2_with (go_at_call 199; refine (Right_yes _ _ _ HB.out).mono ?_; rintro e w' ⟨rfl, rfl⟩)
    go_ret; exact ⟨rfl, rfl⟩
  cases b4
  · go_enter Tryz.func138, Tryz.ntmps138
    go_wp2_with (go_at_call 199; refine (Right_yes _ _ _ HB.out).mono ?_; rintro e w' ⟨rfl, rfl⟩)
    go_ret; exact ⟨rfl, rfl⟩
  · go_enter Tryz.func138, Tryz.ntmps138
    go_wp2_with (go_at_call 199; refine (Right_yes _ _ _ HB.out).mono ?_; rintro e w' ⟨rfl, rfl⟩)
    go_ret; exact ⟨rfl, rfl⟩

set_option maxHeartbeats 800000 in
theorem sumOf_any (A : Option Addr) (n c B : Nat) (l : List Int) (w : World) (hr : RB w B A n l) (hm : n ≤ maxLen) (ht : Tab w) :
    Calls Tryz.prog 136 #[.slice A n c] w fun e w' => ∃ v, e = .returned v ∧ w'.ownsRow w.heap.size 5 1 v 4 ((putB (sumOf l : Int) 4).map (Value.int .u8)) ∧ Below w.heap.size w w' := by
  have hsl := sumOf_lt hr.bytes
  have HR := Lib.hid (putR_page (sum_right hr.bytes))
  go_enter Tryz.func136, Tryz.ntmps136
  go_wp2_with fail
  refine (Sum_any _ _ _ _ _ _ hr hm ht).mono ?_
  rintro e w1 ⟨rfl, rfl⟩
  go_wp2_with fail
  refine (Put_own none 0 0 0 [] (sumOf l : Int) 4 _ RB.nil_ (Nat.zero_le _) (Nat.le_refl _) (by decide) (by omega) (by omega)).mono ?_
  rw [HR.out, putB_length]
  rintro e w2 ⟨v, rfl, hown, hb⟩
  go_wp2
  go_ret
  exact ⟨_, rfl, hown, hb⟩

theorem block_fn (w : World) (cs : Array Value) (T : TypeId) (f : Nat → Value) (k : Nat) (h : ∀ j, j < k → cs[j]? = some (f j)) : ∀ j, j < k → (w.alloc (.cells cs T)).cell? ⟨w.heap.size, j, none⟩ = some (f j) := by
  intro j hj
  rw [cell_of_row (w.alloc (.cells cs T)) w.heap.size j cs T (0, 0) (heap_alloc_new w _)]
  exact h j hj

/-- The slices that Pack joins. -/
def three (v1 v2 v3 : Value) : Nat → Value | 0 => v1 | 1 => v2 | _ => v3
theorem three_cells (w : World) (v1 v2 v3 : Value) (T : TypeId) : ∀ j, j < 3 → (w.alloc (.cells #[v1, v2, v3] T)).cell? ⟨w.heap.size, j, none⟩ = some (three v1 v2 v3 j) :=
  block_fn w _ T _ 3 fun j hj => by
    rcases (show j = 0 ∨ j = 1 ∨ j = 2 by omega) with rfl | rfl | rfl <;> rfl
theorem two_cells (w : World) (v1 v2 : Value) (T : TypeId) : ∀ j, j < 2 → (w.alloc (.cells #[v1, v2] T)).cell? ⟨w.heap.size, j, none⟩ = some (three v1 v2 v2 j) :=
  block_fn w _ T _ 2 fun j hj => by
    rcases (show j = 0 ∨ j = 1 by omega) with rfl | rfl <;> rfl
def pick3 {α : Type} (a b c : α) : Nat → α | 0 => a | 1 => b | _ => c
theorem three_slices (A1 A2 A3 : Option Addr) (n1 n2 n3 c1 c2 c3 : Nat) (j : Nat) : three (.slice A1 n1 c1) (.slice A2 n2 c2) (.slice A3 n3 c3) j = .slice (pick3 A1 A2 A3 j) (pick3 n1 n2 n3 j) (pick3 c1 c2 c3 j) := by
  match j with
  | 0 => rfl
  | 1 => rfl
  | j + 2 => rfl

theorem Concat3 {A1 A2 A3 : Option Addr} {n1 n2 n3 c1 c2 c3 B : Nat} {l1 l2 l3 : List Int} {w : World} (T : TypeId) (h1 : RB w B A1 n1 l1) (h2 : RB w B A2 n2 l2) (h3 : RB w B A3 n3 l3) (hB : B ≤ w.heap.size) (h0 : 0 < n1) (hn : n1 + n2 + n3 ≤ 140737488355328) :
    Calls Tryz.prog 191 #[.slice (some ⟨w.heap.size, 0, none⟩) 3 3] (w.alloc (.cells #[.slice A1 n1 c1, .slice A2 n2 c2, .slice A3 n3 c3] T)) fun e w' => ∃ v, e = .returned v ∧ w'.ownsRow w.heap.size 5 1 v (n1 + n2 + n3) ((l1 ++ l2 ++ l3).map (Value.int .u8)) ∧ Below w.heap.size w w' := by
  have ht : totN (pick3 n1 n2 n3) 3 = n1 + n2 + n3 := by simp [totN, pick3]
  have hl : catL (pick3 l1 l2 l3) 3 = l1 ++ l2 ++ l3 := by simp [catL, pick3]
  have hx := Concat_any w.heap.size 3 B (pick3 A1 A2 A3) (pick3 n1 n2 n3) (pick3 c1 c2 c3) (pick3 l1 l2 l3) (w.alloc (.cells #[.slice A1 n1 c1, .slice A2 n2 c2, .slice A3 n3 c3] T)) (by simp) (by simp; omega) (by decide)
    (fun j hj => by rw [← three_slices]; exact three_cells w _ _ _ T j hj)
    (fun j hj => by
      rcases (show j = 0 ∨ j = 1 ∨ j = 2 by omega) with rfl | rfl | rfl
      · exact h1.alloc hB _
      · exact h2.alloc hB _
      · exact h3.alloc hB _)
    (by omega) (by omega)
  rw [ht, hl] at hx
  refine hx.mono ?_
  rintro e w' ⟨v, rfl, hown, hb⟩
  exact ⟨v, rfl, own_base_le hown (by simp), ((Below.refl w.heap.size w).alloc (Nat.le_refl _) _).trans (hb.mono (by simp))⟩

theorem Concat2 {A1 A2 : Option Addr} {n1 n2 c1 c2 B : Nat} {l1 l2 : List Int} {w : World} (T : TypeId) (h1 : RB w B A1 n1 l1) (h2 : RB w B A2 n2 l2) (hB : B ≤ w.heap.size) (h0 : 0 < n1) (hn : n1 + n2 ≤ 140737488355328) :
    Calls Tryz.prog 191 #[.slice (some ⟨w.heap.size, 0, none⟩) 2 2] (w.alloc (.cells #[.slice A1 n1 c1, .slice A2 n2 c2] T)) fun e w' => ∃ v, e = .returned v ∧ w'.ownsRow w.heap.size 5 1 v (n1 + n2) ((l1 ++ l2).map (Value.int .u8)) ∧ Below w.heap.size w w' := by
  have ht : totN (pick3 n1 n2 n2) 2 = n1 + n2 := by simp [totN, pick3]
  have hl : catL (pick3 l1 l2 l2) 2 = l1 ++ l2 := by simp [catL, pick3]
  have hx := Concat_any w.heap.size 2 B (pick3 A1 A2 A2) (pick3 n1 n2 n2) (pick3 c1 c2 c2) (pick3 l1 l2 l2) (w.alloc (.cells #[.slice A1 n1 c1, .slice A2 n2 c2] T)) (by simp) (by simp; omega) (by decide)
    (fun j hj => by rw [← three_slices]; exact two_cells w _ _ T j hj)
    (fun j hj => by
      rcases (show j = 0 ∨ j = 1 by omega) with rfl | rfl
      · exact h1.alloc hB _
      · exact h2.alloc hB _)
    (by omega) (by omega)
  rw [ht, hl] at hx
  refine hx.mono ?_
  rintro e w' ⟨v, rfl, hown, hb⟩
  exact ⟨v, rfl, own_base_le hown (by simp), ((Below.refl w.heap.size w).alloc (Nat.le_refl _) _).trans (hb.mono (by simp))⟩

set_option maxHeartbeats 1600000 in
theorem Pack_yes (A : Option Addr) (n c B : Nat) (l : List Int) (p s : Int) (w : World) (hr : RB w B A n l) (hB : B ≤ w.heap.size) (hn : n = 240) (hs : secR p s = true) (ht : Tab w) (hg : 1 < w.heap.size) :
    Calls Tryz.prog 130 #[.int .i64 p, .int .i64 s, .slice A n c] w fun e w' => ∃ v, e = .returned (.tuple #[v, .int .i64 0]) ∧ w'.ownsRow w.heap.size 5 1 v 256 ((secL p s l).map (Value.int .u8)) ∧ Below w.heap.size w w' := by
  subst hn
  obtain ⟨r1, r2⟩ := secR_right hs
  obtain ⟨b1, b2, b3, b4⟩ := secR_ints hs
  have HS := Lib.hid hs
  have hlen := hr.len
  have HR1 := Lib.hid (putR_page r1)
  have HR2 := Lib.hid (putR_seq [] r2)
  have hbytes := secBody_bytes p s hr.bytes
  clear hs r1 r2
  go_enter Tryz.func130, Tryz.ntmps130
  go_wp2_with fail
  refine (secRight_said _ _ _).mono ?_
  rw [HS.out]
  rintro e w1 ⟨rfl, rfl⟩
  go_wp2_with fail
  refine (Put_own none 0 0 0 [] p 4 _ RB.nil_ (Nat.zero_le _) (Nat.le_refl _) (by decide) b1 b2).mono ?_
  rw [HR1.out, putB_length]
  rintro e w1 ⟨v1, rfl, hown1, hb1⟩
  obtain ⟨A1, c1, rfl, hc1, hr1⟩ := read_own hown1 (putB_bytes _ _)
  have hs1 := hb1.size
  have hra1 := hr.below (hb1.mono hB)
  clear hown1
  go_wp2_with fail
  refine (Put_own none 0 0 0 [] s 8 _ RB.nil_ (Nat.zero_le _) (Nat.le_refl _) (by decide) b3 b4).mono ?_
  rw [HR2.out, List.nil_append, putB_length]
  rintro e w2 ⟨v2, rfl, hown2, hb2⟩
  obtain ⟨A2, c2, rfl, hc2, hr2⟩ := read_own hown2 (putB_bytes _ _)
  have hs2 := hb2.size
  have hb02 := hb1.trans (hb2.mono hs1)
  have hra2 := (hra1.below (hb2.mono (Nat.le_trans hB hs1))).more (B' := w2.heap.size) (by omega)
  have hr12 := (hr1.below hb2).more (B' := w2.heap.size) hs2
  clear hr1 hra1 hown2
  go_wp2_with fail
  refine (Concat3 _ hr12 hr2 hra2 (Nat.le_refl _) (by decide) (by decide)).mono ?_
  rintro e w3 ⟨v3, rfl, hown3, hb3⟩
  have hown3' : w3.ownsRow w2.heap.size 5 1 v3 252 ((secBody p s l).map (Value.int .u8)) := hown3
  obtain ⟨A3, c3, rfl, hc3, hr3⟩ := read_own hown3' hbytes
  have hs3 := hb3.size
  have hb03 := hb02.trans (hb3.mono hb02.size)
  have ht3 := ht.below hb03 hg
  clear hown3 hown3' hra2 hr12 hr2
  go_wp2_with fail
  refine (sumOf_any _ _ _ _ _ _ hr3 (by decide) ht3).mono ?_
  rintro e w4 ⟨v4, rfl, hown4, hb4⟩
  obtain ⟨A4, c4, rfl, hc4, hr4⟩ := read_own hown4 (putB_bytes _ _)
  have hs4 := hb4.size
  have hr34 := (hr3.below hb4).more (B' := w4.heap.size) hs4
  have hb04 := hb03.trans (hb4.mono hb03.size)
  clear hr3 hown4
  go_wp2_with fail
  refine (Concat2 _ hr4 hr34 (Nat.le_refl _) (by decide) (by decide)).mono ?_
  rintro e w5 ⟨v5, rfl, hown5, hb5⟩
  have hown5' := Lib.hid (own_base_le (show w5.ownsRow w4.heap.size 5 1 v5 256 ((secL p s l).map (Value.int .u8)) from hown5) hb04.size)
  have hb05 := hb04.trans (hb5.mono hb04.size)
  clear hown5 hr4 hr34
  go_wp2
  go_ret2
  exact ⟨_, rfl, hown5'.out, hb05⟩

set_option maxHeartbeats 400000 in
theorem Pack_no (A : Option Addr) (n c : Nat) (p s : Int) (w : World) (hn : n ≤ maxLen) (h : secR p s = false ∨ n ≠ 240) :
    Calls Tryz.prog 130 #[.int .i64 p, .int .i64 s, .slice A n c] w fun e w' => e = .returned (.tuple #[.slice none 0 0, .int .i64 1]) ∧ w = w' := by
  unfold maxLen at hn
  by_cases hs : secR p s = true
  · have hne : n ≠ 240 := by
      rcases h with h | h
      · rw [hs] at h; cases h
      · exact h
    have k : ((n : Int) != 240) = true := by simp; omega
    have HS := Lib.hid hs
    clear hs h
    go_enter Tryz.func130, Tryz.ntmps130
    go_wp2_with fail
    refine (secRight_said _ _ _).mono ?_
    rw [HS.out]
    rintro e w1 ⟨rfl, rfl⟩
    go_wp2
    go_ret2
    exact ⟨rfl, rfl⟩
  · have HS := Lib.hid (show secR p s = false by simpa using hs)
    clear hs h
    go_enter Tryz.func130, Tryz.ntmps130
    go_wp2_with fail
    refine (secRight_said _ _ _).mono ?_
    rw [HS.out]
    rintro e w1 ⟨rfl, rfl⟩
    go_wp2
    go_ret2
    exact ⟨rfl, rfl⟩

theorem pack_said : PackSaid := by
  intro A n c B l p s w hr hB hc hn ht hg
  unfold packR
  by_cases h : secR p s = true ∧ l.length = 240
  · rw [if_pos h]
    refine (Pack_yes A n c B l p s w hr hB (by rw [← hr.len]; exact h.2) h.1 ht hg).mono ?_
    rintro e w' ⟨v, rfl, hown, hb⟩
    have hl : (secL p s l).length = 256 := by rw [secL_length, h.2]
    exact ⟨v, rfl, by rw [hl]; exact hown, hb⟩
  · rw [if_neg h]
    have h' : secR p s = false ∨ n ≠ 240 := by
      by_cases hs : secR p s = true
      · right
        intro e
        exact h ⟨hs, by rw [hr.len]; exact e⟩
      · left; simpa using hs
    refine (Pack_no A n c p s w (by unfold maxLen; omega) h').mono ?_
    rintro e w' ⟨rfl, rfl⟩
    exact ⟨_, rfl, World.ownsRow_nil _ _ _ _, Below.refl _ _⟩

end Go.Proofs.YtinhdimalhfgkaaGreatDoor

/-
  The program's own Unpack of sectors by contract. Conditions: fewer than 2^47 bytes; the table that crc.Step reads holds what the program's text lays in it.
-/
namespace Go.Proofs.YtinhdimalhfgkaaGreatDoor
open Go.RowKit
set_option maxRecDepth 100000
set_option linter.unusedVariables false

/-- Whether the sum that stands first is that of what follows. -/
theorem sum_stands {l : List Int} (hl : AllBytes l) (h : l.length = 256) : (l.take 4 = putB (sumOf (l.drop 4) : Int) 4) ↔ numOf (l.take 4) = (sumOf (l.drop 4) : Int) := by
  have hs := sumOf_lt (hl.drop 4)
  constructor
  · intro e
    rw [e]
    exact wrap_putB (sum_right (hl.drop 4)) (by omega) (by omega)
  · intro e
    rw [← e]
    exact (putB_numOf4 (hl.take 4) (by simp; omega)).symm

set_option maxHeartbeats 1600000 in
theorem Unpack_len (A : Option Addr) (n c : Nat) (w : World) (hm : n ≤ maxLen) (hn : n ≠ 256) :
    Calls Tryz.prog 81 #[.slice A n c] w fun e w' => e = .returned (.tuple #[.int .i64 0, .int .i64 0, .slice none 0 0, .int .i64 4]) ∧ Below w.heap.size w w' := by
  have k : ((n : Int) != 256) = true := by simp; omega
  unfold maxLen at hm
  go_enter Tryz.func81, Tryz.ntmps81
  go_wp2_with fail
  go_quiet (fail)
  go_wp2
  exact bodyPost_ret (v := .tuple #[.int .i64 0, .int .i64 0, .slice none 0 0, .int .i64 4]) (by simp [results, Tryz.results81, go_sem]) rfl ⟨rfl, below_drewN (Below.refl w.heap.size w) _⟩

theorem sumOf_sl (A : Option Addr) (n c B : Nat) (l : List Int) (w : World) (hr : RB w B A n l) (hm : n ≤ maxLen) (ht : Tab w) :
    Calls Tryz.prog 136 #[.slice A n c] w fun e w' => ∃ A' c', e = .returned (.slice A' 4 c') ∧ RB w' w'.heap.size A' 4 (putB (sumOf l : Int) 4) ∧ Below w.heap.size w w' := by
  refine (sumOf_any A n c B l w hr hm ht).mono ?_
  rintro e w1 ⟨v1, rfl, hown1, hb1⟩
  obtain ⟨A1, c1, rfl, hc1, hr1⟩ := read_own hown1 (putB_bytes _ _)
  exact ⟨A1, c1, rfl, hr1, hb1⟩

set_option maxHeartbeats 8000000 in
theorem Unpack_256 (A : Option Addr) (c B : Nat) (l : List Int) (w : World) (hr : RB w B A 256 l) (hB : B ≤ w.heap.size) (hc : 256 ≤ c) (ht : Tab w) (hg : 1 < w.heap.size) :
    Calls Tryz.prog 81 #[.slice A 256 c] w fun e w' => ∃ A' n' c', e = .returned (.tuple #[.int .i64 (unpackR l).1, .int .i64 (unpackR l).2.1, .slice A' n' c', .int .i64 (unpackR l).2.2.2]) ∧ n' ≤ c' ∧ RB w' w'.heap.size A' n' (unpackR l).2.2.1 ∧ Below w.heap.size w w' := by
  have hl := hr.len
  obtain ⟨bd, hd⟩ : ∃ bd, bd = decide (l.take 4 = putB (sumOf (l.drop 4) : Int) 4) := ⟨_, rfl⟩
  have HD := Lib.hid hd
  clear hd
  obtain ⟨b, off, rfl, hb, hcell⟩ := hr.at_ (by omega)
  have hr0 : RB w B (some ⟨b, off, none⟩) 4 (l.take 4) := ⟨by simp; omega, hr.bytes.take 4, fun _ => ⟨b, off, rfl, hb, fun j hj => by rw [hcell j (by omega), List.getElem?_take, if_pos hj]⟩⟩
  have hr4 : RB w B (some ⟨b, off + 4, none⟩) 252 (l.drop 4) := hr.cut hcell 4 (by omega) hb
  have ht1 : Tab w.drew := ht
  have hr0d : RB w.drew B (some ⟨b, off, none⟩) 4 (l.take 4) := hr0.drew
  have hr4d : RB w.drew B (some ⟨b, off + 4, none⟩) 252 (l.drop 4) := hr4.drew
  have hBd : B ≤ w.drew.heap.size := hB
  have hBel := Lib.hid ((Below.refl w.heap.size w).drew)
  have hr16 : RB w B (some ⟨b, off + 16, none⟩) 240 (l.drop 16) := hr.cut hcell 16 (by omega) hb
  have HR := Lib.hid hr
  have HR16 := Lib.hid hr16
  have HST := Lib.hid (sum_stands hr.bytes hl)
  clear hcell hr0 hr4 hr ht hr16
  go_enter Tryz.func81, Tryz.ntmps81
  go_wp2_with fail
  go_cut [21] from 10 (fun c wx => c = .bool (!bd) ∧ Below w.heap.size w wx)
  case first =>
    have hc4 : ¬ (c = 4) := by omega
    go_region_with
      (first
        | (go_at_call 136; refine (sumOf_sl _ _ _ _ _ _ hr4d (by decide) ht1).mono ?_; rintro e w1 ⟨A1, c1, rfl, hr1, hb1⟩; have hr01 := hr0d.below (hb1.mono hBd); have hB1 := Nat.le_trans hBd hb1.size)
        | (go_at_call 135; refine (SEqual_any _ _ hr01 hr1 (by decide) (by decide) hB1 (Nat.le_refl _)).mono ?_; rw [← HD.out]; rintro e w2 ⟨rfl, hb2⟩; have hb02 := Lib.hid (hBel.out.trans (hb1.trans (hb2.mono hb1.size))); clear hb1 hb2 hr01 hr1))
    all_goals (go_wp2; go_meet; (case rel => exact ⟨rfl, hb02.out⟩))
  case rest =>
    obtain ⟨rfl, hbw⟩ := hcut
    have hrc := HR.out.below (hbw.mono hB)
    have hr16c := HR16.out.below (hbw.mono hB)
    have hBc := Nat.le_trans hB hbw.size
    have HBW := Lib.hid hbw
    clear hr0d hr4d ht1 hBd hBel hbw HR16
    cases bd
    · have hne : unpackR l = (0, 0, [], 4) := by
        unfold unpackR
        rw [if_neg]
        rintro ⟨_, h, _⟩
        exact absurd (HST.out.2 h) (of_decide_eq_false HD.out.symm)
      have HN := Lib.hid hne
      clear hne hrc hr16c
      go_wp2
      exact bodyPost_ret (v := .tuple #[.int .i64 0, .int .i64 0, .slice none 0 0, .int .i64 4]) (by simp [results, Tryz.results81, go_sem]) rfl (by rw [HN.out]; exact ⟨none, 0, 0, rfl, Nat.le_refl _, RB.nil_, HBW.out⟩)
    · have hsum := HST.out.1 (of_decide_eq_true HD.out.symm)
      have G2 := Lib.hid (getR_at (l := l) 4 4 (by decide) (by omega))
      have G3 := Lib.hid (getR_at (l := l) 8 8 (by decide) (by omega))
      obtain ⟨sb, hsb⟩ : ∃ sb, sb = secR (numOf ((l.drop 4).take 4)) (numOf ((l.drop 8).take 8)) := ⟨_, rfl⟩
      have HS := Lib.hid hsb
      have hres : unpackR l = if sb = true then (numOf ((l.drop 4).take 4), numOf ((l.drop 8).take 8), l.drop 16, 0) else (0, 0, [], 4) := by
        unfold unpackR
        by_cases e : sb = true
        · rw [if_pos e, if_pos ⟨hl, hsum, by rw [← hsb]; exact e⟩]
        · rw [if_neg e, if_neg (fun h => e (by rw [hsb]; exact h.2.2))]
      clear hsb hsum HST HD HR
      cases sb
      · have HN := Lib.hid (hres.trans (if_neg (by decide)))
        clear hres
        go_wp2_with fail
        refine (Get_any _ _ _ _ _ 4 4 _ hrc hc (by decide)).mono ?_
        rw [show getR l 4 4 = (numOf ((l.drop 4).take 4), 0) from G2.out]
        rintro e w1 ⟨rfl, rfl⟩
        go_wp2_with fail
        refine (Get_any _ _ _ _ _ 8 8 _ hrc hc (by decide)).mono ?_
        rw [show getR l 8 8 = (numOf ((l.drop 8).take 8), 0) from G3.out]
        rintro e w1 ⟨rfl, rfl⟩
        go_wp2_with fail
        refine (secRight_said _ _ _).mono ?_
        rw [← HS.out]
        rintro e w1 ⟨rfl, rfl⟩
        go_wp2
        exact bodyPost_ret (v := .tuple #[.int .i64 0, .int .i64 0, .slice none 0 0, .int .i64 4]) (by simp [results, Tryz.results81, go_sem]) rfl (by rw [HN.out]; exact ⟨none, 0, 0, rfl, Nat.le_refl _, RB.nil_, HBW.out⟩)
      · have HN := Lib.hid (hres.trans (if_pos rfl))
        clear hres
        go_wp2_with fail
        refine (Get_any _ _ _ _ _ 4 4 _ hrc hc (by decide)).mono ?_
        rw [show getR l 4 4 = (numOf ((l.drop 4).take 4), 0) from G2.out]
        rintro e w1 ⟨rfl, rfl⟩
        go_wp2_with fail
        refine (Get_any _ _ _ _ _ 8 8 _ hrc hc (by decide)).mono ?_
        rw [show getR l 8 8 = (numOf ((l.drop 8).take 8), 0) from G3.out]
        rintro e w1 ⟨rfl, rfl⟩
        go_wp2_with fail
        refine (secRight_said _ _ _).mono ?_
        rw [← HS.out]
        rintro e w1 ⟨rfl, rfl⟩
        go_wp2_with fail
        refine (SClone_any _ hr16c hBc (by decide)).mono ?_
        rintro e w2 ⟨A2, c2, rfl, hc2, hr2, hb2⟩
        go_wp2
        exact bodyPost_ret (v := .tuple #[.int .i64 (numOf ((l.drop 4).take 4)), .int .i64 (numOf ((l.drop 8).take 8)), .slice A2 240 c2, .int .i64 0]) (by simp [results, Tryz.results81, go_sem]) rfl (by rw [HN.out]; exact ⟨A2, 240, c2, rfl, hc2, hr2, HBW.out.trans (hb2.mono HBW.out.size)⟩)

theorem unpack_said : UnpackSaid := by
  intro A n c B l w hr hB hc hn ht hg
  by_cases h : n = 256
  · subst h
    exact Unpack_256 A c B l w hr hB hc ht hg
  · refine (Unpack_len A n c w (by unfold maxLen; omega) h).mono ?_
    have hne : unpackR l = (0, 0, [], 4) := by
      unfold unpackR
      rw [if_neg]
      rintro ⟨h', _⟩
      exact h (by rw [← hr.len]; exact h')
    rw [hne]
    rintro e w' ⟨rfl, hb⟩
    exact ⟨none, 0, 0, rfl, Nat.le_refl _, RB.nil_, hb⟩

end Go.Proofs.YtinhdimalhfgkaaGreatDoor

/-
  Contract of the program's put: sectors written one behind the other, then made safe; over any disk that answers as it is to. Conditions: sectors of 256 bytes, at most 65,536 of them; fewer than 2^63 - 1 writes.
-/
namespace Go.Proofs.YtinhdimalhfgkaaGreatDoor
open Go.RowKit
set_option maxRecDepth 100000
set_option linter.unusedVariables false

/-- Sectors written one behind the other, then made safe. -/
def putS (S : DS) : List (Int × List Int) → Int × DS
  | [] => S.fl
  | y :: r => thenS (S.wr y.1 y.2) (fun S' => putS S' r)
theorem putS_cons (S : DS) (y : Int × List Int) (r : List (Int × List Int)) : putS S (y :: r) = thenS (S.wr y.1 y.2) (fun S' => putS S' r) := rfl

/-- What a call that writes to a disk leaves. -/
def WroteD (D : World → (Nat → Prop) → Addr → DS → Prop) (w : World) (F : Nat → Prop) (p : Addr) (S : DS) (w' : World) : Prop := ∃ F' : Nat → Prop, D w' F' p S ∧ Touch F w w' ∧ ∀ k, F' k → F k ∨ w.heap.size ≤ k

section
variable {D : World → (Nat → Prop) → Addr → DS → Prop} {w w1 w2 : World} {F F1 : Nat → Prop} {p : Addr} {S S1 S2 : DS}

theorem Touch.join (ht : Touch F w w1) (hF : ∀ k, F1 k → F k ∨ w.heap.size ≤ k) (h2 : Touch F1 w1 w2) : Touch F w w2 :=
  ⟨h2.os.trans ht.os, h2.tape.trans ht.tape, h2.output.trans ht.output, Nat.le_trans ht.size h2.size, fun k hk hn => (h2.block k (Nat.lt_of_lt_of_le hk ht.size) (fun hf => by
    rcases hF k hf with a | a
    · exact hn a
    · omega)).trans (ht.block k hk hn)⟩
theorem new_join {F2 : Nat → Prop} (hs : w.heap.size ≤ w1.heap.size) (hF : ∀ k, F1 k → F k ∨ w.heap.size ≤ k) (h3 : ∀ k, F2 k → F1 k ∨ w1.heap.size ≤ k) : ∀ k, F2 k → F k ∨ w.heap.size ≤ k := fun k hk => by
  rcases h3 k hk with a | a
  · exact hF k a
  · exact .inr (Nat.le_trans hs a)
theorem WroteD.join (ht : Touch F w w1) (hF : ∀ k, F1 k → F k ∨ w.heap.size ≤ k) (h : WroteD D w1 F1 p S2 w2) : WroteD D w F p S2 w2 := by
  obtain ⟨F2, h1, h2, h3⟩ := h
  exact ⟨F2, h1, ht.join hF h2, new_join ht.size hF h3⟩
theorem WroteD.below (api : DiskApi D) (h : WroteD D w F p S w1) (hb : Below w1.heap.size w1 w2) : WroteD D w F p S w2 := by
  obtain ⟨F1, h1, h2, h3⟩ := h
  exact ⟨F1, api.below h1 hb, ⟨hb.os.trans h2.os, hb.tape.trans h2.tape, hb.output.trans h2.output, Nat.le_trans h2.size hb.size, fun k hk hF => (hb.block k (Nat.lt_of_lt_of_le hk h2.size)).trans (h2.block k hk hF)⟩, h3⟩
theorem WroteD.same (h : D w F p S) : WroteD D w F p S w := ⟨F, h, Touch.refl _ _, fun k hk => .inl hk⟩
theorem WroteD.later (api : DiskApi D) (h : D w F p S) (hb : Below w.heap.size w w1) : WroteD D w F p S w1 := (WroteD.same h).below api hb

/-- Between two rounds of put. -/
def PutMid (D : World → (Nat → Prop) → Addr → DS → Prop) (w : World) (F : Nat → Prop) (p : Addr) (S : DS) (A : Option Addr) (n : Nat) (l : List (Int × List Int)) (k : Nat) (wr : World) : Prop :=
  ∃ F' S', D wr F' p S' ∧ Touch F w wr ∧ (∀ j, F' j → F j ∨ w.heap.size ≤ j) ∧ putS S l = putS S' (l.drop k) ∧ RImgs wr F' A n l ∧ S'.writes ≤ S.writes + k

set_option maxHeartbeats 1600000 in
theorem put_any (api : DiskApi D) {A : Option Addr} {n c : Nat} {l : List (Int × List Int)} (h : D w F p S) (hl : RImgs w F A n l) (h256 : ∀ y ∈ l, y.2.length = 256) (hn : n ≤ 65536) (hw : S.writes + n ≤ 9223372036854775806) :
    Calls Tryz.prog 78 #[.pointer (some p), .slice A n c] w fun e w' => e = .returned (.int .i64 (putS S l).1) ∧ WroteD D w F p (putS S l).2 w' := by
  have hlen := hl.1
  have HM0 := Lib.hid (show PutMid D w F p S A n l 0 w from ⟨F, S, h, Touch.refl _ _, fun j hj => .inl hj, rfl, hl, Nat.le_refl _⟩)
  clear h hl
  go_enter Tryz.func78, Tryz.ntmps78
  go_wp2
  go_loopw [10] (fun i wr => ∃ k : Nat, k ≤ n ∧ i = .int .i64 k ∧ Hid (PutMid D w F p S A n l k wr)) (fun i _ => n - (intOf i).toNat)
  case atStart => exact ⟨0, Nat.zero_le _, rfl, HM0⟩
  case round =>
    obtain ⟨k, hk, rfl, hM⟩ := hrel
    obtain ⟨F1, S1, h1, hT1, hF1, he1, hl1, hw1⟩ := hM.out
    by_cases hlt : k < n
    · have hlt' : (k : Int) < (n : Int) := by omega
      obtain ⟨y, hy⟩ : ∃ y, l[k]? = some y := ⟨_, List.getElem?_eq_getElem (by omega)⟩
      obtain ⟨b, rfl, hFb, hbl, hat⟩ := hl1.2 (by omega)
      obtain ⟨c1, G, m, cm, c2, hmc, hm63, hrb, hap⟩ := hat k y hy
      have hm : m = 256 := by rw [← hrb.len]; exact h256 y (List.mem_of_getElem? hy)
      subst hm
      rw [drop_at hy, putS_cons] at he1
      have hX : Below wr.heap.size wr (wr.alloc (.cells #[.int .i64 y.1, .slice G 256 cm] 131)) := (Below.refl _ _).alloc (Nat.le_refl _) _
      have h1X := api.below h1 hX
      have hrX := hrb.below hX
      have HW := Lib.hid (api.write y.1 G 256 cm _ y.2 _ _ _ _ h1X hrX hmc (by decide) (by omega) (fun a ha => hap a ha (by decide)))
      have HJ := Lib.hid (show ∀ w' S', WroteD D (wr.alloc (.cells #[.int .i64 y.1, .slice G 256 cm] 131)) F1 p S' w' → WroteD D w F p S' w' ∧ ∃ F2, D w' F2 p S' ∧ Touch F w w' ∧ (∀ k, F2 k → F k ∨ w.heap.size ≤ k) ∧ RImgs w' F2 (some ⟨b, 0, none⟩) n l from fun w' S' hW => by
        obtain ⟨F2, g1, g2, g3⟩ := WroteD.join (Touch.of_below hX) (fun k hk => .inl hk) hW
        refine ⟨WroteD.join hT1 hF1 ⟨F2, g1, g2, g3⟩, F2, g1, hT1.join hF1 g2, new_join hT1.size hF1 g3, hl1.keep g2.size (fun k hk hn hf => ?_) (fun k hk hn => g2.block k hk hn)⟩
        rcases g3 k hf with a | a
        · exact hn a
        · omega)
      obtain ⟨hmw, hmn⟩ := write_more S1 y.1 y.2
      have HE := Lib.hid he1
      have hn63 : n ≤ 9223372036854775807 := by omega
      clear hat hrb hap h1 hT1 hF1 hl1 h1X hrX HM0 hM he1 hX
      by_cases h0 : S1.writeE y.1 y.2 = 0
      · have H0 := Lib.hid h0
        have HE3 := Lib.hid (HE.out.trans (thenS_ok (r := S1.wr y.1 y.2) h0))
        clear h0
        go_wp2_with fail
        refine HW.out.mono ?_
        rw [H0.out]
        rintro e w2 ⟨rfl, hW2⟩
        obtain ⟨_, F2, j1, j2, j3, j4⟩ := HJ.out _ _ hW2
        have hM2 := Lib.hid (show PutMid D w F p S (some ⟨b, 0, none⟩) n l (k + 1) w2 from ⟨F2, _, j1, j2, j3, HE3.out, j4, by omega⟩)
        clear hW2 j1 j2 j3 j4
        go_wp2
        go_roundw
        case rel => exact ⟨k + 1, by omega, by go_num, hM2⟩
        case measure => simp [intOf]; omega
      · have kne : (S1.writeE y.1 y.2 != 0) = true := by simpa using h0
        have KN := Lib.hid kne
        have HE3 := Lib.hid (HE.out.trans (thenS_no (r := S1.wr y.1 y.2) h0))
        clear h0 kne
        go_wp2_with fail
        refine HW.out.mono ?_
        rintro e w2 ⟨rfl, hW2⟩
        have hF := Lib.hid (HJ.out _ _ hW2).1
        have kne := KN.out
        clear hW2
        go_wp2
        go_ret
        rw [HE3.out]
        exact ⟨rfl, hF.out⟩
    · obtain rfl : k = n := by omega
      rw [← hlen, List.drop_length] at he1
      have HE := Lib.hid he1
      have HF := Lib.hid (api.flush _ _ _ _ h1)
      have HT := Lib.hid (And.intro hT1 hF1)
      clear he1 h1 hT1 hF1 hl1 hM HM0
      go_wp2_with fail
      refine HF.out.mono ?_
      rintro e w2 ⟨rfl, hW2⟩
      have hF := Lib.hid (WroteD.join HT.out.1 HT.out.2 hW2)
      clear hW2
      go_wp2
      go_ret
      rw [HE.out]
      exact ⟨rfl, hF.out⟩
end

end Go.Proofs.YtinhdimalhfgkaaGreatDoor

/-
  Contracts of the program's mark and Format, over any disk that answers as it is to. Conditions: a count and a seq that may stand in a sector; fewer than 2^63 - 1 writes; the table that crc.Step reads holds what the program's text lays in it, apart from the disk.
-/
namespace Go.Proofs.YtinhdimalhfgkaaGreatDoor
open Go.RowKit
set_option maxRecDepth 100000
set_option linter.unusedVariables false

/-- The table is there, apart from the blocks F. -/
structure TabF (w : World) (F : Nat → Prop) : Prop where
  tab : Tab w
  lt : 1 < w.heap.size
  out : ¬ F 1
section
variable {D : World → (Nat → Prop) → Addr → DS → Prop} {w w1 w2 : World} {F F1 : Nat → Prop} {p : Addr} {S S1 S2 : DS}
theorem TabF.below (h : TabF w F) (hb : Below w.heap.size w w1) : TabF w1 F := ⟨h.tab.below hb h.lt, Nat.lt_of_lt_of_le h.lt hb.size, h.out⟩
theorem TabF.touch (h : TabF w F) (ht : Touch F w w1) (hF : ∀ k, F1 k → F k ∨ w.heap.size ≤ k) : TabF w1 F1 :=
  ⟨fun i hi => (World.cell?_of_block (a := ⟨1, i, none⟩) (ht.block _ h.lt h.out)).trans (h.tab i hi), Nat.lt_of_lt_of_le h.lt ht.size, fun hf => by
    rcases hF _ hf with a | a
    · exact h.out a
    · have := h.lt; omega⟩

theorem piece_cells {w : World} {b : Nat} {x0 y0 : Value} (x y : Value) (c0 : w.cell? ⟨b, 0, none⟩ = some x0) (c1 : w.cell? ⟨b, 1, none⟩ = some y0) : ((w.setCell ⟨b, 0, none⟩ x).setCell ⟨b, 1, none⟩ y).cell? ⟨b, 0, none⟩ = some x ∧ ((w.setCell ⟨b, 0, none⟩ x).setCell ⟨b, 1, none⟩ y).cell? ⟨b, 1, none⟩ = some y := by
  have e : (w.setCell ⟨b, 0, none⟩ x).cell? ⟨b, 1, none⟩ = some y0 := (World.cell?_setCell_other w ⟨b, 0, none⟩ ⟨b, 1, none⟩ x (by simp)).trans c1
  exact ⟨(World.cell?_setCell_other _ ⟨b, 1, none⟩ ⟨b, 0, none⟩ y (by simp)).trans (World.cell?_setCell_same w _ x c0), World.cell?_setCell_same _ _ y e⟩
/-- One sector to write. -/
theorem RImgs.one {w : World} {F : Nat → Prop} {b g c n : Nat} {T : TypeId} {x : Int} {l : List Int} (h : w.heap[b]? = some (.cells #[.int .i64 x, .slice (some ⟨g, 0, none⟩) n c] T (0, 0))) (hb : ¬ F b) (hg : ¬ F g) (hc : n ≤ c) (hn : n ≤ 9223372036854775807) (hr : RB w w.heap.size (some ⟨g, 0, none⟩) n l) : RImgs w F (some ⟨b, 0, none⟩) 1 [(x, l)] := by
  refine ⟨rfl, fun _ => ⟨b, rfl, hb, (Array.getElem?_eq_some_iff.1 h).1, fun i y hy => ?_⟩⟩
  obtain ⟨hi, e⟩ := List.getElem?_eq_some_iff.1 hy
  obtain rfl : i = 0 := by simpa using hi
  obtain rfl : (x, l) = y := e
  refine ⟨?_, some ⟨g, 0, none⟩, n, c, ?_, hc, hn, hr, fun a ha _ => by cases ha; exact hg⟩
  · rw [cell_of_row w b _ _ _ (0, 0) h]; rfl
  · rw [cell_of_row w b _ _ _ (0, 0) h]; rfl

set_option maxHeartbeats 800000 in
theorem markOf_any (count seq : Int) (hs : secR count seq = true) (ht : TabF w F) :
    Calls Tryz.prog 77 #[.int .i64 count, .int .i64 seq] w fun e w' => ∃ g c, e = .returned (.tuple #[.agg #[.int .i64 0, .slice (some ⟨g, 0, none⟩) 256 c], .int .i64 0]) ∧ 256 ≤ c ∧ w.heap.size ≤ g ∧ RB w' w'.heap.size (some ⟨g, 0, none⟩) 256 (secL count seq zpage) ∧ Below w.heap.size w w' := by
  obtain ⟨i0, hi, hz0, hz1, hz2⟩ := info_parts info_u8
  have hsb := secL_bytes count seq zpage_ok.2
  have hsl : (secL count seq zpage).length = 256 := by rw [secL_length, zpage_ok.1]
  have HT := Lib.hid ht
  have HS := Lib.hid hs
  have HPS := Lib.hid pack_said
  have HM := Lib.hid lay_said.mark
  clear ht hs
  go_enter Tryz.func77, Tryz.ntmps77
  go_wp2_with (refine wpList_make_full (w.alloc (.cells #[.int .i64 0, .slice none 0 0] 131)) rfl _ _ 46 rfl (w.heap.size + 1) 5 i0 (.int .u8 0) 1 Tryz.underlying46 hi hz0 hz1 .i64 .i64 _ _ 240 rfl rfl rfl rfl (by rw [hz2]; decide) (by decide) (by simp) ?_; intro w1 hown1 hg1; have hb1 : Below (w.heap.size + 1) (w.alloc (.cells #[.int .i64 0, .slice none 0 0] 131)) w1 := (Below.refl _ _).grown hg1 (by simp) (by simp); have hr1 : RB w1 w1.heap.size _ 240 zpage := RB.made hown1; clear hown1 hg1)
  have hb01 : Below w.heap.size w w1 := ((Below.refl w.heap.size w).alloc (Nat.le_refl _) _).trans (hb1.mono (Nat.le_succ _))
  have hcell1 : w1.heap[w.heap.size]? = some (.cells #[.int .i64 0, .slice none 0 0] 131 (0, 0)) := (hb1.block _ (Nat.lt_succ_self _)).trans (heap_alloc_new _ _)
  have ht1 := HT.out.below hb01
  have hs0 : (w.alloc (.cells #[.int .i64 0, .slice none 0 0] 131)).heap.size = w.heap.size + 1 := by simp
  rw [hs0] at hr1
  have hpk := HPS.out _ _ _ _ zpage count seq _ hr1 (Nat.le_refl _) (Nat.le_refl _) (by omega) ht1.tab ht1.lt
  rw [show packR count seq zpage = (secL count seq zpage, 0) from by unfold packR; rw [if_pos ⟨HS.out, zpage_ok.1⟩]] at hpk
  refine hpk.mono ?_
  clear hpk
  rintro e w2 ⟨v2, rfl, hown2, hb2⟩
  simp only [hsl] at hown2
  obtain ⟨g, c, rfl, hc, hg⟩ := own_some hown2 (by decide)
  have hr2 : RB w2 w2.heap.size (some ⟨g, 0, none⟩) 256 (secL count seq zpage) := RB.of_own hown2 hsb
  have hb02 := hb01.trans (hb2.mono hb01.size)
  have hg0 : w.heap.size < g := by have := hb1.size; omega
  have HF := Lib.hid (And.intro hc (And.intro hg0 (And.intro hr2 hb02)))
  have hcell2 := (hb2.block _ (show w.heap.size < w1.heap.size by have := hb1.size; omega)).trans hcell1
  have c0 : w2.cell? ⟨w.heap.size, 0, none⟩ = some (.int .i64 0) := by rw [cell_of_row w2 _ 0 _ _ (0, 0) hcell2]; rfl
  have c1 : w2.cell? ⟨w.heap.size, 1, none⟩ = some (.slice none 0 0) := by rw [cell_of_row w2 _ 1 _ _ (0, 0) hcell2]; rfl
  have f0 : w2.frozen? ⟨w.heap.size, 0, none⟩ = false := by simp [World.frozen?, hcell2]
  have f1 : w2.frozen? ⟨w.heap.size, 1, none⟩ = false := by simp [World.frozen?, hcell2]
  clear hown2 hr1 hb1 hb2 hb02 hr2 ht1 hc hg hg0
  go_wp2_with (go_at_call 80; refine (HM.out _).mono ?_; rintro e w3 ⟨rfl, rfl⟩)
  obtain ⟨d0, d1⟩ := piece_cells (.int .i64 0) (.slice (some ⟨g, 0, none⟩) 256 c) c0 c1
  refine bodyPost_ret (v := .tuple #[.agg #[.int .i64 0, .slice (some ⟨g, 0, none⟩) 256 c], .int .i64 0]) (by
    generalize ((w2.setCell ⟨w.heap.size, 0, none⟩ (Value.int IntKind.i64 0)).setCell ⟨w.heap.size, 1, none⟩ (Value.slice (some ⟨g, 0, none⟩) 256 c)) = X at *
    simp [results, Tryz.results77, go_sem, d0, d1]) rfl ?_
  obtain ⟨q1, q2, q3, q4⟩ := HF.out
  refine ⟨g, c, rfl, q1, Nat.le_of_lt q2, q3.there (by decide) ?_ (by simp), (q4.setCell (Nat.le_refl _) _).setCell (Nat.le_refl _) _⟩
  rw [Below.heap_setCell _ _ _ _ (by simp; omega), Below.heap_setCell _ _ _ _ (by simp; omega)]

set_option maxHeartbeats 800000 in
theorem format_any (api : DiskApi D) (h : D w F p S) (ht : TabF w F) (hw : S.writes ≤ 9223372036854775800) :
    Calls Tryz.prog 31 #[.pointer (some p)] w fun e w' => e = .returned (.int .i64 (markS S 0 1).1) ∧ WroteD D w F p (markS S 0 1).2 w' := by
  have HM := Lib.hid (markOf_any 0 1 (by decide) ht)
  go_enter Tryz.func31, Tryz.ntmps31
  go_wp2_with fail
  refine HM.out.mono ?_
  rintro e w1 ⟨g, c, rfl, hc, hg, hr1, hb1⟩
  have hlt := api.lt _ _ _ _ h
  have hgl : g < w1.heap.size := by obtain ⟨bb, _, e, hbb, _⟩ := hr1.at_ (by decide); cases e; exact hbb
  have hX : Below w1.heap.size w1 ((w1.alloc (.cells #[.int .i64 0, .slice (some ⟨g, 0, none⟩) 256 c] 131)).alloc (.cells #[.int .i64 0, .slice (some ⟨g, 0, none⟩) 256 c] 131)) := ((Below.refl _ _).alloc (Nat.le_refl _) _).alloc (by simp) _
  have hb2 := hb1.trans (hX.mono hb1.size)
  have h2 := api.below h hb2
  have hs1 := hb1.size
  have hbk : ((w1.alloc (.cells #[.int .i64 0, .slice (some ⟨g, 0, none⟩) 256 c] 131)).alloc (.cells #[.int .i64 0, .slice (some ⟨g, 0, none⟩) 256 c] 131)).heap[w1.heap.size + 1]? = some (.cells #[.int .i64 0, .slice (some ⟨g, 0, none⟩) 256 c] 131 (0, 0)) := by
    have := heap_alloc_new (w1.alloc (.cells #[.int .i64 0, .slice (some ⟨g, 0, none⟩) 256 c] 131)) (.cells #[.int .i64 0, .slice (some ⟨g, 0, none⟩) 256 c] 131)
    simpa using this
  have HP := Lib.hid (put_any api (c := 1) h2 (RImgs.one hbk (fun hf => by have := hlt _ hf; omega) (fun hf => by have := hlt _ hf; omega) hc (by decide) (hr1.there (by decide) (hX.block g hgl) hX.size)) (fun y hy => by obtain rfl := List.mem_singleton.1 hy; exact (secL_length ..).trans (by rw [zpage_ok.1])) (by decide) (by omega))
  have HT := Lib.hid (Touch.of_below (F := F) hb2)
  have HS := Lib.hid (markS_sec S (c := 0) (s := 1) (by decide))
  clear h h2 hX hb1 hb2 hr1 hlt
  go_wp2_with fail
  refine HP.out.mono ?_
  rintro e w2 ⟨rfl, hW⟩
  have hF := Lib.hid (WroteD.join HT.out (fun k hk => .inl hk) hW)
  clear hW
  go_wp2
  go_ret
  rw [HS.out]
  exact ⟨rfl, hF.out⟩
end

end Go.Proofs.YtinhdimalhfgkaaGreatDoor

/-
  Contracts of the program's log: made, Seq, Pages, Load, over any disk that answers as it is to. Condition: the table that crc.Step reads holds what the program's text lays in it, apart from the disk.
-/
namespace Go.Proofs.YtinhdimalhfgkaaGreatDoor
open Go.RowKit
set_option maxRecDepth 100000
set_option linter.unusedVariables false

/-- A log at block q: of the disk at p, with a seq. -/
def PLog (w : World) (q : Nat) (p : Addr) (seq : Int) : Prop := w.heap[q]? = some (.cells #[.pointer (some p), .int .i64 seq] 138 (0, 0))
section
variable {D : World → (Nat → Prop) → Addr → DS → Prop} {w : World} {F : Nat → Prop} {p : Addr} {S : DS} {q : Nat} {seq : Int}
theorem PLog.cells (h : PLog w q p seq) : w.cell? ⟨q, 0, none⟩ = some (.pointer (some p)) ∧ w.cell? ⟨q, 1, none⟩ = some (.int .i64 seq) ∧ w.frozen? ⟨q, 1, none⟩ = false ∧ q < w.heap.size := by
  refine ⟨?_, ?_, ?_, (Array.getElem?_eq_some_iff.1 h).1⟩
  · rw [cell_of_row w q 0 _ _ (0, 0) h]; rfl
  · rw [cell_of_row w q 1 _ _ (0, 0) h]; rfl
  · simp [World.frozen?, show w.heap[q]? = _ from h]
theorem PLog.keep {w' : World} (h : PLog w q p seq) (e : w'.heap[q]? = w.heap[q]?) : PLog w' q p seq := e.trans h
theorem PLog.below {w' : World} (h : PLog w q p seq) (hb : Below w.heap.size w w') : PLog w' q p seq := h.keep (hb.block q h.cells.2.2.2)

set_option maxHeartbeats 400000 in
theorem made_any (hq : PLog w q p seq) : Calls Tryz.prog 140 #[.pointer (some ⟨q, 0, none⟩)] w fun e w' => e = .returned (.bool true) ∧ w = w' := by
  obtain ⟨l0, l1, l2, l3⟩ := hq.cells
  clear hq
  go_enter Tryz.func140, Tryz.ntmps140
  go_wp2
  go_ret
  exact ⟨rfl, rfl⟩

set_option maxHeartbeats 400000 in
theorem pages_same (api : DiskApi D) (h : D w F p S) (hq : PLog w q p seq) : Calls Tryz.prog 83 #[.pointer (some ⟨q, 0, none⟩)] w fun e w' => e = .returned (.int .i64 (pagesOf S.n)) ∧ w' = w := by
  obtain ⟨l0, l1, l2, l3⟩ := hq.cells
  have hok := api.ok _ _ _ _ h
  have hsz := hok.size
  have HM := Lib.hid (made_any hq)
  have HS := Lib.hid (api.sizeSame _ _ _ _ h)
  clear hq h
  go_enter Tryz.func83, Tryz.ntmps83
  go_wp2_with fail
  refine HM.out.mono ?_
  rintro e w1 ⟨rfl, rfl⟩
  go_wp2_with fail
  refine HS.out.mono ?_
  rintro e w1 ⟨rfl, rfl⟩
  go_wp2_with fail
  refine (lay_said.pages (S.n : Int) w1 (by omega)).mono ?_
  rintro e w2 ⟨rfl, rfl⟩
  go_wp2
  go_ret
  exact ⟨rfl, rfl⟩

theorem pages_any (api : DiskApi D) (h : D w F p S) (hq : PLog w q p seq) : Calls Tryz.prog 83 #[.pointer (some ⟨q, 0, none⟩)] w fun e w' => e = .returned (.int .i64 (pagesOf S.n)) ∧ Below w.heap.size w w' :=
  (pages_same api h hq).mono fun e w' ⟨h1, h2⟩ => ⟨h1, h2 ▸ Below.refl _ _⟩

set_option maxHeartbeats 1600000 in
theorem load_any (api : DiskApi D) (h : D w F p S) (hq : PLog w q p seq) (ht : TabF w F) (pg : Int) (hpg : -9223372036854775808 ≤ pg ∧ pg ≤ 9223372036854775807) : Calls Tryz.prog 100 #[.pointer (some ⟨q, 0, none⟩), .int .i64 pg] w fun e w' => ∃ A n c, e = .returned (.tuple #[.slice A n c, .int .i64 (loadS S pg).2]) ∧ n ≤ c ∧ RB w' w'.heap.size A n (loadS S pg).1 ∧ Below w.heap.size w w' := by
  obtain ⟨i0, hi, hz0, hz1, hz2⟩ := info_parts info_u8
  obtain ⟨l0, l1, l2, l3⟩ := hq.cells
  have hok := api.ok _ _ _ _ h
  have hsz := hok.size
  have hpb := pagesOf_bounds (S.n : Int)
  have hpn := (pagesOf_nn (S.n : Int)).2.1 (by omega)
  have hP : S.P = pagesOf S.n := rfl
  have HM := Lib.hid (made_any hq)
  have HS := Lib.hid (api.sizes _ _ _ _ h)
  have HT := Lib.hid ht
  have HUP := Lib.hid unpack_said
  have HHM := Lib.hid (fun w1 => lay_said.home (S.n : Int) pg w1 (by omega) hpg)
  have HRD := Lib.hid (fun w1 (hb : Below w.heap.size w w1) => api.read (pg + 1 + pagesOf S.n) w1 F p S (api.below h hb))
  by_cases hr : pg < 0 ∨ pg ≥ pagesOf S.n
  · have hL : loadS S pg = ([], 1) := by unfold loadS; rw [hP, if_pos hr]
    have hh : homeOf (S.n : Int) pg = (0, false) := by unfold homeOf; rw [if_pos hr]
    rw [hh] at HHM
    rw [hL]
    clear hL hh hr h hq ht hok
    go_enter Tryz.func100, Tryz.ntmps100
    go_wp2_with fail
    refine HM.out.mono ?_
    rintro e w1 ⟨rfl, rfl⟩
    go_wp2_with fail
    refine HS.out.mono ?_
    rintro e w1 ⟨rfl, hb1⟩
    have l0 := (hb1.cell (p := ⟨q, 0, none⟩) l3).trans l0
    go_wp2_with fail
    refine (HHM.out w1).mono ?_
    rintro e w2 ⟨rfl, rfl⟩
    go_wp2
    go_ret2
    exact ⟨none, 0, 0, rfl, Nat.le_refl _, RB.nil_, hb1⟩
  have hh : homeOf (S.n : Int) pg = (pg + 1 + pagesOf S.n, true) := by unfold homeOf; rw [if_neg hr]
  rw [hh] at HHM
  by_cases hd : S.down = true
  · have hL : loadS S pg = ([], 5) := by unfold loadS; rw [hP, if_neg hr, if_pos hd]
    have hre : S.readE (pg + 1 + pagesOf S.n) = 5 := by simp [DS.readE, hd]
    have hrl : S.readL (pg + 1 + pagesOf S.n) = [] := by simp [DS.readL, hre]
    rw [hre, hrl] at HRD
    rw [hL]
    clear hL hh hr h hq ht hok hre hrl hd
    go_enter Tryz.func100, Tryz.ntmps100
    go_wp2_with fail
    refine HM.out.mono ?_
    rintro e w1 ⟨rfl, rfl⟩
    go_wp2_with fail
    refine HS.out.mono ?_
    rintro e w1 ⟨rfl, hb1⟩
    have l0 := (hb1.cell (p := ⟨q, 0, none⟩) l3).trans l0
    go_wp2_with fail
    refine (HHM.out w1).mono ?_
    rintro e w2 ⟨rfl, rfl⟩
    go_wp2_with fail
    refine (HRD.out w1 hb1).mono ?_
    rintro e w3 ⟨A3, n3, c3, rfl, hc3, hr3, hb3⟩
    have hb03 := hb1.trans (hb3.mono hb1.size)
    have ht3 := HT.out.below hb03
    have HB := Lib.hid hb03
    clear hb03 ht3
    go_wp2
    go_ret2
    exact ⟨none, 0, 0, rfl, Nat.le_refl _, RB.nil_, HB.out⟩
  have hd' : S.down = false := by simpa using hd
  obtain ⟨a, ha⟩ := Int.eq_ofNat_of_zero_le (show 0 ≤ pg + 1 + pagesOf S.n by omega)
  have hre : S.readE (pg + 1 + pagesOf S.n) = 0 := by
    unfold DS.readE
    rw [if_neg (by simp [hd']), if_pos (show S.has _ from ⟨by omega, by omega⟩)]
  have hrl : S.readL (pg + 1 + pagesOf S.n) = S.last a := by
    unfold DS.readL
    rw [if_pos hre, ha, Int.toNat_natCast]
  rw [hre, hrl] at HRD
  have hbytes := hok.lastBytes a
  have HLN := Lib.hid hbytes.1
  have hL : loadS S pg = if (unpackR (S.last a)).2.2.2 ≠ 0 ∨ (unpackR (S.last a)).1 ≠ pg then (zpage, 0) else ((unpackR (S.last a)).2.2.1, 0) := by
    unfold loadS
    rw [hP, if_neg hr, if_neg hd, ha, Int.toNat_natCast]
  have HL := Lib.hid hL
  clear hL hh hr h hq ht hok hre hrl hd hd' ha hbytes
  generalize hpge : (unpackR (S.last a)).1 = pe at HL
  generalize her : (unpackR (S.last a)).2.2.2 = er at HL
  have HPE := Lib.hid (And.intro hpge her)
  clear hpge her
  by_cases h1 : er = 0
  · subst h1
    by_cases h2 : pe = pg
    · subst h2
      have k2 : (pe == pe) = true := by simp
      have HL2 := Lib.hid (HL.out.trans (if_neg (by simp)))
      go_enter Tryz.func100, Tryz.ntmps100
      go_wp2_with fail
      refine HM.out.mono ?_
      rintro e w1 ⟨rfl, rfl⟩
      go_wp2_with fail
      refine HS.out.mono ?_
      rintro e w1 ⟨rfl, hb1⟩
      have l0 := (hb1.cell (p := ⟨q, 0, none⟩) l3).trans l0
      go_wp2_with fail
      refine (HHM.out w1).mono ?_
      rintro e w2 ⟨rfl, rfl⟩
      go_wp2_with fail
      refine (HRD.out w1 hb1).mono ?_
      rintro e w3 ⟨A3, n3, c3, rfl, hc3, hr3, hb3⟩
      have hb03 := hb1.trans (hb3.mono hb1.size)
      have ht3 := HT.out.below hb03
      go_wp2_with fail
      refine (HUP.out A3 n3 c3 _ _ w3 hr3 (Nat.le_refl _) hc3 (by have := hr3.len; rw [HLN.out] at this; omega) ht3.tab ht3.lt).mono ?_
      rw [HPE.out.1, HPE.out.2]
      rintro e w4 ⟨A4, n4, c4, rfl, hc4, hr4, hb4⟩
      have hb04 := hb03.trans (hb4.mono hb03.size)
      have HF := Lib.hid (And.intro hc4 (And.intro hr4 hb04))
      clear hc4 hr4 hb4 hb04 hr3 hb3 hb03 ht3
      go_wp2
      go_ret2
      rw [HL2.out]
      exact ⟨_, _, _, rfl, HF.out⟩
    · have k2 : (pe == pg) = false := by simpa using h2
      have HL2 := Lib.hid (HL.out.trans (if_pos (.inr h2)))
      clear h2
      go_enter Tryz.func100, Tryz.ntmps100
      go_wp2_with fail
      refine HM.out.mono ?_
      rintro e w1 ⟨rfl, rfl⟩
      go_wp2_with fail
      refine HS.out.mono ?_
      rintro e w1 ⟨rfl, hb1⟩
      have l0 := (hb1.cell (p := ⟨q, 0, none⟩) l3).trans l0
      go_wp2_with fail
      refine (HHM.out w1).mono ?_
      rintro e w2 ⟨rfl, rfl⟩
      go_wp2_with fail
      refine (HRD.out w1 hb1).mono ?_
      rintro e w3 ⟨A3, n3, c3, rfl, hc3, hr3, hb3⟩
      have hb03 := hb1.trans (hb3.mono hb1.size)
      have ht3 := HT.out.below hb03
      go_wp2_with fail
      refine (HUP.out A3 n3 c3 _ _ w3 hr3 (Nat.le_refl _) hc3 (by have := hr3.len; rw [HLN.out] at this; omega) ht3.tab ht3.lt).mono ?_
      rw [HPE.out.1, HPE.out.2]
      rintro e w4 ⟨A4, n4, c4, rfl, hc4, hr4, hb4⟩
      have hb04 := hb03.trans (hb4.mono hb03.size)
      clear hc4 hr4 hb4 hr3 hb3 hb03 ht3
      go_wp2_with (refine wpList_make_full w4 rfl _ _ 46 rfl w4.heap.size 5 i0 (.int .u8 0) 1 Tryz.underlying46 hi hz0 hz1 .i64 .i64 _ _ 240 rfl rfl rfl rfl (by rw [hz2]; decide) (by decide) (Nat.le_refl _) ?_; intro w5 hown5 hg5; have hb5 : Below w4.heap.size w4 w5 := (Below.refl _ _).grown hg5 (Nat.le_refl _) (by simp); have hr5 : RB w5 w5.heap.size _ 240 zpage := RB.made hown5; have HF := Lib.hid (And.intro hr5 (hb04.trans (hb5.mono hb04.size))); clear hown5 hg5 hb5 hr5)
      go_ret2
      rw [HL2.out]
      exact ⟨_, 240, 240, rfl, Nat.le_refl _, HF.out⟩
  · have k1 : (er == 0) = false := by simpa using h1
    have HL2 := Lib.hid (HL.out.trans (if_pos (.inl h1)))
    clear h1
    go_enter Tryz.func100, Tryz.ntmps100
    go_wp2_with fail
    refine HM.out.mono ?_
    rintro e w1 ⟨rfl, rfl⟩
    go_wp2_with fail
    refine HS.out.mono ?_
    rintro e w1 ⟨rfl, hb1⟩
    have l0 := (hb1.cell (p := ⟨q, 0, none⟩) l3).trans l0
    go_wp2_with fail
    refine (HHM.out w1).mono ?_
    rintro e w2 ⟨rfl, rfl⟩
    go_wp2_with fail
    refine (HRD.out w1 hb1).mono ?_
    rintro e w3 ⟨A3, n3, c3, rfl, hc3, hr3, hb3⟩
    have hb03 := hb1.trans (hb3.mono hb1.size)
    have ht3 := HT.out.below hb03
    go_wp2_with fail
    refine (HUP.out A3 n3 c3 _ _ w3 hr3 (Nat.le_refl _) hc3 (by have := hr3.len; rw [HLN.out] at this; omega) ht3.tab ht3.lt).mono ?_
    rw [HPE.out.1, HPE.out.2]
    rintro e w4 ⟨A4, n4, c4, rfl, hc4, hr4, hb4⟩
    have hb04 := hb03.trans (hb4.mono hb03.size)
    clear hc4 hr4 hb4 hr3 hb3 hb03 ht3
    go_wp2_with (refine wpList_make_full w4 rfl _ _ 46 rfl w4.heap.size 5 i0 (.int .u8 0) 1 Tryz.underlying46 hi hz0 hz1 .i64 .i64 _ _ 240 rfl rfl rfl rfl (by rw [hz2]; decide) (by decide) (Nat.le_refl _) ?_; intro w5 hown5 hg5; have hb5 : Below w4.heap.size w4 w5 := (Below.refl _ _).grown hg5 (Nat.le_refl _) (by simp); have hr5 : RB w5 w5.heap.size _ 240 zpage := RB.made hown5; have HF := Lib.hid (And.intro hr5 (hb04.trans (hb5.mono hb04.size))); clear hown5 hg5 hb5 hr5)
    go_ret2
    rw [HL2.out]
    exact ⟨_, 240, 240, rfl, Nat.le_refl _, HF.out⟩
end

end Go.Proofs.YtinhdimalhfgkaaGreatDoor
