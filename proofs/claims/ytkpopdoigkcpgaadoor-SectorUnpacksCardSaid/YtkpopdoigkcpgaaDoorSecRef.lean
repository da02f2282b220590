/-
  Contracts of the plain Right, Pack and Unpack of sectors: for any numbers and bytes they answer the sector, the page, or which refusal; nothing that was there is written. Condition: fewer than 2^47 bytes.
-/
import Derived.Test.YtkpopdoigkcpgaaDoorSecP
import Derived.Test.YtkpopdoigkcpgaaDoorGet
import Derived.Test.YtkpopdoigkcpgaaDoorRefPut
import Derived.Test.YtkpopdoigkcpgaaDoorCrcW
namespace Go.Proofs.YtkpopdoigkcpgaaDoor
open Go.RowKit
set_option linter.unusedVariables false

theorem secR_cases (p s : Int) : secR p s = (decide (0 ≤ p) && decide (p < 4294967296) && decide (0 ≤ s) && decide (s ≤ 4611686018427387904)) := by
  unfold secR
  by_cases a : 0 ≤ p <;> by_cases b : p < 4294967296 <;> by_cases c : 0 ≤ s <;> by_cases d : s ≤ 4611686018427387904 <;> simp [a, b, c, d]

set_option maxHeartbeats 800000 in
theorem refSecRight_any (p s : Int) (w : World) :
    Calls Tryd.prog 11 #[.int .i64 p, .int .i64 s] w fun e w' => e = .returned (.bool (secR p s)) ∧ w = w' := by
  rw [secR_cases]
  generalize h1 : decide (0 ≤ p) = b1
  generalize h2 : decide (p < 4294967296) = b2
  generalize h3 : decide (0 ≤ s) = b3
  generalize h4 : decide (s ≤ 4611686018427387904) = b4
  cases b1
  · go_enter Tryd.func11, Tryd.ntmps11
    go_wp2; go_ret; exact ⟨rfl, rfl⟩
  cases b2
  · go_enter Tryd.func11, Tryd.ntmps11
    go_wp2; go_ret; exact ⟨rfl, rfl⟩
  cases b3
  · go_enter Tryd.func11, Tryd.ntmps11
    go_wp2; go_ret; exact ⟨rfl, rfl⟩
  cases b4
  · go_enter Tryd.func11, Tryd.ntmps11
    go_wp2; go_ret; exact ⟨rfl, rfl⟩
  · go_enter Tryd.func11, Tryd.ntmps11
    go_wp2; go_ret; exact ⟨rfl, rfl⟩

theorem putR_page {p : Int} (h : rightB p 4 = true) : putR [] p 4 = putB p 4 := by simp [putR, h]
theorem putR_seq {s : Int} (l : List Int) (h : rightB s 8 = true) : putR l s 8 = l ++ putB s 8 := by simp [putR, h]

set_option maxHeartbeats 1600000 in
theorem refPack_yes (A : Option Addr) (n c B : Nat) (l : List Int) (p s : Int) (w : World) (hr : RB w B A n l) (hB : B ≤ w.heap.size) (hn : n = 240) (hs : secR p s = true) :
    Calls Tryd.prog 8 #[.int .i64 p, .int .i64 s, .slice A n c] w fun e w' => ∃ v, e = .returned (.tuple #[v, .int .i64 0]) ∧ w'.ownsRow w.heap.size 5 1 v 256 ((secL p s l).map (Value.int .u8)) ∧ Below w.heap.size w w' := by
  subst hn
  obtain ⟨r1, r2⟩ := secR_right hs
  obtain ⟨b1, b2, b3, b4⟩ := secR_ints hs
  have HS := Lib.hid hs
  have hlen := hr.len
  have HR1 := Lib.hid (putR_page r1)
  have HR2 := Lib.hid (putR_seq (putB p 4) r2)
  have hbytes := secBody_bytes p s hr.bytes
  have hsl := sumOf_lt hbytes
  have HR3 := Lib.hid (putR_page (sum_right hbytes))
  have hnl := secBody_length p s l
  clear hs r1 r2
  go_enter Tryd.func8, Tryd.ntmps8
  go_wp2_with fail
  refine (refSecRight_any _ _ _).mono ?_
  rw [HS.out]
  rintro e w1 ⟨rfl, rfl⟩
  go_wp2_with fail
  refine (refPut_own none 0 0 0 [] p 4 _ RB.nil_ (Nat.zero_le _) (by decide) b1 b2).mono ?_
  rw [HR1.out, putB_length]
  rintro e w1 ⟨v1, rfl, hown1, hb1⟩
  obtain ⟨A1, c1, rfl, hc1, hr1⟩ := read_own hown1 (putB_bytes _ _)
  have hs1 := hb1.size
  clear hown1
  go_wp2_with fail
  refine (refPut_own _ _ _ _ _ s 8 _ hr1 (Nat.le_refl _) (by decide) b3 b4).mono ?_
  rw [HR2.out, List.length_append, putB_length, putB_length]
  rintro e w2 ⟨v2, rfl, hown2, hb2⟩
  have hs2 := hb2.size
  have hb02 := hb1.trans (hb2.mono hs1)
  have hra2 := hr.below (hb02.mono hB)
  clear hr1
  go_wp2_with (at_builtin; refine wpList_append_bytes rfl (.tmp 21) (.tmp 22) rfl w1.heap.size _ (4 + 8) _ rfl hown2 B A 240 c l rfl hra2 (by omega) hs2 ?_; intro v3 w3 hown3 _ hb3)
  have hown3' : w3.ownsRow w1.heap.size 5 1 v3 252 ((secBody p s l).map (Value.int .u8)) := hown3
  obtain ⟨A3, c3, rfl, hc3, hr3⟩ := read_own hown3' hbytes
  have hs3 := hb3.size
  have hb03 := hb02.trans (hb3.mono hs1)
  clear hown2 hown3 hown3' hra2
  refine (refSum_any _ _ _ _ _ _ hr3 (by decide)).mono ?_
  rintro e w4 ⟨rfl, rfl⟩
  go_wp2_with fail
  refine (refPut_own none 0 0 0 [] (sumOf (secBody p s l) : Int) 4 _ RB.nil_ (Nat.zero_le _) (by decide) (by omega) (by omega)).mono ?_
  rw [HR3.out, putB_length]
  rintro e w4 ⟨v4, rfl, hown4, hb4⟩
  have hs4 := hb4.size
  have hra4 := hr3.below hb4
  have hb04 := hb03.trans (hb4.mono hb03.size)
  clear hr3
  go_wp2_with (at_builtin; refine wpList_append_bytes rfl (.tmp 27) (.tmp 28) rfl w3.heap.size _ 4 _ rfl hown4 w3.heap.size A3 252 c3 _ rfl hra4 (by omega) hs4 ?_; intro v5 w5 hown5 _ hb5)
  have hown5' := Lib.hid (own_base_le hown5 hb03.size)
  have hb05 := hb04.trans (hb5.mono hb03.size)
  clear hown5 hown4 hra4
  go_ret2
  exact ⟨_, rfl, hown5'.out, hb05⟩

set_option maxHeartbeats 400000 in
theorem refPack_no (A : Option Addr) (n c : Nat) (p s : Int) (w : World) (hn : n ≤ maxLen) (h : secR p s = false ∨ n ≠ 240) :
    Calls Tryd.prog 8 #[.int .i64 p, .int .i64 s, .slice A n c] w fun e w' => e = .returned (.tuple #[.slice none 0 0, .int .i64 1]) ∧ w = w' := by
  unfold maxLen at hn
  by_cases hs : secR p s = true
  · have hne : n ≠ 240 := by
      rcases h with h | h
      · rw [hs] at h; cases h
      · exact h
    have k : ((n : Int) != 240) = true := by simp; omega
    have HS := Lib.hid hs
    clear hs h
    go_enter Tryd.func8, Tryd.ntmps8
    go_wp2_with fail
    refine (refSecRight_any _ _ _).mono ?_
    rw [HS.out]
    rintro e w1 ⟨rfl, rfl⟩
    go_wp2
    go_ret2
    exact ⟨rfl, rfl⟩
  · have HS := Lib.hid (show secR p s = false by simpa using hs)
    clear hs h
    go_enter Tryd.func8, Tryd.ntmps8
    go_wp2_with fail
    refine (refSecRight_any _ _ _).mono ?_
    rw [HS.out]
    rintro e w1 ⟨rfl, rfl⟩
    go_wp2
    go_ret2
    exact ⟨rfl, rfl⟩

/-- The plain Pack. -/
theorem refPack_any (A : Option Addr) (n c B : Nat) (l : List Int) (p s : Int) (w : World) (hr : RB w B A n l) (hB : B ≤ w.heap.size) (hn : n ≤ maxLen) :
    Calls Tryd.prog 8 #[.int .i64 p, .int .i64 s, .slice A n c] w fun e w' => ∃ A' n' c', e = .returned (.tuple #[.slice A' n' c', .int .i64 (packR p s l).2]) ∧ n' ≤ c' ∧ RB w' w'.heap.size A' n' (packR p s l).1 ∧ Below w.heap.size w w' := by
  unfold packR
  by_cases h : secR p s = true ∧ l.length = 240
  · rw [if_pos h]
    refine (refPack_yes A n c B l p s w hr hB (by rw [← hr.len]; exact h.2) h.1).mono ?_
    rintro e w' ⟨v, rfl, hown, hb⟩
    obtain ⟨A', c', rfl, hc', hr'⟩ := read_own hown (secL_bytes p s hr.bytes)
    exact ⟨A', 256, c', rfl, hc', hr', hb⟩
  · rw [if_neg h]
    have h' : secR p s = false ∨ n ≠ 240 := by
      by_cases hs : secR p s = true
      · right
        intro e
        exact h ⟨hs, by rw [hr.len]; exact e⟩
      · left; simpa using hs
    refine (refPack_no A n c p s w hn h').mono ?_
    rintro e w' ⟨rfl, rfl⟩
    exact ⟨none, 0, 0, rfl, Nat.le_refl _, RB.nil_, Below.refl _ _⟩

theorem getR_at {l : List Int} (a k : Nat) (hk : sizeB (k : Int) = true) (h : a + k ≤ l.length) : getR l (a : Int) (k : Int) = (numOf ((l.drop a).take k), 0) := by
  unfold getR
  rw [if_pos ⟨hk, by omega⟩, if_neg (by omega)]
  simp

set_option maxHeartbeats 1600000 in
theorem refUnpack_yes (A : Option Addr) (n c B : Nat) (l : List Int) (w : World) (hr : RB w B A n l) (hB : B ≤ w.heap.size) (hc : n ≤ c) (h : isSec l) :
    Calls Tryd.prog 13 #[.slice A n c] w fun e w' => ∃ v, e = .returned (.tuple #[.int .i64 (numOf ((l.drop 4).take 4)), .int .i64 (numOf ((l.drop 8).take 8)), v, .int .i64 0]) ∧ w'.ownsRow w.heap.size 5 1 v 240 ((l.drop 16).map (Value.int .u8)) ∧ Below w.heap.size w w' := by
  obtain ⟨hn, hsum, hs⟩ := h
  have hl := hr.len
  obtain rfl : n = 256 := by omega
  have g1 := getR_at (l := l) 0 4 (by decide) (by omega)
  have g2 := getR_at (l := l) 4 4 (by decide) (by omega)
  have g3 := getR_at (l := l) 8 8 (by decide) (by omega)
  rw [List.drop_zero] at g1
  have HS := Lib.hid hs
  have G1 := Lib.hid g1
  have G2 := Lib.hid g2
  have G3 := Lib.hid g3
  have hsl := sumOf_lt (hr.bytes.drop 4)
  have HSUM := Lib.hid hsum
  clear g1 g2 g3 hs hsum
  obtain ⟨b, off, rfl, hb, hcell⟩ := hr.at_ (by omega)
  have hr4 : RB w B (some ⟨b, off + 4, none⟩) 252 (l.drop 4) := hr.cut hcell 4 (by omega) hb
  have hr16 : RB w B (some ⟨b, off + 16, none⟩) 240 (l.drop 16) := hr.cut hcell 16 (by omega) hb
  clear hcell
  go_enter Tryd.func13, Tryd.ntmps13
  go_wp2_with fail
  refine (refGet_any _ _ _ _ _ 0 4 _ hr hc (by decide)).mono ?_
  rw [show getR l 0 4 = (numOf (l.take 4), 0) from G1.out]
  rintro e w1 ⟨rfl, rfl⟩
  go_wp2_with fail
  refine (refGet_any _ _ _ _ _ 4 4 _ hr hc (by decide)).mono ?_
  rw [show getR l 4 4 = (numOf ((l.drop 4).take 4), 0) from G2.out]
  rintro e w1 ⟨rfl, rfl⟩
  go_wp2_with fail
  refine (refGet_any _ _ _ _ _ 8 8 _ hr hc (by decide)).mono ?_
  rw [show getR l 8 8 = (numOf ((l.drop 8).take 8), 0) from G3.out]
  rintro e w1 ⟨rfl, rfl⟩
  go_wp2_with fail
  refine (refSum_any _ _ _ _ _ _ hr4 (by decide)).mono ?_
  rintro e w1 ⟨rfl, rfl⟩
  have hne : (numOf (l.take 4) != ((sumOf (l.drop 4) : Nat) : Int)) = false := by rw [HSUM.out]; simp
  go_wp2_with fail
  refine (refSecRight_any _ _ _).mono ?_
  rw [HS.out]
  rintro e w1 ⟨rfl, rfl⟩
  go_wp2_with (at_builtin; refine wpList_append_bytes rfl _ (.tmp 45) rfl w.heap.size _ 0 [] rfl (World.ownsRow_nil _ _ _ _) B _ 240 _ _ rfl hr16 (by omega) (Nat.le_refl _) ?_; intro v1 w1 hown1 _ hb1)
  simp only [Nat.zero_add, List.nil_append] at hown1
  exact bodyPost_ret (v := .tuple #[.int .i64 (numOf ((l.drop 4).take 4)), .int .i64 (numOf ((l.drop 8).take 8)), v1, .int .i64 0]) (by simp [results, Tryd.results13, go_sem]) rfl ⟨_, rfl, hown1, hb1⟩

set_option maxHeartbeats 1600000 in
theorem refUnpack_no (A : Option Addr) (n c B : Nat) (l : List Int) (w : World) (hr : RB w B A n l) (hc : n ≤ c) (hm : n ≤ maxLen) (h : ¬ isSec l) :
    Calls Tryd.prog 13 #[.slice A n c] w fun e w' => e = .returned (.tuple #[.int .i64 0, .int .i64 0, .slice none 0 0, .int .i64 4]) ∧ w = w' := by
  have hl := hr.len
  by_cases hn : n = 256
  · subst hn
    have g1 := getR_at (l := l) 0 4 (by decide) (by omega)
    have g2 := getR_at (l := l) 4 4 (by decide) (by omega)
    have g3 := getR_at (l := l) 8 8 (by decide) (by omega)
    rw [List.drop_zero] at g1
    have G1 := Lib.hid g1
    have G2 := Lib.hid g2
    have G3 := Lib.hid g3
    clear g1 g2 g3
    have hsl := sumOf_lt (hr.bytes.drop 4)
    obtain ⟨b, off, rfl, hb, hcell⟩ := hr.at_ (by omega)
    have hr4 : RB w B (some ⟨b, off + 4, none⟩) 252 (l.drop 4) := hr.cut hcell 4 (by omega) hb
    clear hcell
    by_cases hsum : numOf (l.take 4) = (sumOf (l.drop 4) : Int)
    · have hs : secR (numOf ((l.drop 4).take 4)) (numOf ((l.drop 8).take 8)) = false := by
        by_cases e : secR (numOf ((l.drop 4).take 4)) (numOf ((l.drop 8).take 8)) = true
        · exact absurd ⟨hl, hsum, e⟩ h
        · simpa using e
      have HS := Lib.hid hs
      have HSUM := Lib.hid hsum
      clear hs hsum h
      go_enter Tryd.func13, Tryd.ntmps13
      go_wp2_with fail
      refine (refGet_any _ _ _ _ _ 0 4 _ hr hc (by decide)).mono ?_
      rw [show getR l 0 4 = (numOf (l.take 4), 0) from G1.out]
      rintro e w1 ⟨rfl, rfl⟩
      go_wp2_with fail
      refine (refGet_any _ _ _ _ _ 4 4 _ hr hc (by decide)).mono ?_
      rw [show getR l 4 4 = (numOf ((l.drop 4).take 4), 0) from G2.out]
      rintro e w1 ⟨rfl, rfl⟩
      go_wp2_with fail
      refine (refGet_any _ _ _ _ _ 8 8 _ hr hc (by decide)).mono ?_
      rw [show getR l 8 8 = (numOf ((l.drop 8).take 8), 0) from G3.out]
      rintro e w1 ⟨rfl, rfl⟩
      go_wp2_with fail
      refine (refSum_any _ _ _ _ _ _ hr4 (by decide)).mono ?_
      rintro e w1 ⟨rfl, rfl⟩
      have hne : (numOf (l.take 4) != ((sumOf (l.drop 4) : Nat) : Int)) = false := by rw [HSUM.out]; simp
      go_wp2_with fail
      refine (refSecRight_any _ _ _).mono ?_
      rw [HS.out]
      rintro e w1 ⟨rfl, rfl⟩
      go_wp2
      exact bodyPost_ret (v := .tuple #[.int .i64 0, .int .i64 0, .slice none 0 0, .int .i64 4]) (by simp [results, Tryd.results13, go_sem]) rfl ⟨rfl, rfl⟩
    · have hne : (numOf (l.take 4) != ((sumOf (l.drop 4) : Nat) : Int)) = true := by simpa using hsum
      have HN := Lib.hid hne
      clear hsum h hne
      go_enter Tryd.func13, Tryd.ntmps13
      go_wp2_with fail
      refine (refGet_any _ _ _ _ _ 0 4 _ hr hc (by decide)).mono ?_
      rw [show getR l 0 4 = (numOf (l.take 4), 0) from G1.out]
      rintro e w1 ⟨rfl, rfl⟩
      go_wp2_with fail
      refine (refGet_any _ _ _ _ _ 4 4 _ hr hc (by decide)).mono ?_
      rw [show getR l 4 4 = (numOf ((l.drop 4).take 4), 0) from G2.out]
      rintro e w1 ⟨rfl, rfl⟩
      go_wp2_with fail
      refine (refGet_any _ _ _ _ _ 8 8 _ hr hc (by decide)).mono ?_
      rw [show getR l 8 8 = (numOf ((l.drop 8).take 8), 0) from G3.out]
      rintro e w1 ⟨rfl, rfl⟩
      go_wp2_with fail
      refine (refSum_any _ _ _ _ _ _ hr4 (by decide)).mono ?_
      rintro e w1 ⟨rfl, rfl⟩
      have hne := HN.out
      go_wp2
      exact bodyPost_ret (v := .tuple #[.int .i64 0, .int .i64 0, .slice none 0 0, .int .i64 4]) (by simp [results, Tryd.results13, go_sem]) rfl ⟨rfl, rfl⟩
  · have k : ((n : Int) != 256) = true := by simp; omega
    unfold maxLen at hm
    clear h
    go_enter Tryd.func13, Tryd.ntmps13
    go_wp2
    exact bodyPost_ret (v := .tuple #[.int .i64 0, .int .i64 0, .slice none 0 0, .int .i64 4]) (by simp [results, Tryd.results13, go_sem]) rfl ⟨rfl, rfl⟩

/-- The plain Unpack. -/
theorem refUnpack_any (A : Option Addr) (n c B : Nat) (l : List Int) (w : World) (hr : RB w B A n l) (hB : B ≤ w.heap.size) (hc : n ≤ c) (hm : n ≤ maxLen) :
    Calls Tryd.prog 13 #[.slice A n c] w fun e w' => ∃ A' n' c', e = .returned (.tuple #[.int .i64 (unpackR l).1, .int .i64 (unpackR l).2.1, .slice A' n' c', .int .i64 (unpackR l).2.2.2]) ∧ n' ≤ c' ∧ RB w' w'.heap.size A' n' (unpackR l).2.2.1 ∧ Below w.heap.size w w' := by
  unfold unpackR
  by_cases h : isSec l
  · rw [if_pos h]
    refine (refUnpack_yes A n c B l w hr hB hc h).mono ?_
    rintro e w' ⟨v, rfl, hown, hb⟩
    obtain ⟨A', c', rfl, hc', hr'⟩ := read_own hown (hr.bytes.drop 16)
    exact ⟨A', 240, c', rfl, hc', hr', hb⟩
  · rw [if_neg h]
    refine (refUnpack_no A n c B l w hr hc hm h).mono ?_
    rintro e w' ⟨rfl, rfl⟩
    exact ⟨none, 0, 0, rfl, Nat.le_refl _, RB.nil_, Below.refl _ _⟩

end Go.Proofs.YtkpopdoigkcpgaaDoor
