/-
  The walks of the statements on codes: for every ints and text both sides answer alike, and what is printed is read; nothing that was there is written. Condition: the library's tables hold what its text lays in them, its variable for short strings an int.
-/
import Derived.Test.YtlamngpodomknaaDoorCodC
namespace Go.Proofs.YtlamngpodomknaaDoor
open Go.RowKit
set_option maxRecDepth 100000
set_option linter.unusedVariables false

theorem known_print : printS 100 5010 = ⟨#[49, 48, 48, 46, 53, 48, 49, 48]⟩ := by
  unfold printS printL
  rw [if_pos (by decide), show (100 : Int) = ((1 * 100 + 0 * 10 + 0 : Nat) : Int) from rfl, show (5010 : Int) = ((5 * 1000 + 0 * 100 + 1 * 10 + 0 : Nat) : Int) from rfl, itoa_nat, itoa_nat,
    dec3 (by decide) (by decide) (by decide) (by decide), dec4 (by decide) (by decide) (by decide) (by decide) (by decide)]
  rfl
theorem known_parse : parseC (⟨#[49, 48, 48, 46, 53, 48, 49, 48]⟩ : ByteArray).data.toList = (100, 5010, true) := by
  have h := (read_code (f := 100) (o := 5010) (by decide)).1
  have e : printL 100 5010 = (⟨#[49, 48, 48, 46, 53, 48, 49, 48]⟩ : ByteArray).data.toList := by rw [← known_print]; rfl
  rw [← e]
  exact h

set_option maxHeartbeats 800000 in
theorem awake16_any (w : World) (ht : Pows w) (hx : MaxL w) : Calls Tryd.prog 18 #[] w fun e w' => e = .returned (.bool true) ∧ Below w.heap.size w w' := by
  have h1 := fun w h => parse_any ⟨#[49, 48, 48, 46, 53, 48, 49, 48]⟩ (by decide) w h
  rw [known_parse] at h1
  have h2 := fun w => class_any 5010 w
  rw [show classZ 5010 = 5 by decide] at h2
  have h3 := fun w h => print_any 100 5010 w h
  rw [known_print] at h3
  have h4 := fun w => fixed_any 1010 w
  rw [show fixedB 1010 = true by decide] at h4
  go_enter Tryd.func18, Tryd.ntmps18
  go_wp2_with fail
  refine (h1 _ hx).mono ?_
  rintro e w1 ⟨rfl, b1⟩
  have T1 := Lib.hid (ht.below b1)
  have B1 := Lib.hid b1
  clear b1
  go_wp2_with fail
  refine (h2 _).mono ?_
  rintro e w' ⟨rfl, rfl⟩
  go_wp2_with fail
  refine (h3 _ T1.out).mono ?_
  rintro e w2 ⟨rfl, b2⟩
  go_wp2_with fail
  refine (h4 _).mono ?_
  rintro e w' ⟨rfl, rfl⟩
  go_wp2_with fail
  go_ret
  exact ⟨rfl, B1.out.trans (b2.mono B1.out.size)⟩

set_option maxHeartbeats 1600000 in
theorem codeTells_walk (f o : Int) (s : ByteArray) (hs : s.size ≤ maxLen) (w : World) (ht : Pows w) (hx : MaxL w) :
    Calls Tryd.prog 5 #[.int .i64 f, .int .i64 o, .string s] w fun e w' => e = .returned (.bool true) ∧ Below w.heap.size w w' := by
  by_cases hbig : 300 < s.size
  · have k0 : decide ((300 : Int) < (s.size : Int)) = true := by simp; omega
    unfold maxLen at hs
    go_enter Tryd.func5, Tryd.ntmps5
    go_wp2_with fail
    refine (awake16_any _ ht hx).mono ?_
    rintro e w' ⟨rfl, hb⟩
    go_wp2_with fail
    go_ret
    exact ⟨rfl, hb⟩
  · have k0 : decide ((300 : Int) < (s.size : Int)) = false := by simp; omega
    have h1 := fun w h => parse_any s (by omega) w h
    have h2 := fun w => refParse_any s hs w
    rw [parse_same] at h2
    generalize parseC s.data.toList = r at h1 h2
    obtain ⟨r1, r2, r3⟩ := r
    simp only at h1 h2
    clear hs hbig
    go_enter Tryd.func5, Tryd.ntmps5
    go_wp2_with fail
    refine (h1 _ hx).mono ?_
    rintro e w1 ⟨rfl, b1⟩
    have T1 := Lib.hid (ht.below b1)
    have X1 := Lib.hid (hx.below b1)
    have B1 := Lib.hid b1
    clear b1
    go_wp2_with fail
    refine (h2 _).mono ?_
    rintro e w' ⟨rfl, rfl⟩
    go_wp2_with fail
    refine (fund_any _ _).mono ?_
    rintro e w' ⟨rfl, rfl⟩
    go_wp2_with fail
    refine (refFund_any _ _).mono ?_
    rintro e w' ⟨rfl, rfl⟩
    go_wp2_with fail
    refine (obj_any _ _).mono ?_
    rintro e w' ⟨rfl, rfl⟩
    go_wp2_with fail
    refine (refObj_any _ _).mono ?_
    rintro e w' ⟨rfl, rfl⟩
    go_wp2_with fail
    refine (class_any _ _).mono ?_
    rintro e w' ⟨rfl, rfl⟩
    go_wp2_with fail
    refine (refClass_any _ _).mono ?_
    rintro e w' ⟨rfl, rfl⟩
    go_wp2_with fail
    refine (fixed_any _ _).mono ?_
    rintro e w' ⟨rfl, rfl⟩
    go_wp2_with fail
    refine (refFixed_any _ _).mono ?_
    rintro e w' ⟨rfl, rfl⟩
    go_wp2_with fail
    refine (print_any _ _ _ T1.out).mono ?_
    rintro e w2 ⟨rfl, b2⟩
    have T2 := Lib.hid (T1.out.below b2)
    have X2 := Lib.hid (X1.out.below b2)
    have B2 := Lib.hid (B1.out.trans (b2.mono B1.out.size))
    clear b2
    go_wp2_with fail
    refine (refPrint_any _ _ _).mono ?_
    rintro e w' ⟨rfl, rfl⟩
    go_wp2_with fail
    refine (awake16_any _ T2.out X2.out).mono ?_
    rintro e w3 ⟨rfl, b3⟩
    go_wp2_with fail
    go_ret
    exact ⟨rfl, B2.out.trans (b3.mono B2.out.size)⟩

/-- What is printed is read. -/
theorem parse_print {f o : Int} (h : (fundB f && objB o) = true) : parseC (printS f o).data.toList = (f, o, true) := (read_code h).1
theorem print_size {f o : Int} (h : (fundB f && objB o) = true) : (printS f o).size = 8 := by
  have h2 := (read_code h).2
  show (printL f o).toArray.size = 8
  rw [List.size_toArray]
  unfold parseR at h2
  split at h2
  · assumption
  · simp at h2

set_option maxHeartbeats 3200000 in
theorem codeBack_walk (f o : Int) (s : ByteArray) (hs : s.size ≤ maxLen) (w : World) (ht : Pows w) (hx : MaxL w) :
    Calls Tryd.prog 6 #[.int .i64 f, .int .i64 o, .string s] w fun e w' => e = .returned (.bool true) ∧ Below w.heap.size w w' := by
  have T0 := Lib.hid ht
  have X0 := Lib.hid hx
  have B0 := Lib.hid (Below.refl w.heap.size w)
  clear ht hx
  cases hv : (fundB f && objB o)
  · have k1 : ((printS f o).toList == []) = true := by rw [printS_no hv, ByteArray.toList_eq]; rfl
    clear hv
    by_cases hbig : 300 < s.size
    · have k0 : decide ((300 : Int) < (s.size : Int)) = true := by simp; omega
      unfold maxLen at hs
      go_enter Tryd.func6, Tryd.ntmps6
      go_wp2_with fail
      refine (print_any _ _ _ T0.out).mono ?_
      rintro e w1 ⟨rfl, b1⟩
      have T1 := Lib.hid (T0.out.below b1)
      have X1 := Lib.hid (X0.out.below b1)
      have B1 := Lib.hid (B0.out.trans (b1.mono B0.out.size))
      clear b1
      go_wp2_with fail
      refine (awake16_any _ T1.out X1.out).mono ?_
      rintro e w2 ⟨rfl, b2⟩
      go_wp2_with fail
      go_ret
      exact ⟨rfl, B1.out.trans (b2.mono B1.out.size)⟩
    · have k0 : decide ((300 : Int) < (s.size : Int)) = false := by simp; omega
      have h1 := fun w h => parse_any s (by omega) w h
      clear hbig hs
      cases hc : (parseC s.data.toList).2.2
      · rw [parseC_no hc] at h1
        clear hc
        go_enter Tryd.func6, Tryd.ntmps6
        go_wp2_with fail
        refine (print_any _ _ _ T0.out).mono ?_
        rintro e w1 ⟨rfl, b1⟩
        have T1 := Lib.hid (T0.out.below b1)
        have X1 := Lib.hid (X0.out.below b1)
        have B1 := Lib.hid (B0.out.trans (b1.mono B0.out.size))
        clear b1
        go_wp2_with fail
        refine (h1 _ X1.out).mono ?_
        rintro e w2 ⟨rfl, b2⟩
        have T2 := Lib.hid (T1.out.below b2)
        have X2 := Lib.hid (X1.out.below b2)
        have B2 := Lib.hid (B1.out.trans (b2.mono B1.out.size))
        clear b2
        go_wp2_with fail
        refine (awake16_any _ T2.out X2.out).mono ?_
        rintro e w3 ⟨rfl, b3⟩
        go_wp2_with fail
        go_ret
        exact ⟨rfl, B2.out.trans (b3.mono B2.out.size)⟩
      · have hr : parseC s.data.toList = ((parseC s.data.toList).1, (parseC s.data.toList).2.1, true) := by rw [← hc]
        obtain ⟨hok, hpl⟩ := parseC_back hr
        have k2 := printS_alike (parseC s.data.toList).1 (parseC s.data.toList).2.1 s
        rw [hpl, decide_eq_true rfl] at k2
        rw [hc] at h1
        clear hc hr hok hpl
        generalize (parseC s.data.toList).1 = a at h1 k2
        generalize (parseC s.data.toList).2.1 = b at h1 k2
        go_enter Tryd.func6, Tryd.ntmps6
        go_wp2_with fail
        refine (print_any _ _ _ T0.out).mono ?_
        rintro e w1 ⟨rfl, b1⟩
        have T1 := Lib.hid (T0.out.below b1)
        have X1 := Lib.hid (X0.out.below b1)
        have B1 := Lib.hid (B0.out.trans (b1.mono B0.out.size))
        clear b1
        go_wp2_with fail
        refine (h1 _ X1.out).mono ?_
        rintro e w2 ⟨rfl, b2⟩
        have T2 := Lib.hid (T1.out.below b2)
        have X2 := Lib.hid (X1.out.below b2)
        have B2 := Lib.hid (B1.out.trans (b2.mono B1.out.size))
        clear b2
        go_wp2_with fail
        refine (print_any _ _ _ T2.out).mono ?_
        rintro e w3 ⟨rfl, b3⟩
        have T3 := Lib.hid (T2.out.below b3)
        have X3 := Lib.hid (X2.out.below b3)
        have B3 := Lib.hid (B2.out.trans (b3.mono B2.out.size))
        clear b3
        go_wp2_with fail
        refine (awake16_any _ T3.out X3.out).mono ?_
        rintro e w4 ⟨rfl, b4⟩
        go_wp2_with fail
        go_ret
        exact ⟨rfl, B3.out.trans (b4.mono B3.out.size)⟩
  · have hp := fun w h => parse_any (printS f o) (by rw [print_size hv]; decide) w h
    rw [parse_print hv] at hp
    have k1 : ((printS f o).toList == []) = false := by
      have h8 := print_size hv
      rw [beq_eq_false_iff_ne, ByteArray.toList_eq]
      intro e
      have h2 : (printS f o).data.toList.length = 0 := by rw [e]; rfl
      rw [Array.length_toList] at h2
      have : (printS f o).data.size = 8 := h8
      omega
    clear hv
    by_cases hbig : 300 < s.size
    · have k0 : decide ((300 : Int) < (s.size : Int)) = true := by simp; omega
      unfold maxLen at hs
      go_enter Tryd.func6, Tryd.ntmps6
      go_wp2_with fail
      refine (print_any _ _ _ T0.out).mono ?_
      rintro e w1 ⟨rfl, b1⟩
      have T1 := Lib.hid (T0.out.below b1)
      have X1 := Lib.hid (X0.out.below b1)
      have B1 := Lib.hid (B0.out.trans (b1.mono B0.out.size))
      clear b1
      go_wp2_with fail
      refine (hp _ X1.out).mono ?_
      rintro e w2 ⟨rfl, b2⟩
      have T2 := Lib.hid (T1.out.below b2)
      have X2 := Lib.hid (X1.out.below b2)
      have B2 := Lib.hid (B1.out.trans (b2.mono B1.out.size))
      clear b2
      go_wp2_with fail
      refine (awake16_any _ T2.out X2.out).mono ?_
      rintro e w3 ⟨rfl, b3⟩
      go_wp2_with fail
      go_ret
      exact ⟨rfl, B2.out.trans (b3.mono B2.out.size)⟩
    · have k0 : decide ((300 : Int) < (s.size : Int)) = false := by simp; omega
      have h1 := fun w h => parse_any s (by omega) w h
      clear hbig hs
      cases hc : (parseC s.data.toList).2.2
      · rw [parseC_no hc] at h1
        clear hc
        go_enter Tryd.func6, Tryd.ntmps6
        go_wp2_with fail
        refine (print_any _ _ _ T0.out).mono ?_
        rintro e w1 ⟨rfl, b1⟩
        have T1 := Lib.hid (T0.out.below b1)
        have X1 := Lib.hid (X0.out.below b1)
        have B1 := Lib.hid (B0.out.trans (b1.mono B0.out.size))
        clear b1
        go_wp2_with fail
        refine (hp _ X1.out).mono ?_
        rintro e w2 ⟨rfl, b2⟩
        have T2 := Lib.hid (T1.out.below b2)
        have X2 := Lib.hid (X1.out.below b2)
        have B2 := Lib.hid (B1.out.trans (b2.mono B1.out.size))
        clear b2
        go_wp2_with fail
        refine (h1 _ X2.out).mono ?_
        rintro e w3 ⟨rfl, b3⟩
        have T3 := Lib.hid (T2.out.below b3)
        have X3 := Lib.hid (X2.out.below b3)
        have B3 := Lib.hid (B2.out.trans (b3.mono B2.out.size))
        clear b3
        go_wp2_with fail
        refine (awake16_any _ T3.out X3.out).mono ?_
        rintro e w4 ⟨rfl, b4⟩
        go_wp2_with fail
        go_ret
        exact ⟨rfl, B3.out.trans (b4.mono B3.out.size)⟩
      · have hr : parseC s.data.toList = ((parseC s.data.toList).1, (parseC s.data.toList).2.1, true) := by rw [← hc]
        obtain ⟨hok, hpl⟩ := parseC_back hr
        have k2 := printS_alike (parseC s.data.toList).1 (parseC s.data.toList).2.1 s
        rw [hpl, decide_eq_true rfl] at k2
        rw [hc] at h1
        clear hc hr hok hpl
        generalize (parseC s.data.toList).1 = a at h1 k2
        generalize (parseC s.data.toList).2.1 = b at h1 k2
        go_enter Tryd.func6, Tryd.ntmps6
        go_wp2_with fail
        refine (print_any _ _ _ T0.out).mono ?_
        rintro e w1 ⟨rfl, b1⟩
        have T1 := Lib.hid (T0.out.below b1)
        have X1 := Lib.hid (X0.out.below b1)
        have B1 := Lib.hid (B0.out.trans (b1.mono B0.out.size))
        clear b1
        go_wp2_with fail
        refine (hp _ X1.out).mono ?_
        rintro e w2 ⟨rfl, b2⟩
        have T2 := Lib.hid (T1.out.below b2)
        have X2 := Lib.hid (X1.out.below b2)
        have B2 := Lib.hid (B1.out.trans (b2.mono B1.out.size))
        clear b2
        go_wp2_with fail
        refine (h1 _ X2.out).mono ?_
        rintro e w3 ⟨rfl, b3⟩
        have T3 := Lib.hid (T2.out.below b3)
        have X3 := Lib.hid (X2.out.below b3)
        have B3 := Lib.hid (B2.out.trans (b3.mono B2.out.size))
        clear b3
        go_wp2_with fail
        refine (print_any _ _ _ T3.out).mono ?_
        rintro e w4 ⟨rfl, b4⟩
        have T4 := Lib.hid (T3.out.below b4)
        have X4 := Lib.hid (X3.out.below b4)
        have B4 := Lib.hid (B3.out.trans (b4.mono B3.out.size))
        clear b4
        go_wp2_with fail
        refine (awake16_any _ T4.out X4.out).mono ?_
        rintro e w5 ⟨rfl, b5⟩
        go_wp2_with fail
        go_ret
        exact ⟨rfl, B4.out.trans (b5.mono B4.out.size)⟩
end Go.Proofs.YtlamngpodomknaaDoor
