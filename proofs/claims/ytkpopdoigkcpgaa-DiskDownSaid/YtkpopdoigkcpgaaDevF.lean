/-
  The program's Write by contract, whatever it answers. Condition: fewer than 2^63 - 1 writes.
-/
import Derived.Test.YtkpopdoigkcpgaaDevE
namespace Go.Proofs.Ytkpopdoigkcpgaa
open Go.RowKit
set_option linter.unusedVariables false

set_option maxHeartbeats 800000 in
theorem write_downs (i : Int) (A : Option Addr) (n c : Nat) (w : World) (F : Nat → Prop) (p : Addr) (S : DS) (h : DAt w F p S) (hd : S.down = true) :
    Calls Try.prog 18 #[.pointer (some p), .int .i64 i, .slice A n c] w fun e w' => e = .returned (.int .i64 5) ∧ w = w' := by
  obtain ⟨b, sb, fb, left, pv, sN, fN, sf, ff, rfl, hrow, hrest, harm, hok, hdom, hcnt, hFb, hlt, c0, c1, c2, c3, c4, c5, c6⟩ := h.parts
  have hn : (0 : Int) < (S.n : Int) := by have := hok.size; omega
  rw [hd] at c1
  clear h hrow hrest hdom hlt
  go_enter Try.func18, Try.ntmps18
  go_wp2_with fail
  refine (ready_down c1 c2 hn).mono ?_
  rintro e w1 ⟨rfl, rfl⟩
  go_wp2
  go_ret
  exact ⟨rfl, rfl⟩

set_option maxHeartbeats 800000 in
theorem write_args (i : Int) (A : Option Addr) (n c : Nat) (w : World) (F : Nat → Prop) (p : Addr) (S : DS) (h : DAt w F p S) (hn63 : n ≤ 4096) (hd : S.down = false) (hno : ¬ (S.has i ∧ n = 256)) :
    Calls Try.prog 18 #[.pointer (some p), .int .i64 i, .slice A n c] w fun e w' => e = .returned (.int .i64 1) ∧ w = w' := by
  obtain ⟨b, sb, fb, left, pv, sN, fN, sf, ff, rfl, hrow, hrest, harm, hok, hdom, hcnt, hFb, hlt, c0, c1, c2, c3, c4, c5, c6⟩ := h.parts
  have hn : (0 : Int) < (S.n : Int) := by have := hok.size; omega
  rw [hd] at c1
  clear h hrow hrest hdom hlt
  by_cases hi : S.has i
  · have HH := Lib.hid (show decide (0 ≤ i ∧ i < (S.n : Int)) = true by simpa [DS.has] using hi)
    have hne : n ≠ 256 := fun e => hno ⟨hi, e⟩
    have k : ((n : Int) != 256) = true := by simp; omega
    clear hi hno
    go_enter Try.func18, Try.ntmps18
    go_wp2_with fail
    refine (ready_ok c1 c2 hn).mono ?_
    rintro e w1 ⟨rfl, rfl⟩
    go_wp2_with fail
    refine (hasDev_any _ c2).mono ?_
    rw [HH.out]
    rintro e w1 ⟨rfl, rfl⟩
    go_wp2
    go_ret
    exact ⟨rfl, rfl⟩
  · have HH := Lib.hid (show decide (0 ≤ i ∧ i < (S.n : Int)) = false by simpa [DS.has] using hi)
    clear hi hno
    go_enter Try.func18, Try.ntmps18
    go_wp2_with fail
    refine (ready_ok c1 c2 hn).mono ?_
    rintro e w1 ⟨rfl, rfl⟩
    go_wp2_with fail
    refine (hasDev_any _ c2).mono ?_
    rw [HH.out]
    rintro e w1 ⟨rfl, rfl⟩
    go_wp2
    go_ret
    exact ⟨rfl, rfl⟩

set_option maxHeartbeats 800000 in
theorem write_blown (i : Nat) (A : Option Addr) (c : Nat) (w : World) (F : Nat → Prop) (p : Addr) (S : DS) (h : DAt w F p S) (hd : S.down = false) (hi : i < S.n) (ha : S.arm = some 0) :
    Calls Try.prog 18 #[.pointer (some p), .int .i64 (i : Int), .slice A 256 c] w fun e w' => e = .returned (.int .i64 5) ∧ After F w w' p { S with down := true } := by
  obtain ⟨b, sb, fb, left, pv, sN, fN, sf, ff, rfl, hrow, hrest, harm, hok, hdom, hcnt, hFb, hlt, c0, c1, c2, c3, c4, c5, c6⟩ := h.parts
  have hn : (0 : Int) < (S.n : Int) := by have := hok.size; omega
  have hnm := hok.size
  rw [hd] at c1 hrow
  have hl : left = 0 := by
    rcases harm.2 with ⟨_, e⟩ | ⟨k, e1, e2⟩
    · rw [ha] at e; cases e
    · rw [ha] at e2
      obtain rfl : 0 = k := by injection e2
      exact e1
  subst hl
  have f1 := hrow.frozen 1
  have HH := Lib.hid (show decide (0 ≤ (i : Int) ∧ (i : Int) < (S.n : Int)) = true by simp; omega)
  have HE : Hid (After F w (w.setCell ⟨b, 1, none⟩ (.bool true)) ⟨b, 0, none⟩ { S with down := true }) := Lib.hid (by
    refine After.mk' (S := { S with down := true }) ((hrow.set 1 (.bool true)).congr (diskRow_set1 _ _ _ _ _ _ _ _)) ((hrest.keep (fun _ h _ => .inl h) (fun _ _ _ _ => rfl)).setCell hrow 1 _) harm ⟨hok.size, hok.safeBytes, hok.lastBytes, hok.pendLt, hok.pendNodup, hok.same⟩ hdom hcnt (.inl hFb) ((Touch.refl F w).grow (grown_setCell w b 1 _) (fun x e => .inl (by injection e with e; rw [← e]; exact hFb))))
  clear h hrow hrest hdom hlt
  go_enter Try.func18, Try.ntmps18
  go_wp2_with fail
  refine (ready_ok c1 c2 hn).mono ?_
  rintro e w1 ⟨rfl, rfl⟩
  go_wp2_with fail
  refine (hasDev_any _ c2).mono ?_
  rw [HH.out]
  rintro e w1 ⟨rfl, rfl⟩
  go_wp2_with fail
  refine (blows_yes c0 c1 f1).mono ?_
  rintro e w1 ⟨rfl, rfl⟩
  go_wp2
  go_ret
  exact ⟨rfl, HE.out⟩

theorem write_dev (i : Int) (A : Option Addr) (n c B : Nat) (l : List Int) (w : World) (F : Nat → Prop) (p : Addr) (S : DS) (h : DAt w F p S) (hr : RB w B A n l) (hc : n ≤ c) (hn : n ≤ 4096) (hw : S.writes ≤ 9223372036854775806) (hA : ∀ a, A = some a → ¬ F a.block) :
    Calls Try.prog 18 #[.pointer (some p), .int .i64 i, .slice A n c] w fun e w' => e = .returned (.int .i64 (S.writeE i l)) ∧ After F w w' p (S.write i l) := by
  by_cases hd : S.down = true
  · obtain ⟨e1, e2⟩ := writeE_down (i := i) (l := l) hd
    rw [e1, e2]
    refine (write_downs i A n c w F p S h hd).mono ?_
    rintro e w' ⟨rfl, rfl⟩
    exact ⟨rfl, After.same h⟩
  have hd' : S.down = false := by simpa using hd
  by_cases hi : S.has i ∧ n = 256
  · obtain ⟨⟨h0, h1⟩, rfl⟩ := hi
    obtain ⟨k, rfl⟩ := Int.eq_ofNat_of_zero_le h0
    have hk : k < S.n := by omega
    by_cases ha : S.arm = some 0
    · obtain ⟨e1, e2⟩ := writeE_blown hd' hk hr.len ha
      rw [e1, e2]
      exact write_blown k A c w F p S h hd' hk ha
    · obtain ⟨e1, e2⟩ := writeE_yes hd' hk hr.len ha
      rw [e1, e2]
      by_cases hm : k ∈ S.pend
      · exact write_old k A c B l w F p S h hr hc hw hA hd' hk ha hm
      · exact write_new k A c B l w F p S h hr hc hw hA hd' hk ha hm
  · obtain ⟨e1, e2⟩ := writeE_no (i := i) (l := l) hd' (by rw [hr.len]; exact hi)
    rw [e1, e2]
    refine (write_args i A n c w F p S h hn hd' hi).mono ?_
    rintro e w' ⟨rfl, rfl⟩
    exact ⟨rfl, After.same h⟩

end Go.Proofs.Ytkpopdoigkcpgaa
