/-
  The small functions of the program's disk by contract: made, ready, has, the fuse; Size, Writes, Down, Arm; New. No condition beyond what each says of the cells.
-/
import Derived.Test.YtkpopdoigkcpgaaDevP
import Derived.Test.YtkpopdoigkcpgaaDiskSaid
import Derived.Test.YtkpopdoigkcpgaaNobodySaid
import Derived.BigQuiet
namespace Go.Proofs.Ytkpopdoigkcpgaa
open Go.RowKit
set_option linter.unusedVariables false

section
variable {w : World} {b : Nat}

theorem made_nil (w : World) : Calls Try.prog 34 #[.pointer none] w fun e w' => e = .returned (.bool false) ∧ w = w' := by
  go_enter Try.func34, Try.ntmps34
  go_wp2
  go_ret
  exact ⟨rfl, rfl⟩
theorem made_yes {n : Int} (h2 : w.cell? ⟨b, 2, none⟩ = some (.int .i64 n)) (hn : 0 < n) : Calls Try.prog 34 #[.pointer (some ⟨b, 0, none⟩)] w fun e w' => e = .returned (.bool true) ∧ w = w' := by
  have k : decide (0 < n) = true := by simpa using hn
  go_enter Try.func34, Try.ntmps34
  go_wp2
  go_ret
  exact ⟨rfl, rfl⟩
theorem made_no (h2 : w.cell? ⟨b, 2, none⟩ = some (.int .i64 0)) : Calls Try.prog 34 #[.pointer (some ⟨b, 0, none⟩)] w fun e w' => e = .returned (.bool false) ∧ w = w' := by
  go_enter Try.func34, Try.ntmps34
  go_wp2
  go_ret
  exact ⟨rfl, rfl⟩

theorem ready_nil (w : World) : Calls Try.prog 36 #[.pointer none] w fun e w' => e = .returned (.int .i64 2) ∧ w = w' := by
  go_enter Try.func36, Try.ntmps36
  go_wp2_with fail
  refine (made_nil w).mono ?_
  rintro e w1 ⟨rfl, rfl⟩
  go_wp2
  go_ret
  exact ⟨rfl, rfl⟩
theorem ready_no (h2 : w.cell? ⟨b, 2, none⟩ = some (.int .i64 0)) : Calls Try.prog 36 #[.pointer (some ⟨b, 0, none⟩)] w fun e w' => e = .returned (.int .i64 2) ∧ w = w' := by
  go_enter Try.func36, Try.ntmps36
  go_wp2_with fail
  refine (made_no h2).mono ?_
  rintro e w1 ⟨rfl, rfl⟩
  go_wp2
  go_ret
  exact ⟨rfl, rfl⟩
theorem ready_down {n : Int} (h1 : w.cell? ⟨b, 1, none⟩ = some (.bool true)) (h2 : w.cell? ⟨b, 2, none⟩ = some (.int .i64 n)) (hn : 0 < n) : Calls Try.prog 36 #[.pointer (some ⟨b, 0, none⟩)] w fun e w' => e = .returned (.int .i64 5) ∧ w = w' := by
  go_enter Try.func36, Try.ntmps36
  go_wp2_with fail
  refine (made_yes h2 hn).mono ?_
  rintro e w1 ⟨rfl, rfl⟩
  go_wp2
  go_ret
  exact ⟨rfl, rfl⟩
theorem ready_ok {n : Int} (h1 : w.cell? ⟨b, 1, none⟩ = some (.bool false)) (h2 : w.cell? ⟨b, 2, none⟩ = some (.int .i64 n)) (hn : 0 < n) : Calls Try.prog 36 #[.pointer (some ⟨b, 0, none⟩)] w fun e w' => e = .returned (.int .i64 0) ∧ w = w' := by
  go_enter Try.func36, Try.ntmps36
  go_wp2_with fail
  refine (made_yes h2 hn).mono ?_
  rintro e w1 ⟨rfl, rfl⟩
  go_wp2
  go_ret
  exact ⟨rfl, rfl⟩

theorem hasDev_any {n : Int} (i : Int) (h2 : w.cell? ⟨b, 2, none⟩ = some (.int .i64 n)) : Calls Try.prog 37 #[.pointer (some ⟨b, 0, none⟩), .int .i64 i] w fun e w' => e = .returned (.bool (decide (0 ≤ i ∧ i < n))) ∧ w = w' := by
  by_cases h0 : 0 ≤ i
  · have k0 : decide (0 ≤ i) = true := by simpa using h0
    have e : decide (0 ≤ i ∧ i < n) = decide (i < n) := by simp [h0]
    rw [e]
    generalize hq : decide (i < n) = q
    clear h0 e
    cases q
    · go_enter Try.func37, Try.ntmps37
      go_wp2
      go_ret
      exact ⟨rfl, rfl⟩
    · go_enter Try.func37, Try.ntmps37
      go_wp2
      go_ret
      exact ⟨rfl, rfl⟩
  · have k0 : decide (0 ≤ i) = false := by simpa using h0
    have e : decide (0 ≤ i ∧ i < n) = false := by simp [h0]
    rw [e]
    clear h0 e
    go_enter Try.func37, Try.ntmps37
    go_wp2
    go_ret
    exact ⟨rfl, rfl⟩

theorem blows_yes (h0 : w.cell? ⟨b, 0, none⟩ = some (.int .i64 0)) (h1 : w.cell? ⟨b, 1, none⟩ = some (.bool false)) (f1 : w.frozen? ⟨b, 1, none⟩ = false) :
    Calls Try.prog 38 #[.pointer (some ⟨b, 0, none⟩)] w fun e w' => e = .returned (.bool true) ∧ w' = w.setCell ⟨b, 1, none⟩ (.bool true) := by
  go_enter Try.func38, Try.ntmps38
  go_wp2
  go_ret
  exact ⟨rfl, rfl⟩
theorem blows_less {k : Nat} (hk : (k : Int) + 1 ≤ 9223372036854775807) (h0 : w.cell? ⟨b, 0, none⟩ = some (.int .i64 ((k : Int) + 1))) (h1 : w.cell? ⟨b, 1, none⟩ = some (.bool false)) (f0 : w.frozen? ⟨b, 0, none⟩ = false) :
    Calls Try.prog 38 #[.pointer (some ⟨b, 0, none⟩)] w fun e w' => e = .returned (.bool false) ∧ w' = w.setCell ⟨b, 0, none⟩ (.int .i64 (k : Int)) := by
  have e0 : ((k : Int) + 1 == 0) = false := by simp; omega
  have e1 : decide ((0 : Int) < (k : Int) + 1) = true := by simp
  have e2 : wrap64 ((k : Int) + 1 - 1) = k := by unfold wrap64; omega
  go_enter Try.func38, Try.ntmps38
  go_wp2
  go_ret
  exact ⟨rfl, rfl⟩
theorem blows_none {left : Int} (hl : left < 0) (h0 : w.cell? ⟨b, 0, none⟩ = some (.int .i64 left)) (h1 : w.cell? ⟨b, 1, none⟩ = some (.bool false)) :
    Calls Try.prog 38 #[.pointer (some ⟨b, 0, none⟩)] w fun e w' => e = .returned (.bool false) ∧ w' = w := by
  have e0 : (left == 0) = false := by simp; omega
  have e1 : decide ((0 : Int) < left) = false := by simp; omega
  go_enter Try.func38, Try.ntmps38
  go_wp2
  go_ret
  exact ⟨rfl, rfl⟩
theorem mend_any {v0 v1 : Value} (h0 : w.cell? ⟨b, 0, none⟩ = some v0) (h1 : w.cell? ⟨b, 1, none⟩ = some v1) (f0 : w.frozen? ⟨b, 0, none⟩ = false) (f1 : w.frozen? ⟨b, 1, none⟩ = false) :
    Calls Try.prog 44 #[.pointer (some ⟨b, 0, none⟩)] w fun e w' => e = .returned (.tuple #[]) ∧ w' = (w.setCell ⟨b, 0, none⟩ (.int .i64 (-1))).setCell ⟨b, 1, none⟩ (.bool false) := by
  go_enter Try.func44, Try.ntmps44
  go_wp2
  go_end0
  exact ⟨rfl, rfl⟩
end

/-- A call that only reads, at a disk. -/
theorem DAt.parts {w : World} {F : Nat → Prop} {p : Addr} {S : DS} (h : DAt w F p S) : ∃ b sb fb left pv sN fN sf ff, p = ⟨b, 0, none⟩ ∧ w.rowIs b 61 7 (diskRow left S.down S.n sb fb pv S.writes) ∧ Rest w F sb fb pv S.n S.safe S.last S.pend sN fN sf ff ∧ ArmIs left S.arm ∧ S.Ok ∧ (∀ i : Nat, i < S.n → ((ff i).isSome = true ↔ i ∈ S.pend)) ∧ (sN + fN ≤ S.writes ∧ S.pend.length ≤ fN ∧ S.writes ≤ 9223372036854775807) ∧ F b ∧ (∀ k, F k → k < w.heap.size) ∧
    w.cell? ⟨b, 0, none⟩ = some (.int .i64 left) ∧ w.cell? ⟨b, 1, none⟩ = some (.bool S.down) ∧ w.cell? ⟨b, 2, none⟩ = some (.int .i64 S.n) ∧ w.cell? ⟨b, 3, none⟩ = some (.map (some sb)) ∧ w.cell? ⟨b, 4, none⟩ = some (.map (some fb)) ∧ w.cell? ⟨b, 5, none⟩ = some pv ∧ w.cell? ⟨b, 6, none⟩ = some (.int .i64 S.writes) := by
  obtain ⟨b, sb, fb, left, pv, sN, fN, sf, ff, e, hrow, rest⟩ := h
  obtain ⟨h1, h2, h3, h4, h5, h6, h7⟩ := rest
  exact ⟨b, sb, fb, left, pv, sN, fN, sf, ff, e, hrow, h1, h2, h3, h4, h5, h6, h7, hrow.cell (i := 0) (by decide), hrow.cell (i := 1) (by decide), hrow.cell (i := 2) (by decide), hrow.cell (i := 3) (by decide), hrow.cell (i := 4) (by decide), hrow.cell (i := 5) (by decide), hrow.cell (i := 6) (by decide)⟩

theorem size_dev (w : World) (F : Nat → Prop) (p : Addr) (S : DS) (h : DAt w F p S) : Calls Try.prog 17 #[.pointer (some p)] w fun e w' => e = .returned (.int .i64 (S.n : Int)) ∧ Below w.heap.size w w' := by
  obtain ⟨b, sb, fb, left, pv, sN, fN, sf, ff, rfl, hrow, hrest, harm, hok, hdom, hcnt, hFb, hlt, c0, c1, c2, c3, c4, c5, c6⟩ := h.parts
  have hn : (0 : Int) < (S.n : Int) := by have := hok.size; omega
  go_enter Try.func17, Try.ntmps17
  go_wp2_with fail
  refine (made_yes c2 hn).mono ?_
  rintro e w1 ⟨rfl, rfl⟩
  go_wp2
  go_ret
  exact ⟨rfl, Below.refl _ _⟩
theorem writes_dev (w : World) (F : Nat → Prop) (p : Addr) (S : DS) (h : DAt w F p S) : Calls Try.prog 15 #[.pointer (some p)] w fun e w' => e = .returned (.int .i64 (S.writes : Int)) ∧ Below w.heap.size w w' := by
  obtain ⟨b, sb, fb, left, pv, sN, fN, sf, ff, rfl, hrow, hrest, harm, hok, hdom, hcnt, hFb, hlt, c0, c1, c2, c3, c4, c5, c6⟩ := h.parts
  have hn : (0 : Int) < (S.n : Int) := by have := hok.size; omega
  go_enter Try.func15, Try.ntmps15
  go_wp2_with fail
  refine (made_yes c2 hn).mono ?_
  rintro e w1 ⟨rfl, rfl⟩
  go_wp2
  go_ret
  exact ⟨rfl, Below.refl _ _⟩
theorem down_dev (w : World) (F : Nat → Prop) (p : Addr) (S : DS) (h : DAt w F p S) : Calls Try.prog 16 #[.pointer (some p)] w fun e w' => e = .returned (.bool S.down) ∧ Below w.heap.size w w' := by
  obtain ⟨b, sb, fb, left, pv, sN, fN, sf, ff, rfl, hrow, hrest, harm, hok, hdom, hcnt, hFb, hlt, c0, c1, c2, c3, c4, c5, c6⟩ := h.parts
  have hn : (0 : Int) < (S.n : Int) := by have := hok.size; omega
  go_enter Try.func16, Try.ntmps16
  go_wp2_with fail
  refine (made_yes c2 hn).mono ?_
  rintro e w1 ⟨rfl, rfl⟩
  go_wp2
  go_ret
  exact ⟨rfl, Below.refl _ _⟩

theorem diskRow_set0 (left left' : Int) (down : Bool) (n sb fb : Nat) (pv : Value) (wr : Nat) : ∀ i, i < 7 → (fun j => if j = 0 then Value.int .i64 left' else diskRow left down n sb fb pv wr j) i = diskRow left' down n sb fb pv wr i := by
  intro i hi
  rcases (show i = 0 ∨ i = 1 ∨ i = 2 ∨ i = 3 ∨ i = 4 ∨ i = 5 ∨ i = 6 by omega) with rfl | rfl | rfl | rfl | rfl | rfl | rfl <;> rfl
theorem diskRow_set1 (left : Int) (down down' : Bool) (n sb fb : Nat) (pv : Value) (wr : Nat) : ∀ i, i < 7 → (fun j => if j = 1 then Value.bool down' else diskRow left down n sb fb pv wr j) i = diskRow left down' n sb fb pv wr i := by
  intro i hi
  rcases (show i = 0 ∨ i = 1 ∨ i = 2 ∨ i = 3 ∨ i = 4 ∨ i = 5 ∨ i = 6 by omega) with rfl | rfl | rfl | rfl | rfl | rfl | rfl <;> rfl
theorem diskRow_set5 (left : Int) (down : Bool) (n sb fb : Nat) (pv pv' : Value) (wr : Nat) : ∀ i, i < 7 → (fun j => if j = 5 then pv' else diskRow left down n sb fb pv wr j) i = diskRow left down n sb fb pv' wr i := by
  intro i hi
  rcases (show i = 0 ∨ i = 1 ∨ i = 2 ∨ i = 3 ∨ i = 4 ∨ i = 5 ∨ i = 6 by omega) with rfl | rfl | rfl | rfl | rfl | rfl | rfl <;> rfl
theorem diskRow_set6 (left : Int) (down : Bool) (n sb fb : Nat) (pv : Value) (wr wr' : Nat) : ∀ i, i < 7 → (fun j => if j = 6 then Value.int .i64 wr' else diskRow left down n sb fb pv wr j) i = diskRow left down n sb fb pv wr' i := by
  intro i hi
  rcases (show i = 0 ∨ i = 1 ∨ i = 2 ∨ i = 3 ∨ i = 4 ∨ i = 5 ∨ i = 6 by omega) with rfl | rfl | rfl | rfl | rfl | rfl | rfl <;> rfl

/-- A store into the disk's own block leaves the rest. -/
theorem Rest.setCell {w : World} {F : Nat → Prop} {b sb fb : Nat} {pv : Value} {n : Nat} {safe last : Nat → List Int} {pl : List Nat} {sN fN : Nat} {sf ff : Int → Option Value} {f : Nat → Value} (h : Rest w F sb fb pv n safe last pl sN fN sf ff) (hrow : w.rowIs b 61 7 f) (o : Nat) (v : Value) : Rest (w.setCell ⟨b, o, none⟩ v) F sb fb pv n safe last pl sN fN sf ff :=
  h.keep (fun _ h _ => h) (fun k _ hk hne => (grown_setCell w b o v).block k hk (fun e => by
    obtain ⟨c, hb, _⟩ := hrow
    have : k = b := by injection e
    subst this
    exact hne c hb))
/-- What was there stands: the rest too. -/
theorem Rest.below {w w' : World} {F : Nat → Prop} {sb fb : Nat} {pv : Value} {n : Nat} {safe last : Nat → List Int} {pl : List Nat} {sN fN : Nat} {sf ff : Int → Option Value} (h : Rest w F sb fb pv n safe last pl sN fN sf ff) (hb : Below w.heap.size w w') : Rest w' F sb fb pv n safe last pl sN fN sf ff :=
  h.keep (fun _ h _ => h) (fun k _ hk _ => hb.block k hk)

theorem arm_dev (i : Int) (w : World) (F : Nat → Prop) (p : Addr) (S : DS) (h : DAt w F p S) (hi : -9223372036854775808 ≤ i ∧ i ≤ 9223372036854775807) : Calls Try.prog 26 #[.pointer (some p), .int .i64 i] w fun e w' => e = .returned (.tuple #[]) ∧ After F w w' p (S.fuse i) := by
  obtain ⟨b, sb, fb, left, pv, sN, fN, sf, ff, rfl, hrow, hrest, harm, hok, hdom, hcnt, hFb, hlt, c0, c1, c2, c3, c4, c5, c6⟩ := h.parts
  have hn : (0 : Int) < (S.n : Int) := by have := hok.size; omega
  have f0 := hrow.frozen 0
  have HE : Hid (After F w (w.setCell ⟨b, 0, none⟩ (.int .i64 i)) ⟨b, 0, none⟩ (S.fuse i)) := Lib.hid (by
    refine After.mk' ((hrow.set 0 (.int .i64 i)).congr (diskRow_set0 _ _ _ _ _ _ _ _)) ((hrest.keep (fun _ h _ => .inl h) (fun _ _ _ _ => rfl)).setCell hrow 0 _) ⟨hi, ?_⟩ (DS.fuse_ok hok i) hdom hcnt (.inl hFb) ((Touch.refl F w).grow (grown_setCell w b 0 _) (fun x e => .inl (by injection e with e; rw [← e]; exact hFb)))
    unfold DS.fuse
    by_cases h0 : i < 0
    · exact .inl ⟨h0, if_pos h0⟩
    · exact .inr ⟨i.toNat, by omega, if_neg h0⟩)
  clear hrest hrow hdom h
  go_enter Try.func26, Try.ntmps26
  go_wp2_with fail
  refine (made_yes c2 hn).mono ?_
  rintro e w1 ⟨rfl, rfl⟩
  go_wp2
  go_end0
  exact ⟨rfl, HE.out⟩

end Go.Proofs.Ytkpopdoigkcpgaa
