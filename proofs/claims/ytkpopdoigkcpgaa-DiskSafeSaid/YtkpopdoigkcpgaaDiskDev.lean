/-
  The program's disk answers as it is to, also where no call made it. Conditions: those of the contracts (a list of at most 2^63 - 1 places; fewer than 2^63 - 1 writes; a sector of at most 4,096 bytes).
-/
import Derived.Test.YtkpopdoigkcpgaaDevI
namespace Go.Proofs.Ytkpopdoigkcpgaa
open Go.RowKit
set_option linter.unusedVariables false

theorem disk_said : ∃ D, DiskApi D := by
  refine ⟨DAt, ?_⟩
  exact {
    keep := fun w w' F p S h hk => h.keep hk
    lt := fun w F p S h => by
      obtain ⟨b, sb, fb, left, pv, sN, fN, sf, ff, rfl, hrow, hrest, harm, hok, hdom, hcnt, hFb, hlt⟩ := h
      exact hlt
    ok := fun w F p S h => by
      obtain ⟨b, sb, fb, left, pv, sN, fN, sf, ff, rfl, hrow, hrest, harm, hok, hdom, hcnt, hFb, hlt⟩ := h
      exact hok
    new := fun n w h1 h2 => by
      obtain ⟨k, rfl⟩ := Int.eq_ofNat_of_zero_le (show 0 ≤ n by omega)
      refine (new_yes k w (by omega) (by omega)).mono ?_
      rintro e w' ⟨p, rfl, F', hd, ht, hF⟩
      refine ⟨p, F', rfl, hd, ht.below (fun k h => absurd h id) (Nat.le_refl _), fun k hk => ?_⟩
      rcases hF k hk with a | a
      · exact absurd a id
      · exact a
    newNo := fun n w h => new_no n w h
    read := read_dev
    write := fun i A n c B l w F p S h hr hc hn hw hA => write_dev i A n c B l w F p S h hr hc hn hw hA
    flush := flush_dev
    arm := fun i w F p S h hi => arm_dev i w F p S h hi
    crash := fun A n c B l w F p S h hr hc hm hA => crash_dev A n c B l w F p S h hr hm
    pending := pending_dev
    writes := writes_dev
    down := down_dev
    sizes := size_dev }

/-- The cells of a disk that is only declared. -/
def zeroCells : Array Value := #[.int .i64 0, .bool false, .int .i64 0, .map none, .map none, .slice none 0 0, .int .i64 0]

/-- A disk that no call made. -/
def ZAt (w : World) (F : Nat → Prop) (p : Addr) : Prop := ∃ b, p = ⟨b, 0, none⟩ ∧ F b ∧ (∀ k, F k → k < w.heap.size) ∧ w.cell? ⟨b, 2, none⟩ = some (.int .i64 0)

section
variable {w : World} {b : Nat}
theorem read_nil (i : Int) (w : World) : Calls Try.prog 24 #[.pointer none, .int .i64 i] w fun e w' => ∃ (A : Option Addr) (n c : Nat), e = .returned (.tuple #[.slice A n c, .int .i64 2]) ∧ Below w.heap.size w w' := by
  go_enter Try.func24, Try.ntmps24
  go_wp2_with fail
  refine (ready_nil w).mono ?_
  rintro e w1 ⟨rfl, rfl⟩
  go_wp2
  go_ret2
  exact ⟨none, 0, 0, rfl, Below.refl _ _⟩
theorem read_no (i : Int) (h2 : w.cell? ⟨b, 2, none⟩ = some (.int .i64 0)) : Calls Try.prog 24 #[.pointer (some ⟨b, 0, none⟩), .int .i64 i] w fun e w' => ∃ (A : Option Addr) (n c : Nat), e = .returned (.tuple #[.slice A n c, .int .i64 2]) ∧ Below w.heap.size w w' := by
  go_enter Try.func24, Try.ntmps24
  go_wp2_with fail
  refine (ready_no h2).mono ?_
  rintro e w1 ⟨rfl, rfl⟩
  go_wp2
  go_ret2
  exact ⟨none, 0, 0, rfl, Below.refl _ _⟩
theorem write_nil (i : Int) (A : Option Addr) (n c : Nat) (w : World) : Calls Try.prog 18 #[.pointer none, .int .i64 i, .slice A n c] w fun e w' => e = .returned (.int .i64 2) ∧ Below w.heap.size w w' := by
  go_enter Try.func18, Try.ntmps18
  go_wp2_with fail
  refine (ready_nil w).mono ?_
  rintro e w1 ⟨rfl, rfl⟩
  go_wp2
  go_ret
  exact ⟨rfl, Below.refl _ _⟩
theorem write_no (i : Int) (A : Option Addr) (n c : Nat) (h2 : w.cell? ⟨b, 2, none⟩ = some (.int .i64 0)) : Calls Try.prog 18 #[.pointer (some ⟨b, 0, none⟩), .int .i64 i, .slice A n c] w fun e w' => e = .returned (.int .i64 2) ∧ Below w.heap.size w w' := by
  go_enter Try.func18, Try.ntmps18
  go_wp2_with fail
  refine (ready_no h2).mono ?_
  rintro e w1 ⟨rfl, rfl⟩
  go_wp2
  go_ret
  exact ⟨rfl, Below.refl _ _⟩
theorem flush_nil (w : World) : Calls Try.prog 20 #[.pointer none] w fun e w' => e = .returned (.int .i64 2) ∧ Below w.heap.size w w' := by
  go_enter Try.func20, Try.ntmps20
  go_wp2_with fail
  refine (ready_nil w).mono ?_
  rintro e w1 ⟨rfl, rfl⟩
  go_wp2
  go_ret
  exact ⟨rfl, Below.refl _ _⟩
theorem flush_no (h2 : w.cell? ⟨b, 2, none⟩ = some (.int .i64 0)) : Calls Try.prog 20 #[.pointer (some ⟨b, 0, none⟩)] w fun e w' => e = .returned (.int .i64 2) ∧ Below w.heap.size w w' := by
  go_enter Try.func20, Try.ntmps20
  go_wp2_with fail
  refine (ready_no h2).mono ?_
  rintro e w1 ⟨rfl, rfl⟩
  go_wp2
  go_ret
  exact ⟨rfl, Below.refl _ _⟩
theorem arm_nil (i : Int) (w : World) : Calls Try.prog 26 #[.pointer none, .int .i64 i] w fun e w' => e = .returned (.tuple #[]) ∧ w = w' := by
  go_enter Try.func26, Try.ntmps26
  go_wp2_with fail
  refine (made_nil w).mono ?_
  rintro e w1 ⟨rfl, rfl⟩
  go_wp2
  go_end0
  exact ⟨rfl, rfl⟩
theorem arm_no (i : Int) (h2 : w.cell? ⟨b, 2, none⟩ = some (.int .i64 0)) : Calls Try.prog 26 #[.pointer (some ⟨b, 0, none⟩), .int .i64 i] w fun e w' => e = .returned (.tuple #[]) ∧ w = w' := by
  go_enter Try.func26, Try.ntmps26
  go_wp2_with fail
  refine (made_no h2).mono ?_
  rintro e w1 ⟨rfl, rfl⟩
  go_wp2
  go_end0
  exact ⟨rfl, rfl⟩
theorem crash_nil (A : Option Addr) (n c : Nat) (w : World) : Calls Try.prog 21 #[.pointer none, .slice A n c] w fun e w' => e = .returned (.tuple #[]) ∧ w = w' := by
  go_enter Try.func21, Try.ntmps21
  go_wp2_with fail
  refine (made_nil w).mono ?_
  rintro e w1 ⟨rfl, rfl⟩
  go_wp2
  exact bodyPost_ret (v := .tuple #[]) (by simp [results, Try.results21, go_sem]) rfl ⟨rfl, rfl⟩
theorem crash_no (A : Option Addr) (n c : Nat) (h2 : w.cell? ⟨b, 2, none⟩ = some (.int .i64 0)) : Calls Try.prog 21 #[.pointer (some ⟨b, 0, none⟩), .slice A n c] w fun e w' => e = .returned (.tuple #[]) ∧ w = w' := by
  go_enter Try.func21, Try.ntmps21
  go_wp2_with fail
  refine (made_no h2).mono ?_
  rintro e w1 ⟨rfl, rfl⟩
  go_wp2
  exact bodyPost_ret (v := .tuple #[]) (by simp [results, Try.results21, go_sem]) rfl ⟨rfl, rfl⟩
theorem size_nil (w : World) : Calls Try.prog 17 #[.pointer none] w fun e w' => e = .returned (.int .i64 0) ∧ Below w.heap.size w w' := by
  go_enter Try.func17, Try.ntmps17
  go_wp2_with fail
  refine (made_nil w).mono ?_
  rintro e w1 ⟨rfl, rfl⟩
  go_wp2
  go_ret
  exact ⟨rfl, Below.refl _ _⟩
theorem writes_nil (w : World) : Calls Try.prog 15 #[.pointer none] w fun e w' => e = .returned (.int .i64 0) ∧ Below w.heap.size w w' := by
  go_enter Try.func15, Try.ntmps15
  go_wp2_with fail
  refine (made_nil w).mono ?_
  rintro e w1 ⟨rfl, rfl⟩
  go_wp2
  go_ret
  exact ⟨rfl, Below.refl _ _⟩
theorem pending_no (h2 : w.cell? ⟨b, 2, none⟩ = some (.int .i64 0)) : Calls Try.prog 13 #[.pointer (some ⟨b, 0, none⟩)] w fun e w' => ∃ (A : Option Addr) (c : Nat), e = .returned (.slice A 0 c) ∧ Below w.heap.size w w' := by
  go_enter Try.func13, Try.ntmps13
  go_wp2_with fail
  refine (made_no h2).mono ?_
  rintro e w1 ⟨rfl, rfl⟩
  go_wp2
  go_ret
  exact ⟨none, 0, rfl, Below.refl _ _⟩
theorem down_no (h2 : w.cell? ⟨b, 2, none⟩ = some (.int .i64 0)) : Calls Try.prog 16 #[.pointer (some ⟨b, 0, none⟩)] w fun e w' => e = .returned (.bool false) ∧ Below w.heap.size w w' := by
  go_enter Try.func16, Try.ntmps16
  go_wp2_with fail
  refine (made_no h2).mono ?_
  rintro e w1 ⟨rfl, rfl⟩
  go_wp2
  go_ret
  exact ⟨rfl, Below.refl _ _⟩
end

theorem nobody_said : ∃ Z, NobodyApi zeroCells Z := by
  refine ⟨ZAt, ?_⟩
  exact {
    keep := fun w w' F p h hk => by
      obtain ⟨b, rfl, hF, hlt, hc⟩ := h
      exact ⟨b, rfl, hF, fun k hk' => lt_of_same (hlt k hk') (hk k hk'), (World.cell?_of_block (a := ⟨b, 2, none⟩) (hk b hF)).trans hc⟩
    lt := fun w F p h => by
      obtain ⟨b, rfl, hF, hlt, hc⟩ := h
      exact hlt
    zero := fun w => by
      refine ⟨w.heap.size, rfl, rfl, fun k hk => ?_, ?_⟩
      · have : k = w.heap.size := hk
        rw [this]
        simp
      · rw [cell_of_row _ w.heap.size 2 _ _ (0, 0) (heap_alloc_new w _)]
        rfl
    readNil := read_nil
    writeNil := fun i A n c w _ => write_nil i A n c w
    flushNil := flush_nil
    armNil := fun i w => (arm_nil i w).mono (by rintro e w' ⟨rfl, rfl⟩; exact ⟨rfl, Below.refl _ _⟩)
    crashNil := fun A n c w _ => (crash_nil A n c w).mono (by rintro e w' ⟨rfl, rfl⟩; exact ⟨rfl, Below.refl _ _⟩)
    sizeNil := size_nil
    writesNil := writes_nil
    read := fun i w F p h => by
      obtain ⟨b, rfl, hF, hlt, hc⟩ := h
      exact read_no i hc
    write := fun i A n c w F p h _ => by
      obtain ⟨b, rfl, hF, hlt, hc⟩ := h
      exact write_no i A n c hc
    flush := fun w F p h => by
      obtain ⟨b, rfl, hF, hlt, hc⟩ := h
      exact flush_no hc
    arm := fun i w F p h => by
      have h0 := h
      obtain ⟨b, rfl, hF, hlt, hc⟩ := h
      refine (arm_no i hc).mono ?_
      rintro e w' ⟨rfl, rfl⟩
      exact ⟨rfl, h0, Touch.refl _ _⟩
    crash := fun A n c w F p h _ => by
      have h0 := h
      obtain ⟨b, rfl, hF, hlt, hc⟩ := h
      refine (crash_no A n c hc).mono ?_
      rintro e w' ⟨rfl, rfl⟩
      exact ⟨rfl, h0, Touch.refl _ _⟩
    pending := fun w F p h => by
      obtain ⟨b, rfl, hF, hlt, hc⟩ := h
      exact pending_no hc
    down := fun w F p h => by
      obtain ⟨b, rfl, hF, hlt, hc⟩ := h
      exact down_no hc }

end Go.Proofs.Ytkpopdoigkcpgaa
