/-
  Contract of the plain Cmds over commands in a slice. Condition: the commands lie in memory.
-/
import Derived.Test.YtombdkebjbhacaaCmdE
import Derived.BigQuiet
namespace Go.Proofs.Ytombdkebjbhacaa
open Go.RowKit Go.Maps
set_option maxRecDepth 100000
set_option linter.unusedVariables false

/-- A command is long. -/
def longC (x : Cm) : Bool := decide (100 < x.nm.size) || decide (20 < x.ls.length)
theorem long_any (x : Cm) (A : Option Addr) (c : Nat) (w : World) : Calls Try.prog 20 #[.agg (cmC x (.slice A x.ls.length c))] w fun e w' => e = .returned (.bool (longC x)) ∧ Below w.heap.size w w' := by
  obtain ⟨w1, hw1⟩ : ∃ w1, w1 = w.alloc (.cells (cmC x (.slice A x.ls.length c)) 24) := ⟨_, rfl⟩
  have b1 : Below w.heap.size w w1 := by rw [hw1]; exact (Below.refl _ _).alloc (Nat.le_refl _) _
  have m1 : CmAt w1 w.heap.size x (.slice A x.ls.length c) := by rw [hw1]; exact heap_alloc_new w _
  have c11 := m1.cells.2.2.2.2.2.2.2.2.2.2.2.1
  have c12 := m1.cells.2.2.2.2.2.2.2.2.2.2.2.2
  rw [hw1] at c11 c12
  unfold longC
  by_cases h1 : 100 < x.nm.size
  · rw [decide_eq_true h1]
    have h1' : (100 : Int) < (x.nm.size : Int) := by omega
    go_enter Try.func20, Try.ntmps20
    go_wp2_with fail
    go_ret
    exact ⟨rfl, by rw [← hw1]; exact b1⟩
  · rw [decide_eq_false h1]
    have h1' : ¬ (100 : Int) < (x.nm.size : Int) := by omega
    by_cases h2 : 20 < x.ls.length
    · rw [decide_eq_true h2]
      have h2' : (20 : Int) < (x.ls.length : Int) := by omega
      go_enter Try.func20, Try.ntmps20
      go_wp2_with fail
      go_ret
      exact ⟨rfl, by rw [← hw1]; exact b1⟩
    · rw [decide_eq_false h2]
      have h2' : ¬ (20 : Int) < (x.ls.length : Int) := by omega
      go_enter Try.func20, Try.ntmps20
      go_wp2_with fail
      go_ret
      exact ⟨rfl, by rw [← hw1]; exact b1⟩
/-- Commands in a row. -/
def CmsAt (w : World) (b : Nat) (l : List (Cm × Option Addr × Nat)) : Prop := ∀ (i : Nat) x A c, l[i]? = some (x, A, c) → ∀ (k : Nat) v, (cmL x (.slice A x.ls.length c))[k]? = some v → w.cell? ⟨b, i * 13 + k, none⟩ = some v
set_option maxHeartbeats 1600000 in
theorem index_any (w : World) (b : Nat) (l : List (Cm × Option Addr × Nat)) (n : Nat) (hn : l.length = n) (hm : n ≤ 100) (hb : b < w.heap.size) (h : CmsAt w b l) :
    Calls Try.prog 29 #[.slice (some ⟨b, 0, none⟩) n n, .func (.func 20) #[] #[]] w fun e w' => (∃ r : Int, e = .returned (.int .i64 r) ∧ (decide (0 ≤ r) = l.any fun p => longC p.1)) ∧ Below w.heap.size w w' := by
  have HC := Lib.hid h
  clear h
  go_enter Try.func29, Try.ntmps29
  go_wp2_with fail
  go_loopw [8] (fun i wr => ∃ j : Nat, j ≤ n ∧ i = .int .i64 j ∧ Hid (∀ p ∈ l.take j, longC p.1 = false) ∧ Hid (Below w.heap.size w wr)) (fun i _ => n - (intOf i).toNat)
  case atStart => exact ⟨0, Nat.zero_le _, rfl, Lib.hid (fun p hp => by simp at hp), Lib.hid (Below.refl _ _)⟩
  case round =>
    obtain ⟨j, hj, rfl, hbef, hbw'⟩ := hrel
    by_cases hlt : j < n
    · obtain ⟨⟨x, A, c⟩, hx⟩ : ∃ p, l[j]? = some p := ⟨_, List.getElem?_eq_getElem (by omega)⟩
      have hbw := hbw'.out
      have q0 := (HC.out j x A c hx 0 _ rfl)
      have q0 := (hbw.cell (p := ⟨b, j * 13 + 0, none⟩) hb).trans q0
      have q1 := (HC.out j x A c hx 1 _ rfl)
      have q1 := (hbw.cell (p := ⟨b, j * 13 + 1, none⟩) hb).trans q1
      have q2 := (HC.out j x A c hx 2 _ rfl)
      have q2 := (hbw.cell (p := ⟨b, j * 13 + 2, none⟩) hb).trans q2
      have q3 := (HC.out j x A c hx 3 _ rfl)
      have q3 := (hbw.cell (p := ⟨b, j * 13 + 3, none⟩) hb).trans q3
      have q4 := (HC.out j x A c hx 4 _ rfl)
      have q4 := (hbw.cell (p := ⟨b, j * 13 + 4, none⟩) hb).trans q4
      have q5 := (HC.out j x A c hx 5 _ rfl)
      have q5 := (hbw.cell (p := ⟨b, j * 13 + 5, none⟩) hb).trans q5
      have q6 := (HC.out j x A c hx 6 _ rfl)
      have q6 := (hbw.cell (p := ⟨b, j * 13 + 6, none⟩) hb).trans q6
      have q7 := (HC.out j x A c hx 7 _ rfl)
      have q7 := (hbw.cell (p := ⟨b, j * 13 + 7, none⟩) hb).trans q7
      have q8 := (HC.out j x A c hx 8 _ rfl)
      have q8 := (hbw.cell (p := ⟨b, j * 13 + 8, none⟩) hb).trans q8
      have q9 := (HC.out j x A c hx 9 _ rfl)
      have q9 := (hbw.cell (p := ⟨b, j * 13 + 9, none⟩) hb).trans q9
      have q10 := (HC.out j x A c hx 10 _ rfl)
      have q10 := (hbw.cell (p := ⟨b, j * 13 + 10, none⟩) hb).trans q10
      have q11 := (HC.out j x A c hx 11 _ rfl)
      have q11 := (hbw.cell (p := ⟨b, j * 13 + 11, none⟩) hb).trans q11
      have q12 := (HC.out j x A c hx 12 _ rfl)
      have q12 := (hbw.cell (p := ⟨b, j * 13 + 12, none⟩) hb).trans q12
      have q0 : wr.cell? ⟨b, j * 13, none⟩ = some (.int .i64 x.k) := q0
      have HX := Lib.hid hx
      have HL := Lib.hid (long_any x A c wr)
      unfold cmC at HL
      have hltn : (j : Int) < (n : Int) := by omega
      clear hx hbw
      cases hl : longC x with
      | true =>
        have hj0 : (0 : Int) ≤ (j : Int) := by omega
        have HA := Lib.hid (show decide ((0 : Int) ≤ (j : Int)) = l.any (fun p => longC p.1) by
          rw [decide_eq_true hj0, Eq.comm, List.any_eq_true]
          exact ⟨_, List.mem_of_getElem? HX.out, hl⟩)
        rw [hl] at HL
        go_wp2_with fail
        refine HL.out.mono ?_
        rintro e w2 ⟨rfl, b2⟩
        go_wp2_with fail
        go_ret
        exact ⟨⟨_, rfl, HA.out⟩, hbw'.out.trans (b2.mono hbw'.out.size)⟩
      | false =>
        rw [hl] at HL
        have HN := Lib.hid (show ∀ p ∈ l.take (j + 1), longC p.1 = false from fun p hp => by
          rw [List.take_succ_eq_append_getElem (by omega), List.mem_append] at hp
          rcases hp with hp | hp
          · exact hbef.out p hp
          · obtain ⟨_, e⟩ := List.getElem?_eq_some_iff.1 HX.out
            rw [List.mem_singleton.1 hp, e]; exact hl)
        go_wp2_with fail
        refine HL.out.mono ?_
        rintro e w2 ⟨rfl, b2⟩
        go_wp2_with fail
        have HB2 := Lib.hid (hbw'.out.trans (b2.mono hbw'.out.size))
        go_roundw
        case rel => exact ⟨j + 1, by omega, by go_num, HN, HB2⟩
        case measure => simp [intOf]; omega
    · obtain rfl : j = n := by omega
      have HA := Lib.hid (show decide ((0 : Int) ≤ -1) = l.any (fun p => longC p.1) by
        rw [decide_eq_false (by omega), Eq.comm, Bool.eq_false_iff]
        intro hany
        obtain ⟨p, hp, hl⟩ := List.any_eq_true.1 hany
        rw [hbef.out p (by rw [List.take_of_length_le (by omega)]; exact hp)] at hl
        cases hl)
      have hltn : ¬ (j : Int) < (j : Int) := by omega
      go_wp2_with fail
      go_ret
      exact ⟨⟨_, rfl, HA.out⟩, hbw'.out⟩
theorem cmds_any (w : World) (b : Nat) (l : List (Cm × Option Addr × Nat)) (n : Nat) (hn : l.length = n) (hm : n ≤ 100) (hb : b < w.heap.size) (h : CmsAt w b l) :
    Calls Try.prog 6 #[.slice (some ⟨b, 0, none⟩) n n, .int .i64 (n : Int)] w fun e w' => e = .returned (.bool (!(l.any fun p => longC p.1))) ∧ Below w.heap.size w w' := by
  have HI := Lib.hid (index_any w b l n hn hm hb h)
  have HCF : Hid (Calls Try.prog 19 #[.slice (some ⟨b, 0, none⟩) n n, .func (.func 20) #[] #[]] w fun e w' => e = .returned (.bool (l.any fun p => longC p.1)) ∧ Below w.heap.size w w') := by
    refine Lib.hid ?_
    generalize (l.any fun p => longC p.1) = a at HI ⊢
    go_enter Try.func19, Try.ntmps19
    go_wp2_with fail
    refine HI.out.mono ?_
    rintro e w2 ⟨⟨r, rfl, hr⟩, b2⟩
    have HR := Lib.hid hr
    clear hr
    go_wp2_with fail
    go_ret
    exact ⟨by rw [← HR.out]; rfl, b2⟩
  generalize (l.any fun p => longC p.1) = a at HCF ⊢
  go_enter Try.func6, Try.ntmps6
  go_wp2_with fail
  refine HCF.out.mono ?_
  rintro e w2 ⟨rfl, b2⟩
  go_wp2_with fail
  go_ret
  exact ⟨rfl, b2⟩
end Go.Proofs.Ytombdkebjbhacaa
