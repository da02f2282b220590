/-
  Contracts of Known, Asks (the program's and the document's), of bit; append of a text behind a writing's bytes. No condition but a text's length.
-/
import Derived.Test.YtombdkebjbhacaaCmdA
namespace Go.Proofs.Ytombdkebjbhacaa
open Go.RowKit
set_option maxRecDepth 100000
set_option linter.unusedVariables false

theorem known_any (k : Int) (w : World) : Calls Try.prog 11 #[.int .i64 k] w fun e w' => e = .returned (.bool (knownB k)) ∧ w = w' := by
  unfold knownB
  by_cases h1 : 1 ≤ k
  · by_cases h2 : k ≤ 20
    · rw [decide_eq_true (⟨h1, h2⟩ : 1 ≤ k ∧ k ≤ 20)]
      go_enter Try.func11, Try.ntmps11
      go_wp2
      go_ret
      exact ⟨rfl, rfl⟩
    · rw [decide_eq_false (fun h => h2 h.2 : ¬ (1 ≤ k ∧ k ≤ 20))]
      go_enter Try.func11, Try.ntmps11
      go_wp2
      go_ret
      exact ⟨rfl, rfl⟩
  · rw [decide_eq_false (fun h => h1 h.1 : ¬ (1 ≤ k ∧ k ≤ 20))]
    go_enter Try.func11, Try.ntmps11
    go_wp2
    go_ret
    exact ⟨rfl, rfl⟩
theorem rKnown_any (k : Int) (w : World) : Calls Try.prog 12 #[.int .i64 k] w fun e w' => e = .returned (.bool (knownB k)) ∧ w = w' := by
  unfold knownB
  by_cases h1 : 1 ≤ k
  · by_cases h2 : k ≤ 20
    · rw [decide_eq_true (⟨h1, h2⟩ : 1 ≤ k ∧ k ≤ 20)]
      go_enter Try.func12, Try.ntmps12
      go_wp2
      go_ret
      exact ⟨rfl, rfl⟩
    · rw [decide_eq_false (fun h => h2 h.2 : ¬ (1 ≤ k ∧ k ≤ 20))]
      go_enter Try.func12, Try.ntmps12
      go_wp2
      go_ret
      exact ⟨rfl, rfl⟩
  · rw [decide_eq_false (fun h => h1 h.1 : ¬ (1 ≤ k ∧ k ≤ 20))]
    go_enter Try.func12, Try.ntmps12
    go_wp2
    go_ret
    exact ⟨rfl, rfl⟩
theorem asks_any (k : Int) (w : World) : Calls Try.prog 13 #[.int .i64 k] w fun e w' => e = .returned (.bool (asksB k)) ∧ w = w' := by
  unfold asksB
  by_cases h1 : 14 ≤ k
  · by_cases h2 : k ≤ 20
    · rw [decide_eq_true (⟨h1, h2⟩ : 14 ≤ k ∧ k ≤ 20)]
      go_enter Try.func13, Try.ntmps13
      go_wp2
      go_ret
      exact ⟨rfl, rfl⟩
    · rw [decide_eq_false (fun h => h2 h.2 : ¬ (14 ≤ k ∧ k ≤ 20))]
      go_enter Try.func13, Try.ntmps13
      go_wp2
      go_ret
      exact ⟨rfl, rfl⟩
  · rw [decide_eq_false (fun h => h1 h.1 : ¬ (14 ≤ k ∧ k ≤ 20))]
    go_enter Try.func13, Try.ntmps13
    go_wp2
    go_ret
    exact ⟨rfl, rfl⟩
theorem rAsks_any (k : Int) (w : World) : Calls Try.prog 14 #[.int .i64 k] w fun e w' => e = .returned (.bool (asksB k)) ∧ w = w' := by
  unfold asksB
  by_cases h1 : 14 ≤ k
  · by_cases h2 : k ≤ 20
    · rw [decide_eq_true (⟨h1, h2⟩ : 14 ≤ k ∧ k ≤ 20)]
      go_enter Try.func14, Try.ntmps14
      go_wp2
      go_ret
      exact ⟨rfl, rfl⟩
    · rw [decide_eq_false (fun h => h2 h.2 : ¬ (14 ≤ k ∧ k ≤ 20))]
      go_enter Try.func14, Try.ntmps14
      go_wp2
      go_ret
      exact ⟨rfl, rfl⟩
  · rw [decide_eq_false (fun h => h1 h.1 : ¬ (14 ≤ k ∧ k ≤ 20))]
    go_enter Try.func14, Try.ntmps14
    go_wp2
    go_ret
    exact ⟨rfl, rfl⟩
theorem bit_any (b : Bool) (w : World) : Calls Try.prog 22 #[.bool b] w fun e w' => e = .returned (.int .i64 (ab1 b)) ∧ w = w' := by
  cases b <;>
  · go_enter Try.func22, Try.ntmps22
    go_wp2
    go_ret
    exact ⟨rfl, rfl⟩

theorem strCells_sb (s : ByteArray) : Lib.strCells s = (sb s).map (Value.int .u8) := by
  unfold Lib.strCells sb
  simp
/-- A text appended to the writing's bytes, as a step. -/
theorem str_step {w : World} {g : Nat} {v : Value} {l : List Int} {z : Bool} (h : WrAt w g v l z) (s : ByteArray) (hk : l.length + s.size ≤ 1000000) (ty : TypeId) :
    ∃ A' c' w3, (Builtin.append_ #[28, 9] ty #[v, .string s]).run Try.prog w.drew = .ok (.slice A' (l.length + s.size) c') w3 ∧ w3.heap[g]? = w.heap[g]? ∧ WrAt (w3.setCell ⟨g, 0, none⟩ (.slice A' (l.length + s.size) c')) g (.slice A' (l.length + s.size) c') (l ++ sb s) z ∧ Touch (WrF g v) w (w3.setCell ⟨g, 0, none⟩ (.slice A' (l.length + s.size) c')) := by
  obtain ⟨i0, hi, hz0, hz1, hz2⟩ := info_parts info_u8
  have hb : Below w.heap.size w w.drew := (Below.refl _ _).drew
  have h2 := h.below hb
  obtain ⟨v', w3, hrun, ho, hgr, _⟩ := Lib.run_append_own_string (P := Try.prog) (w := w.drew) (g + 1) 28 9 ty 5 i0 Try.underlying28 Try.underlying9 hi hz0 hz1 hz2 v l.length _ h2.own s (by unfold maxLen; omega) (by omega) (by have := h2.lt; omega)
  have hb3 : Below (g + 1) w.drew w3 := (Below.refl _ _).grown hgr (by have := h2.lt; omega) (fun k hk => (row_lt h2.own k hk).1)
  have hg3 := (hb3.block g (Nat.lt_succ_self g)).trans (hb.block g h.lt)
  rw [strCells_sb, ← List.map_append] at ho
  obtain ⟨A', c', rfl, _⟩ := own_shape ho
  refine ⟨A', c', w3, hrun, hg3, h.setV (by rw [List.length_append, sb_length]; exact ho) hg3 (h.byt.append (sb_bytes s)), ?_⟩
  refine touch_set ⟨hb3.os.trans hb.os, hb3.tape.trans hb.tape, hb3.output.trans hb.output, Nat.le_trans hb.size hb3.size, fun k hk hn => ?_⟩ (.inl rfl) 0 _
  have hne : v.ownBlock ≠ some k := fun e => hn (.inr e)
  exact (hgr.block k (Nat.lt_of_lt_of_le hk hb.size) (fun e => hne e.symm)).trans (hb.block k hk)
end Go.Proofs.Ytombdkebjbhacaa
