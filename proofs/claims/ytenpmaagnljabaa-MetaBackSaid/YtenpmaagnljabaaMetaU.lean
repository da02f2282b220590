/-
  Contract of the plain meta's Same. Condition: lengths and numbers are ints.
-/
import Derived.Test.YtenpmaagnljabaaMetaF
namespace Go.Proofs.Ytenpmaagnljabaa
open Go.RowKit
set_option maxRecDepth 100000
set_option linter.unusedVariables false

set_option maxHeartbeats 6400000 in
theorem refSame_any {w : World} {A A' : Option Addr} {k m cap cap' B : Nat} (d f n c d' f' n' c' : Int) {l l' : List Int} (hr : RI w B A k l) (hr' : RI w B A' m l') (hB : B ≤ w.heap.size) (hk : k ≤ maxLen) (hm : m ≤ maxLen) :
    Calls Try.prog 11 #[.agg #[.int .i64 d, .int .i64 f, .int .i64 n, .int .i64 c, .slice A k cap], .agg #[.int .i64 d', .int .i64 f', .int .i64 n', .int .i64 c', .slice A' m cap']] w fun e w' => e = .returned (.bool (sameB ⟨d, f, n, c, l⟩ ⟨d', f', n', c', l'⟩)) ∧ Below w.heap.size w w' := by
  unfold maxLen at hk hm
  have hlen := hr.len
  have hlen' := hr'.len
  have hX : Below w.heap.size w ((w.alloc (.cells #[.int .i64 d, .int .i64 f, .int .i64 n, .int .i64 c, .slice A k cap] 24)).alloc (.cells #[.int .i64 d', .int .i64 f', .int .i64 n', .int .i64 c', .slice A' m cap'] 24)) := ((Below.refl _ _).alloc (Nat.le_refl _) _).alloc (by simp) _
  have hbA := MBox.five w d f n c d' f' n' c' (.slice A k cap) (.slice A' m cap')
  have hbB : MBox ((w.alloc (.cells #[.int .i64 d, .int .i64 f, .int .i64 n, .int .i64 c, .slice A k cap] 24)).alloc (.cells #[.int .i64 d', .int .i64 f', .int .i64 n', .int .i64 c', .slice A' m cap'] 24)) (w.heap.size + 1) d' f' n' c' (.slice A' m cap') := by
    have := heap_alloc_new (w.alloc (.cells #[.int .i64 d, .int .i64 f, .int .i64 n, .int .i64 c, .slice A k cap] 24)) (.cells #[.int .i64 d', .int .i64 f', .int .i64 n', .int .i64 c', .slice A' m cap'] 24)
    show (World.alloc _ _).heap[w.heap.size + 1]? = _
    simpa using this
  have hrX := hr.below (hX.mono hB)
  have hrX' := hr'.below (hX.mono hB)
  have hBX := Nat.le_trans hB hX.size
  have hs : sameB ⟨d, f, n, c, l⟩ ⟨d', f', n', c', l'⟩ = (decide (d = d') && decide (f = f') && decide (n = n') && decide (c = c') && decide (l = l')) := rfl
  rw [hs]
  obtain ⟨a0, a1, a2, a3, a4, hla⟩ := hbA.cells
  obtain ⟨b0, b1, b2, b3, b4, hlb⟩ := hbB.cells
  have HX := Lib.hid hX
  clear hs hX hr hr' hbA hbB
  by_cases e0 : d = d'
  case neg =>
    have k0 : (d != d') = true := by simpa using e0
    have hf : (decide (d = d') && decide (f = f') && decide (n = n') && decide (c = c') && decide (l = l')) = false := by simp [e0]
    rw [hf]
    clear hf e0
    go_enter Try.func11, Try.ntmps11
    go_wp2
    go_ret
    exact ⟨rfl, HX.out⟩
  subst e0
  by_cases e1 : f = f'
  case neg =>
    have k1 : (f != f') = true := by simpa using e1
    have hf : (decide (d = d) && decide (f = f') && decide (n = n') && decide (c = c') && decide (l = l')) = false := by simp [e1]
    rw [hf]
    clear hf e1
    go_enter Try.func11, Try.ntmps11
    go_wp2
    go_ret
    exact ⟨rfl, HX.out⟩
  subst e1
  by_cases e2 : n = n'
  case neg =>
    have k2 : (n != n') = true := by simpa using e2
    have hf : (decide (d = d) && decide (f = f) && decide (n = n') && decide (c = c') && decide (l = l')) = false := by simp [e2]
    rw [hf]
    clear hf e2
    go_enter Try.func11, Try.ntmps11
    go_wp2
    go_ret
    exact ⟨rfl, HX.out⟩
  subst e2
  by_cases e3 : c = c'
  case neg =>
    have k3 : (c != c') = true := by simpa using e3
    have hf : (decide (d = d) && decide (f = f) && decide (n = n) && decide (c = c') && decide (l = l')) = false := by simp [e3]
    rw [hf]
    clear hf e3
    go_enter Try.func11, Try.ntmps11
    go_wp2
    go_ret
    exact ⟨rfl, HX.out⟩
  subst e3
  have hd : (decide (d = d) && decide (f = f) && decide (n = n) && decide (c = c) && decide (l = l')) = decide (l = l') := by simp
  rw [hd]
  clear hd
  by_cases e4 : k = m
  case neg =>
    have k4 : ((k : Int) != (m : Int)) = true := by simp; omega
    have hf : decide (l = l') = false := by
      have : ¬ l = l' := fun e => e4 (by rw [← hlen, ← hlen', e])
      simpa using this
    rw [hf]
    clear hf e4
    go_enter Try.func11, Try.ntmps11
    go_wp2
    go_ret
    exact ⟨rfl, HX.out⟩
  subst e4
  go_enter Try.func11, Try.ntmps11
  go_wp2_with fail
  have hsX : ((w.alloc (.cells #[.int .i64 d, .int .i64 f, .int .i64 n, .int .i64 c, .slice A k cap] 24)).alloc (.cells #[.int .i64 d, .int .i64 f, .int .i64 n, .int .i64 c, .slice A' k cap'] 24)).heap.size = w.heap.size + 2 := by simp
  generalize ((w.alloc (.cells #[.int .i64 d, .int .i64 f, .int .i64 n, .int .i64 c, .slice A k cap] 24)).alloc (.cells #[.int .i64 d, .int .i64 f, .int .i64 n, .int .i64 c, .slice A' k cap'] 24)) = X at *
  have HLEN := Lib.hid (And.intro hlen hlen')
  clear hlen hlen' a0 a1 a2 a3 b0 b1 b2 b3
  have HA := Lib.hid (And.intro a4 b4)
  clear a4 b4
  go_loopw [5] (fun i wr => ∃ j : Nat, j ≤ k ∧ i = .int .i64 j ∧ Hid (∀ i, i < j → l[i]?.getD 0 = l'[i]?.getD 0) ∧ Hid (Below X.heap.size X wr)) (fun i _ => k - (intOf i).toNat)
  case atStart => exact ⟨0, Nat.zero_le _, rfl, Lib.hid (fun j hj => absurd hj (by omega)), Lib.hid (Below.refl _ _)⟩
  case round =>
    obtain ⟨j, hj, rfl, hbef, hbw⟩ := hrel
    have a4 := (hbw.out.cell (p := ⟨w.heap.size, 4, none⟩) hla).trans HA.out.1
    have b4 := (hbw.out.cell (p := ⟨w.heap.size + 1, 4, none⟩) hlb).trans HA.out.2
    by_cases hlt : j < k
    · obtain ⟨b, off, rfl, hb, hcell⟩ := hrX.2.2 (by omega)
      obtain ⟨b', off', rfl, hb', hcell'⟩ := hrX'.2.2 (by omega)
      have hck := (hbw.out.cell (p := ⟨b, off + j, none⟩) (Nat.lt_of_lt_of_le hb hBX)).trans (hcell j hlt)
      have hck' := (hbw.out.cell (p := ⟨b', off' + j, none⟩) (Nat.lt_of_lt_of_le hb' hBX)).trans (hcell' j hlt)
      have hlt' : (j : Int) < (k : Int) := by omega
      clear hcell hcell'
      by_cases hv : l[j]?.getD 0 = l'[j]?.getD 0
      · have hn := Lib.hid (fun i (hi : i < j + 1) => show l[i]?.getD 0 = l'[i]?.getD 0 by
          rcases Nat.lt_or_ge i j with h | h
          · exact hbef.out i h
          · obtain rfl : i = j := by omega
            exact hv)
        have kv : (l[j]?.getD 0 != l'[j]?.getD 0) = false := by simp [hv]
        clear hv
        generalize l[j]?.getD 0 = u at hck kv
        generalize l'[j]?.getD 0 = u' at hck' kv
        go_wp2_with fail
        go_quiet (fail)
        go_wp2
        go_roundw
        case rel => exact ⟨j + 1, by omega, by go_num, hn, Lib.hid (belowI_drewN hbw.out _)⟩
        case measure => simp [intOf]; omega
      · have hd := Lib.hid (show decide (l = l') = false by
          have : ¬ l = l' := fun e => hv (by rw [e])
          simpa using this)
        have kv : (l[j]?.getD 0 != l'[j]?.getD 0) = true := by simpa using hv
        clear hv
        generalize l[j]?.getD 0 = u at hck kv
        generalize l'[j]?.getD 0 = u' at hck' kv
        go_wp2_with fail
        go_quiet (fail)
        go_wp2
        go_ret
        rw [hd.out]
        exact ⟨rfl, HX.out.trans ((belowI_drewN hbw.out _).mono (by omega))⟩
    · obtain rfl : j = k := by omega
      have hd := Lib.hid (show decide (l = l') = true by
        have : l = l' := same_of (by rw [HLEN.out.1, HLEN.out.2]) (fun i hi => hbef.out i (by rw [HLEN.out.1] at hi; exact hi))
        simpa using this)
      go_wp2
      go_ret
      rw [hd.out]
      exact ⟨rfl, HX.out.trans (hbw.out.mono (by omega))⟩

end Go.Proofs.Ytenpmaagnljabaa
