/-
  Two lines compared, and the library's slices.Equal over lines. Condition: slices of any length that memory has.
-/
import Derived.Test.YtombdkebjbhacaaLinA
import Derived.BigQuiet
import Derived.Laws.StructEq
namespace Go.Proofs.Ytombdkebjbhacaa
open Go.RowKit Go.Maps
set_option maxRecDepth 100000
set_option linter.unusedVariables false

theorem below_drewL {B : Nat} {w w' : World} (h : Below B w w') : ∀ n, Below B w (w'.drewN n) := fun n => ⟨h.os, h.tape, h.output, h.size, h.block⟩
theorem ln_ext {x y : Ln} (h1 : x.f = y.f) (h2 : x.o = y.o) (h3 : x.n = y.n) (h4 : x.a = y.a) : x = y := by
  cases x; cases y; simp_all
instance lnDec : DecidableEq Ln := fun x y =>
  if h : x.f = y.f ∧ x.o = y.o ∧ x.n = y.n ∧ x.a = y.a then isTrue (ln_ext h.1 h.2.1 h.2.2.1 h.2.2.2) else isFalse fun e => h (by rw [e]; exact ⟨rfl, rfl, rfl, rfl⟩)

/-- Two lines compared, as the program compares them. -/
theorem same_line (x y : Ln) (W : World) : (Op.equalIn 10000 42 (.agg #[.int .i64 x.f, .int .i64 x.o, .int .i64 x.n, .int .i64 x.a]) (.agg #[.int .i64 y.f, .int .i64 y.o, .int .i64 y.n, .int .i64 y.a])).run Try.prog W = .ok (decide (x = y)) W := by
  have u3 := Try.underlying3
  have a3 := Try.isAgg3
  have z3 := Try.sizeOf3
  have hS : Try.prog.underlying 42 = some (.struct (Try.prog.fieldsOf 42)) := by kernel_rfl
  have hp : Try.prog.stoodInHeld 42 = false := by kernel_rfl
  have hd : decide (x = y) = (x.f == y.f && x.o == y.o && x.n == y.n && x.a == y.a) := by
    by_cases e : x = y
    · subst e; simp
    · have : ¬ (x.f = y.f ∧ x.o = y.o ∧ x.n = y.n ∧ x.a = y.a) := fun h => e (ln_ext h.1 h.2.1 h.2.2.1 h.2.2.2)
      rw [decide_eq_false e, Eq.comm, Bool.eq_false_iff]
      intro h
      simp only [Bool.and_eq_true, beq_iff_eq] at h
      exact this ⟨h.1.1.1, h.1.1.2, h.1.2, h.2⟩
  rw [hd, show (10000 : Nat) = 9999 + 1 from rfl, run_equalIn_agg W 9999 42 _ _ hS hp]
  simp only [Program.fieldsOf, Try.underlying42]
  go_simp
  by_cases h1 : x.f = y.f <;> by_cases h2 : x.o = y.o <;> by_cases h3 : x.n = y.n <;> by_cases h4 : x.a = y.a <;> simp [h1, h2, h3, h4]

section
variable {w w' : World} {A A' : Option Addr} {n m k B B' : Nat} {l l' : List Ln}
set_option maxHeartbeats 1600000 in
theorem EqualLn_any (c d : Nat) (hr : RL w B A n l) (hr' : RL w B' A' m l') (hm : n ≤ maxLen) (hm' : m ≤ maxLen) (hB : B ≤ w.heap.size) (hB' : B' ≤ w.heap.size) :
    Calls Try.prog 26 #[.slice A n c, .slice A' m d] w fun e w' => e = .returned (.bool (decide (l = l'))) ∧ Below w.heap.size w w' := by
  unfold maxLen at hm hm'
  have hlen := hr.len
  have hlen' := hr'.len
  have HR := Lib.hid (And.intro hr hr')
  clear hr hr'
  by_cases hnm : n = m
  · subst hnm
    have hne : ((n : Int) != (n : Int)) = false := by simp
    go_enter Try.func26, Try.ntmps26
    go_wp2
    go_loopw [13] (fun i wr => ∃ k : Nat, k ≤ n ∧ i = .int .i64 k ∧ Hid (∀ j, j < k → l[j]? = l'[j]?) ∧ Below w.heap.size w wr) (fun i _ => n - (intOf i).toNat)
    case atStart => exact ⟨0, Nat.zero_le _, rfl, Lib.hid (fun j hj => absurd hj (by omega)), Below.refl _ _⟩
    case round =>
      obtain ⟨k, hk, rfl, hbef, hbw⟩ := hrel
      by_cases hlt : k < n
      · obtain ⟨x, hx⟩ : ∃ x, l[k]? = some x := ⟨_, List.getElem?_eq_getElem (by omega)⟩
        obtain ⟨y, hy⟩ : ∃ y, l'[k]? = some y := ⟨_, List.getElem?_eq_getElem (by omega)⟩
        obtain ⟨b, off, rfl, hb, hcell⟩ := HR.out.1.2.2 (by omega)
        obtain ⟨b', off', rfl, hb', hcell'⟩ := HR.out.2.2.2 (by omega)
        obtain ⟨c0, c1, c2, c3⟩ := (hcell k x hx).keep hb (fun b o hbb => hbw.cell (p := ⟨b, o, none⟩) (Nat.lt_of_lt_of_le hbb hB))
        obtain ⟨d0, d1, d2, d3⟩ := (hcell' k y hy).keep hb' (fun b o hbb => hbw.cell (p := ⟨b, o, none⟩) (Nat.lt_of_lt_of_le hbb hB'))
        have HXY := Lib.hid (And.intro hx hy)
        have HBW := Lib.hid hbw
        clear hcell hcell' hx hy hbw
        have hlt' : (k : Int) < (n : Int) := by omega
        have hcmp := same_line x y
        by_cases hv : x = y
        · have hn := Lib.hid (fun j (hj : j < k + 1) => show l[j]? = l'[j]? by
            rcases Nat.lt_or_ge j k with h | h
            · exact hbef.out j h
            · obtain rfl : j = k := by omega
              rw [HXY.out.1, HXY.out.2, hv])
          rw [decide_eq_true hv] at hcmp
          obtain ⟨xf, xo, xn, xa⟩ := x
          obtain ⟨yf, yo, yn, ya⟩ := y
          simp only at c0 c1 c2 c3 d0 d1 d2 d3 hcmp
          clear hv
          go_wp2_with fail
          go_quiet (fail)
          go_wp2
          go_roundw
          case rel => exact ⟨k + 1, by omega, by go_num, hn, below_drewL HBW.out _⟩
          case measure => simp [intOf]; omega
        · have hd := Lib.hid (show decide (l = l') = false by
            have : ¬ l = l' := fun e => hv (by
              have h1 := HXY.out.1
              rw [e, HXY.out.2] at h1
              exact (Option.some.inj h1).symm)
            simpa using this)
          rw [decide_eq_false hv] at hcmp
          obtain ⟨xf, xo, xn, xa⟩ := x
          obtain ⟨yf, yo, yn, ya⟩ := y
          simp only at c0 c1 c2 c3 d0 d1 d2 d3 hcmp
          clear hv
          go_wp2_with fail
          go_quiet (fail)
          go_wp2
          go_ret
          rw [hd.out]
          exact ⟨rfl, below_drewL HBW.out _⟩
      · obtain rfl : k = n := by omega
        have hd := Lib.hid (show decide (l = l') = true by
          have : l = l' := List.ext_getElem? fun j => by
            rcases Nat.lt_or_ge j k with h | h
            · exact hbef.out j h
            · rw [List.getElem?_eq_none (by omega), List.getElem?_eq_none (by omega)]
          simpa using this)
        go_wp2
        go_ret
        rw [hd.out]
        exact ⟨rfl, hbw⟩
  · have hne : ((n : Int) != (m : Int)) = true := by simp; omega
    have hd : decide (l = l') = false := by
      have : ¬ l = l' := fun e => hnm (by rw [← hlen, ← hlen', e])
      simpa using this
    rw [hd]
    clear hd hnm
    go_enter Try.func26, Try.ntmps26
    go_wp2
    go_ret
    exact ⟨rfl, Below.refl _ _⟩
end
end Go.Proofs.Ytombdkebjbhacaa
