/-
  Contracts of code.number, code.Parse (by the library's contract of strings.Cut) and of the plain Parse: for every text of a length that is an int's they answer what the text tells; nothing that was there is written. Condition: what the library's variable for short strings holds is an int.
-/
import Derived.Test.YtlamngpodomknaaDoorCodA
namespace Go.Proofs.YtlamngpodomknaaDoor
open Go.RowKit
set_option maxRecDepth 100000
set_option linter.unusedVariables false

theorem valI_bound : ∀ (k : Nat) (l : List UInt8), l.length = k → -6 * ((10 ^ k : Nat) : Int) + 6 ≤ valI l ∧ valI l ≤ 30 * ((10 ^ k : Nat) : Int) - 30 := by
  intro k
  induction k with
  | zero =>
    intro l hl
    obtain rfl : l = [] := List.eq_nil_of_length_eq_zero hl
    decide
  | succ k ih =>
    intro l hl
    obtain ⟨m, c, rfl⟩ : ∃ m c, l = m ++ [c] := ⟨l.dropLast, l.getLast (by intro e; subst e; simp at hl), (List.dropLast_concat_getLast _).symm⟩
    have h := ih m (by simpa using hl)
    have hc := c.toNat_lt
    rw [valI_snoc]
    have e : ((10 ^ (k + 1) : Nat) : Int) = 10 * ((10 ^ k : Nat) : Int) := by rw [Nat.pow_succ]; generalize 10 ^ k = q; omega
    rw [e]
    generalize ((10 ^ k : Nat) : Int) = p at h ⊢
    omega
theorem valI_small {l : List UInt8} {k : Nat} (hl : l.length = k) (hk : k ≤ 8) : -600000000 ≤ valI l ∧ valI l ≤ 3000000000 := by
  have h := valI_bound k l hl
  have hp : (10 ^ k : Nat) ≤ 100000000 := Nat.le_trans (Nat.pow_le_pow_right (by decide) hk) (by decide)
  generalize (10 ^ k : Nat) = p at h hp
  omega
theorem take_one (s : ByteArray) (k : Nat) (h : k < s.size) : s.data.toList.take (k + 1) = s.data.toList.take k ++ [s[k]] := by
  have h' : k < s.data.toList.length := by rw [Array.length_toList]; exact h
  rw [List.take_add_one, List.getElem?_eq_getElem h']
  rfl
theorem not_all {l : List UInt8} {k : Nat} {x : UInt8} (h : l.take (k + 1) = l.take k ++ [x]) (hx : isDig x = false) : l.all isDig = false := by
  rw [← List.take_append_drop (k + 1) l, h]
  simp [hx]

set_option maxHeartbeats 800000 in
theorem number_any (s : ByteArray) (d : Nat) (hd : d ≤ 8) (hs : s.size ≤ maxLen) (w : World) :
    Calls Tryd.prog 34 #[.string s, .int .i64 d] w fun e w' => e = .returned (.int .i64 (numL s.data.toList d)) ∧ w = w' := by
  unfold maxLen at hs
  by_cases hl : s.size = d
  · have c1 : ((s.size : Int) == (d : Int)) = true := by simp; omega
    go_enter Tryd.func34, Tryd.ntmps34
    go_wp2
    go_loop [5, 13] (fun v i => ∃ k : Nat, k ≤ d ∧ i = .int .i64 k ∧ v = .int .i64 (valI (s.data.toList.take k)) ∧ Hid ((s.data.toList.take k).all isDig = true)) (fun _ i => d - (intOf i).toNat)
    case atStart => exact ⟨0, Nat.zero_le _, rfl, rfl, Lib.hid rfl⟩
    case round =>
      obtain ⟨k, hk, rfl, rfl, H⟩ := hrel
      by_cases hlt : k < d
      · have hT := take_one s k (by omega)
        have hB := valI_small (l := s.data.toList.take k) (k := k) (by simp; omega) (by omega)
        obtain ⟨x, hx⟩ : ∃ x, s[k]'(by omega) = x := ⟨_, rfl⟩
        rw [hx] at hT
        have hV := valI_snoc (s.data.toList.take k) x
        rw [← hT] at hV
        have hall := H.out
        obtain ⟨c, hc⟩ : ∃ c, (x.toNat : Int) = c := ⟨_, rfl⟩
        have hcb : 0 ≤ c ∧ c < 256 := by have := x.toNat_lt; omega
        cases hdig : isDig x
        · have hN := Lib.hid (show numL s.data.toList d = 0 by
            unfold numL
            rw [if_neg (by rw [not_all hT hdig]; intro h; cases h.2)])
          have hcd : c < 48 ∨ 57 < c := by
            unfold isDig at hdig
            simp at hdig
            omega
          clear hV hT hB hall hdig
          generalize valI (s.data.toList.take k) = v
          rcases hcd with hcd | hcd
          · have d1 : decide (c < 48) = true := by simp; omega
            clear hcb hcd
            go_wp2
            go_ret
            rw [hN.out]
            exact ⟨rfl, rfl⟩
          · have d1 : decide (c < 48) = false := by simp; omega
            have d2 : decide (57 < c) = true := by simp; omega
            clear hcb hcd
            go_wp2
            go_ret
            rw [hN.out]
            exact ⟨rfl, rfl⟩
        · have hcd : 48 ≤ c ∧ c ≤ 57 := by
            unfold isDig at hdig
            simp at hdig
            omega
          have HA := Lib.hid (show (s.data.toList.take (k + 1)).all isDig = true by rw [hT]; simp [hall, hdig])
          rw [hc] at hV
          have HV := Lib.hid hV
          clear hV hT hall hdig
          have d1 : decide (c < 48) = false := by simp; omega
          have d2 : decide (57 < c) = false := by simp; omega
          generalize valI (s.data.toList.take k) = v at hB HV
          obtain ⟨y, hy⟩ : ∃ y, c - 48 = y := ⟨_, rfl⟩
          have w1 : IntKind.u8.wrap (c - 48) = y := by rw [IntKind.wrap_u8]; omega
          have w4 : IntKind.i64.wrap y = y := by rw [IntKind.wrap_i64]; omega
          obtain ⟨z, hz⟩ : ∃ z, 10 * v = z := ⟨_, rfl⟩
          have w2 : IntKind.i64.wrap (10 * v) = z := by rw [IntKind.wrap_i64]; omega
          obtain ⟨t, ht⟩ : ∃ t, z + y = t := ⟨_, rfl⟩
          have w3 : IntKind.i64.wrap (z + y) = t := by rw [IntKind.wrap_i64]; omega
          have E := Lib.hid (show t = valI (s.data.toList.take (k + 1)) by rw [HV.out]; omega)
          clear hy hz ht hcb hcd hB HV
          go_wp2
          go_round
          case rel => exact ⟨k + 1, by omega, by go_num, by rw [← E.out], HA⟩
          case measure => simp [intOf]; omega
      · obtain rfl : k = d := by omega
        have hN := Lib.hid (show numL s.data.toList k = valI (s.data.toList.take k) by
          have e : s.data.toList.take k = s.data.toList := List.take_of_length_le (by rw [Array.length_toList]; exact Nat.le_of_eq hl)
          have hall := H.out
          rw [e] at hall ⊢
          unfold numL
          rw [if_pos ⟨by rw [Array.length_toList]; exact hl, hall⟩])
        generalize valI (s.data.toList.take k) = v at hN
        go_wp2
        go_ret
        rw [hN.out]
        exact ⟨rfl, rfl⟩
  · have c1 : ((s.size : Int) == (d : Int)) = false := by simp; omega
    go_enter Tryd.func34, Tryd.ntmps34
    go_wp2
    go_ret
    unfold numL
    rw [if_neg (by rw [Array.length_toList]; exact fun h => hl h.1)]
    exact ⟨rfl, rfl⟩

/-- What the library's variable for short strings holds is an int. -/
def MaxL (w : World) : Prop := ∃ m, w.cell? ⟨0, 0, none⟩ = some (.int .i64 m)
theorem MaxL.below {w w' : World} (h : MaxL w) (hb : Below w.heap.size w w') : MaxL w' := by
  obtain ⟨m, hm⟩ := h
  exact ⟨m, (hb.cell (p := ⟨0, 0, none⟩) (World.block_lt_of_cell? _ _ hm)).trans hm⟩

theorem cut_sizes (s : ByteArray) : (⟨(Lib.cut s.data.toList [46]).1.toArray⟩ : ByteArray).size ≤ s.size ∧ (⟨(Lib.cut s.data.toList [46]).2.1.toArray⟩ : ByteArray).size ≤ s.size := by
  unfold Lib.cut
  split
  · refine ⟨?_, ?_⟩
    · show (List.toArray _).size ≤ s.data.size
      simp
      omega
    · show (List.toArray _).size ≤ s.data.size
      simp
  · refine ⟨?_, ?_⟩
    · show (List.toArray _).size ≤ s.data.size
      simp
    · show (List.toArray _).size ≤ s.data.size
      simp

set_option maxHeartbeats 800000 in
theorem parse_any (s : ByteArray) (hs : s.size ≤ 300) (w : World) (hx : MaxL w) :
    Calls Tryd.prog 19 #[.string s] w fun e w' => e = .returned (.tuple #[.int .i64 (parseC s.data.toList).1, .int .i64 (parseC s.data.toList).2.1, .bool (parseC s.data.toList).2.2]) ∧ Below w.heap.size w w' := by
  obtain ⟨m, hm⟩ := hx
  obtain ⟨z1, z2⟩ := cut_sizes s
  have hcut := Any.strings_Cut Tryd.laysCut s ⟨#[46]⟩ m w (by omega) hm
  have hc2 : Calls Tryd.prog 33 #[.string s, .string ⟨#[46]⟩] w fun e w' => e = .returned (.tuple #[.string ⟨(Lib.cut s.data.toList [46]).1.toArray⟩, .string ⟨(Lib.cut s.data.toList [46]).2.1.toArray⟩, .bool (Lib.cut s.data.toList [46]).2.2]) ∧ ∃ n, w' = w.drewN n := hcut
  clear hcut
  have hp : parseC s.data.toList = if (fundB (numL (Lib.cut s.data.toList [46]).1 3) && objB (numL (Lib.cut s.data.toList [46]).2.1 4)) = true then (numL (Lib.cut s.data.toList [46]).1 3, numL (Lib.cut s.data.toList [46]).2.1 4, true) else (0, 0, false) := rfl
  rw [hp]
  clear hp
  have n1 := fun w => number_any ⟨(Lib.cut s.data.toList [46]).1.toArray⟩ 3 (by omega) (by unfold maxLen; omega) w
  have n2 := fun w => number_any ⟨(Lib.cut s.data.toList [46]).2.1.toArray⟩ 4 (by omega) (by unfold maxLen; omega) w
  simp only [] at n1 n2
  generalize Lib.cut s.data.toList [46] = c at hc2 n1 n2 ⊢
  obtain ⟨c1, c2, c3⟩ := c
  simp only at hc2 n1 n2 ⊢
  generalize numL c1 3 = f at n1 ⊢
  generalize numL c2 4 = o at n2 ⊢
  generalize (⟨c1.toArray⟩ : ByteArray) = x1 at hc2 n1
  generalize (⟨c2.toArray⟩ : ByteArray) = x2 at hc2 n2
  clear z1 z2 hm
  cases hf : fundB f
  · simp only [Bool.false_and, Bool.false_eq_true, if_false]
    go_enter Tryd.func19, Tryd.ntmps19
    go_wp2_with fail
    refine hc2.mono ?_
    rintro e w' ⟨rfl, n, rfl⟩
    go_wp2_with fail
    refine (n1 _).mono ?_; rintro e w' ⟨rfl, rfl⟩
    go_wp2_with fail
    refine (n2 _).mono ?_; rintro e w' ⟨rfl, rfl⟩
    go_wp2_with fail
    refine (fund_any _ _).mono ?_; rw [hf]; rintro e w' ⟨rfl, rfl⟩
    go_wp2_with fail
    go_ret3
    exact ⟨rfl, rfl, rfl, rfl, Nat.le_refl _, fun _ _ => rfl⟩
  · cases ho : objB o
    · simp only [Bool.and_false, Bool.false_eq_true, if_false]
      go_enter Tryd.func19, Tryd.ntmps19
      go_wp2_with fail
      refine hc2.mono ?_
      rintro e w' ⟨rfl, n, rfl⟩
      go_wp2_with fail
      refine (n1 _).mono ?_; rintro e w' ⟨rfl, rfl⟩
      go_wp2_with fail
      refine (n2 _).mono ?_; rintro e w' ⟨rfl, rfl⟩
      go_wp2_with fail
      refine (fund_any _ _).mono ?_; rw [hf]; rintro e w' ⟨rfl, rfl⟩
      go_wp2_with fail
      refine (obj_any _ _).mono ?_; rw [ho]; rintro e w' ⟨rfl, rfl⟩
      go_wp2_with fail
      go_ret3
      exact ⟨rfl, rfl, rfl, rfl, Nat.le_refl _, fun _ _ => rfl⟩
    · simp only [Bool.and_self, if_true]
      go_enter Tryd.func19, Tryd.ntmps19
      go_wp2_with fail
      refine hc2.mono ?_
      rintro e w' ⟨rfl, n, rfl⟩
      go_wp2_with fail
      refine (n1 _).mono ?_; rintro e w' ⟨rfl, rfl⟩
      go_wp2_with fail
      refine (n2 _).mono ?_; rintro e w' ⟨rfl, rfl⟩
      go_wp2_with fail
      refine (fund_any _ _).mono ?_; rw [hf]; rintro e w' ⟨rfl, rfl⟩
      go_wp2_with fail
      refine (obj_any _ _).mono ?_; rw [ho]; rintro e w' ⟨rfl, rfl⟩
      go_wp2_with fail
      go_ret3
      exact ⟨rfl, rfl, rfl, rfl, Nat.le_refl _, fun _ _ => rfl⟩

end Go.Proofs.YtlamngpodomknaaDoor
