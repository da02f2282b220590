/-
  Contracts of crc.Step, crc.Sum and of the plain Step, Sum: for every sum and byte, and every slice of bytes, they answer the steps bit by bit; nothing is written. Condition: the table that crc.Step reads holds what the program's text lays in it.
-/
import Derived.Test.YtkpopdoigkcpgaaDoorBase
import Derived.Test.YtkpopdoigkcpgaaDoorCrcP
namespace Go.Proofs.YtkpopdoigkcpgaaDoor
open Go.RowKit
set_option linter.unusedVariables false

/-- The table holds what the program's text lays in it. -/
def Tab (w : World) : Prop := ∀ i, i < 16 → w.cell? ⟨0, i, none⟩ = some (.int .u32 ((tab4[i]?.getD 0 : Nat) : Int))
theorem Tab.below {w w' : World} {B : Nat} (h : Tab w) (hb : Below B w w') (hB : 0 < B) : Tab w' := fun i hi => (hb.cell (p := ⟨0, i, none⟩) hB).trans (h i hi)

theorem u32_bits (a b : Nat) (ha : a < 4294967296) (hb : b < 4294967296) : bits .xor .u32 (a : Int) (b : Int) = ((a ^^^ b : Nat) : Int) ∧ bits .and .u32 (a : Int) (b : Int) = ((a &&& b : Nat) : Int) := by
  have hw : ∀ n : Int, 0 ≤ n → n < 4294967296 → IntKind.u32.wrap n = n := fun n h0 h1 => by rw [IntKind.wrap_u32]; omega
  have ha' : a % 4294967296 = a := Nat.mod_eq_of_lt ha
  have hb' : b % 4294967296 = b := Nat.mod_eq_of_lt hb
  constructor
  · simp only [bits, BitVec.ofInt_natCast, BitVec.toNat_xor, BitVec.toNat_ofNat]
    rw [show (2 : Nat) ^ IntKind.u32.bits = 4294967296 from rfl, ha', hb']
    exact hw _ (Int.natCast_nonneg _) (by have := xor_lt ha hb; omega)
  · simp only [bits, BitVec.ofInt_natCast, BitVec.toNat_and, BitVec.toNat_ofNat]
    rw [show (2 : Nat) ^ IntKind.u32.bits = 4294967296 from rfl, ha', hb']
    exact hw _ (Int.natCast_nonneg _) (by have := Nat.and_lt_two_pow a (n := 32) (show b < 2 ^ 32 from hb); omega)

theorem tab4_lt (i : Nat) : tab4[i]?.getD 0 < 4294967296 := by
  rcases Nat.lt_or_ge i 16 with h | h
  · revert h; revert i; decide
  · rw [List.getElem?_eq_none (by simpa [tab4] using h)]; decide

theorem nib_lt {x : Nat} (h : x < 4294967296) : nib x < 4294967296 := xor_lt (by omega) (tab4_lt _)

theorem nib_bits (x : Nat) (h : x < 4294967296) : bits .and .u32 (x : Int) 15 = ((x % 16 : Nat) : Int) ∧ bits .xor .u32 ((x : Int) / 16) ((tab4[x % 16]?.getD 0 : Nat) : Int) = ((nib x : Nat) : Int) := by
  constructor
  · have := (u32_bits x 15 h (by decide)).2
    rw [show x &&& 15 = x % 16 from Nat.and_two_pow_sub_one_eq_mod x 4] at this
    exact this
  · have := (u32_bits (x / 16) _ (by omega) (tab4_lt (x % 16))).1
    rw [← show ((x / 16 : Nat) : Int) = (x : Int) / 16 from by omega]
    exact this

set_option maxHeartbeats 400000 in
theorem Step_any (s c : Nat) (hs : s < 4294967296) (hc : c < 256) (w : World) (ht : Tab w) :
    Calls Tryd.prog 30 #[.int .u32 (s : Int), .int .u8 (c : Int)] w fun e w' => e = .returned (.int .u32 ((stepB s c : Nat) : Int)) ∧ w = w' := by
  rw [stepB_nib]
  have f1 := (u32_bits s c hs (by omega)).1
  have hx : s ^^^ c < 4294967296 := xor_lt hs (by omega)
  generalize s ^^^ c = x at f1 hx ⊢
  obtain ⟨f2, f3⟩ := nib_bits x hx
  have hy := nib_lt hx
  have c1 := ht (x % 16) (Nat.mod_lt _ (by decide))
  generalize nib x = y at f3 hy ⊢
  obtain ⟨f4, f5⟩ := nib_bits y hy
  have c2 := ht (y % 16) (Nat.mod_lt _ (by decide))
  generalize nib y = z at f5 ⊢
  have hi : x % 16 < 16 := Nat.mod_lt _ (by decide)
  have hj : y % 16 < 16 := Nat.mod_lt _ (by decide)
  generalize tab4[x % 16]?.getD 0 = t at c1 f3
  generalize tab4[y % 16]?.getD 0 = u at c2 f5
  generalize x % 16 = i at c1 f2 hi
  generalize y % 16 = j at c2 f4 hj
  clear ht
  go_enter Tryd.func30, Tryd.ntmps30
  go_wp2
  go_ret
  exact ⟨rfl, rfl⟩

/-- Some bits' steps. -/
def bitN (x : Nat) : Nat → Nat | 0 => x | j + 1 => bit1 (bitN x j)
theorem bitN_lt {x : Nat} (h : x < 4294967296) (j : Nat) : bitN x j < 4294967296 := by
  induction j with
  | zero => exact h
  | succ j ih => exact bit1_lt ih
theorem bit1_bits (x : Nat) (h : x < 4294967296) : (x % 2 = 1 → bits .xor .u32 ((x : Int) / 2) 3988292384 = ((bit1 x : Nat) : Int)) ∧ (x % 2 ≠ 1 → (x : Int) / 2 = ((bit1 x : Nat) : Int)) := by
  unfold bit1
  constructor
  · intro h1
    rw [if_pos h1]
    have := (u32_bits (x / 2) 3988292384 (by omega) (by decide)).1
    rw [← show ((x / 2 : Nat) : Int) = (x : Int) / 2 from by omega]
    exact this
  · intro h1
    rw [if_neg h1]
    omega

set_option maxHeartbeats 400000 in
theorem refStep_any (s c : Nat) (hs : s < 4294967296) (hc : c < 256) (w : World) :
    Calls Tryd.prog 27 #[.int .u32 (s : Int), .int .u8 (c : Int)] w fun e w' => e = .returned (.int .u32 ((stepB s c : Nat) : Int)) ∧ w = w' := by
  rw [show stepB s c = bitN (s ^^^ c) 8 from rfl]
  have f1 := (u32_bits s c hs (by omega)).1
  have hx : s ^^^ c < 4294967296 := xor_lt hs (by omega)
  generalize s ^^^ c = x at f1 hx ⊢
  go_enter Tryd.func27, Tryd.ntmps27
  go_wp2
  clear f1
  go_loop [0, 5] (fun v i => ∃ j : Nat, j ≤ 8 ∧ i = .int .i64 j ∧ v = .int .u32 ((bitN x j : Nat) : Int)) (fun _ i => 8 - (intOf i).toNat)
  case atStart => exact ⟨0, Nat.zero_le _, rfl, rfl⟩
  case round =>
    obtain ⟨j, hj, rfl, rfl⟩ := hrel
    by_cases hlt : j < 8
    · have hy := bitN_lt hx j
      obtain ⟨fo, fe⟩ := bit1_bits (bitN x j) hy
      have hstep := Lib.hid (show bitN x (j + 1) = bit1 (bitN x j) from rfl)
      by_cases ho : bitN x j % 2 = 1
      · have f := fo ho
        have k : (((bitN x j : Nat) : Int) % 2 == 1) = true := by simp; omega
        clear fo fe ho
        generalize bitN x j = y at hy f k hstep ⊢
        go_wp2
        go_round
        case rel => exact ⟨j + 1, by omega, by go_num, by rw [hstep.out]⟩
        case measure => simp [intOf]; omega
      · have f := Lib.hid (fe ho)
        have k : (((bitN x j : Nat) : Int) % 2 == 1) = false := by simp; omega
        clear fo fe ho
        generalize bitN x j = y at hy f k hstep ⊢
        go_wp2
        go_round
        case rel => exact ⟨j + 1, by omega, by go_num, by rw [hstep.out, ← f.out]⟩
        case measure => simp [intOf]; omega
    · go_wp2
      go_ret
      obtain rfl : j = 8 := by omega
      exact ⟨rfl, rfl⟩

/-- What a sum is. -/
def sumOf (l : List Int) : Nat := runB 4294967295 (l.map Int.toNat) ^^^ 4294967295

theorem nat_byte {l : List Int} (h : AllBytes l) : ∀ c ∈ l.map Int.toNat, c < 256 := by
  intro c hc
  obtain ⟨x, hx, rfl⟩ := List.mem_map.1 hc
  have := h x hx
  omega
theorem run_step (l : List Int) (k : Nat) (h : k < l.length) : runB 4294967295 ((l.map Int.toNat).take (k + 1)) = stepB (runB 4294967295 ((l.map Int.toNat).take k)) (l[k]?.getD 0).toNat := by
  rw [List.take_succ_eq_append_getElem (by simpa using h)]
  simp [runB, List.getElem?_eq_getElem h]
theorem sum_end (l : List Int) (k : Nat) (h : l.length = k) : runB 4294967295 ((l.map Int.toNat).take k) ^^^ 4294967295 = sumOf l := by
  rw [List.take_of_length_le (by simp; omega)]; rfl

theorem not_bits (s : Nat) (h : s < 4294967296) : bits .xor .u32 IntKind.u32.max (s : Int) = ((s ^^^ 4294967295 : Nat) : Int) ∧ bits .xor .u32 (s : Int) 4294967295 = ((s ^^^ 4294967295 : Nat) : Int) := by
  constructor
  · rw [Nat.xor_comm]
    exact (u32_bits 4294967295 s (by decide) h).1
  · exact (u32_bits s 4294967295 h (by decide)).1

set_option maxHeartbeats 400000 in
theorem Sum_any (A : Option Addr) (n c B : Nat) (l : List Int) (w : World) (hr : RB w B A n l) (hm : n ≤ maxLen) (ht : Tab w) :
    Calls Tryd.prog 25 #[.slice A n c] w fun e w' => e = .returned (.int .u32 ((sumOf l : Nat) : Int)) ∧ w = w' := by
  unfold maxLen at hm
  have hall : ∀ k, runB 4294967295 ((l.map Int.toNat).take k) < 4294967296 := fun k => runB_lt (fun c hc => nat_byte hr.bytes c (List.mem_of_mem_take hc)) (by decide)
  have HA := Lib.hid hall
  clear hall
  go_enter Tryd.func25, Tryd.ntmps25
  go_wp2
  go_loop [3, 8] (fun v i => ∃ k : Nat, k ≤ n ∧ i = .int .i64 k ∧ v = .int .u32 ((runB 4294967295 ((l.map Int.toNat).take k) : Nat) : Int)) (fun _ i => n - (intOf i).toNat)
  case atStart => exact ⟨0, Nat.zero_le _, rfl, rfl⟩
  case round =>
    obtain ⟨k, hk, rfl, rfl⟩ := hrel
    have hsk := HA.out k
    by_cases hlt : k < n
    · obtain ⟨b, off, rfl, hb, hcell⟩ := hr.at_ (by omega)
      have hck := hcell k hlt
      obtain ⟨hb0, hb1⟩ := hr.bytes.getD k
      have hst := Lib.hid (run_step l k (by have := hr.len; omega))
      obtain ⟨x, hx⟩ := Int.eq_ofNat_of_zero_le hb0
      rw [hx] at hck hb1 hst
      clear hcell hx hb0
      have hx256 : x < 256 := by omega
      generalize runB 4294967295 ((l.map Int.toNat).take k) = s at hsk hst ⊢
      go_wp2_with (go_at_call 30; refine (Step_any s x hsk hx256 _ ht).mono ?_; rintro e w' ⟨rfl, rfl⟩)
      go_round
      case rel => exact ⟨k + 1, by omega, by go_num, by rw [hst.out]; simp⟩
      case measure => simp [intOf]; omega
    · obtain rfl : k = n := by omega
      have hend := sum_end l k hr.len
      generalize runB 4294967295 ((l.map Int.toNat).take k) = s at hsk hend ⊢
      obtain ⟨hx1, hx2⟩ := not_bits s hsk
      rw [hend] at hx1 hx2
      have hsg : IntKind.u32.signed = false := rfl
      clear hend
      go_wp2
      go_ret
      exact ⟨rfl, rfl⟩

set_option maxHeartbeats 400000 in
theorem refSum_any (A : Option Addr) (n c B : Nat) (l : List Int) (w : World) (hr : RB w B A n l) (hm : n ≤ maxLen) :
    Calls Tryd.prog 18 #[.slice A n c] w fun e w' => e = .returned (.int .u32 ((sumOf l : Nat) : Int)) ∧ w = w' := by
  unfold maxLen at hm
  have hall : ∀ k, runB 4294967295 ((l.map Int.toNat).take k) < 4294967296 := fun k => runB_lt (fun c hc => nat_byte hr.bytes c (List.mem_of_mem_take hc)) (by decide)
  have HA := Lib.hid hall
  clear hall
  go_enter Tryd.func18, Tryd.ntmps18
  go_wp2
  go_loop [3, 4] (fun v i => ∃ k : Nat, k ≤ n ∧ i = .int .i64 k ∧ v = .int .u32 ((runB 4294967295 ((l.map Int.toNat).take k) : Nat) : Int)) (fun _ i => n - (intOf i).toNat)
  case atStart => exact ⟨0, Nat.zero_le _, rfl, rfl⟩
  case round =>
    obtain ⟨k, hk, rfl, rfl⟩ := hrel
    have hsk := HA.out k
    by_cases hlt : k < n
    · obtain ⟨b, off, rfl, hb, hcell⟩ := hr.at_ (by omega)
      have hck := hcell k hlt
      obtain ⟨hb0, hb1⟩ := hr.bytes.getD k
      have hst := Lib.hid (run_step l k (by have := hr.len; omega))
      obtain ⟨x, hx⟩ := Int.eq_ofNat_of_zero_le hb0
      rw [hx] at hck hb1 hst
      clear hcell hx hb0
      have hx256 : x < 256 := by omega
      generalize runB 4294967295 ((l.map Int.toNat).take k) = s at hsk hst ⊢
      go_wp2_with (go_at_call 27; refine (refStep_any s x hsk hx256 _).mono ?_; rintro e w' ⟨rfl, rfl⟩)
      go_round
      case rel => exact ⟨k + 1, by omega, by go_num, by rw [hst.out]; simp⟩
      case measure => simp [intOf]; omega
    · obtain rfl : k = n := by omega
      have hend := sum_end l k hr.len
      generalize runB 4294967295 ((l.map Int.toNat).take k) = s at hsk hend ⊢
      obtain ⟨hx1, hx2⟩ := not_bits s hsk
      rw [hend] at hx1 hx2
      have hsg : IntKind.u32.signed = false := rfl
      clear hend
      go_wp2
      go_ret
      exact ⟨rfl, rfl⟩

theorem sumOf_lt {l : List Int} (h : AllBytes l) : sumOf l < 4294967296 := xor_lt (runB_lt (nat_byte h) (by decide)) (by decide)
theorem not_lt {s : Nat} (h : s < 4294967296) : s ^^^ 4294967295 < 4294967296 := xor_lt h (by decide)
theorem sumOf_snoc (l : List Int) (c : Nat) : sumOf (l ++ [(c : Int)]) = stepB (sumOf l ^^^ 4294967295) c ^^^ 4294967295 := by
  have e : sumOf l ^^^ 4294967295 = runB 4294967295 (l.map Int.toNat) := by
    unfold sumOf
    rw [Nat.xor_assoc, Nat.xor_self, Nat.xor_zero]
  rw [e]
  simp [sumOf, runB]

end Go.Proofs.YtkpopdoigkcpgaaDoor
