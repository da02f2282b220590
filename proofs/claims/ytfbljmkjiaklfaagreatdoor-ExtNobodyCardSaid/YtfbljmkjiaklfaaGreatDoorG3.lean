/-
  The texts NumBackP, CrcP, CrcW, SecP joined. Conditions: those that each part says at its head.
-/
import Derived.Test.YtfbljmkjiaklfaaGreatDoorG2
import Derived.Test.YtfbljmkjiaklfaaGreatDoorG1
import Derived.Laws.BitsLemmas

/-
  Plain: a number that Put put is what Get gets. Condition: the number is an int.
-/
namespace Go.Proofs.YtfbljmkjiaklfaaGreatDoor
open Go.RowKit
set_option maxRecDepth 100000
set_option linter.unusedVariables false

theorem wrap_putB {x s : Int} (h : rightB x s = true) (hxl : -9223372036854775808 ≤ x) (hxh : x ≤ 9223372036854775807) : numOf (putB x s.toNat) = x := by
  rw [numOf_eq _ (putB_bytes _ _), beOf_putB]
  rcases right_size h with rfl | rfl | rfl | rfl
  · have hb : 0 ≤ x ∧ x < 256 := by simpa [rightB] using h
    rw [show (256 : Int) ^ (1 : Int).toNat = 256 from rfl]
    unfold wrap64; omega
  · have hb : 0 ≤ x ∧ x < 65536 := by simpa [rightB] using h
    rw [show (256 : Int) ^ (2 : Int).toNat = 65536 from rfl]
    unfold wrap64; omega
  · have hb : 0 ≤ x ∧ x < 4294967296 := by simpa [rightB] using h
    rw [show (256 : Int) ^ (4 : Int).toNat = 4294967296 from rfl]
    unfold wrap64; omega
  · rw [show (256 : Int) ^ (8 : Int).toNat = 18446744073709551616 from rfl]
    unfold wrap64; omega

theorem get_put {l : List Int} {x s : Int} (h : rightB x s = true) (hxl : -9223372036854775808 ≤ x) (hxh : x ≤ 9223372036854775807) : getR (putR l x s) (l.length : Int) s = (x, 0) := by
  have hs : sizeB s = true := by
    rcases right_size h with rfl | rfl | rfl | rfl <;> decide
  obtain ⟨k, rfl⟩ := Int.eq_ofNat_of_zero_le (show 0 ≤ s by rcases right_size h with h | h | h | h <;> omega)
  have hn := wrap_putB h hxl hxh
  unfold getR putR
  rw [if_pos h, if_pos ⟨hs, by omega⟩, if_neg (by simp [putB_length])]
  simp only [Int.toNat_natCast] at hn ⊢
  rw [List.drop_left, List.take_of_length_le (by rw [putB_length]; exact Nat.le_refl _), hn]

end Go.Proofs.YtfbljmkjiaklfaaGreatDoor

/-
  Plain arithmetic of the sum: one bit's step, eight of them, four of them by a table; a step loses nothing, so a byte that is changed changes the sum. No program, no condition beyond 32 bits.
-/
namespace Go.Proofs.YtfbljmkjiaklfaaGreatDoor
set_option maxRecDepth 100000

/-- One bit's step. -/
def bit1 (x : Nat) : Nat := if x % 2 = 1 then (x / 2) ^^^ 3988292384 else x / 2
/-- One byte's step. -/
def stepB (s c : Nat) : Nat := bit1 (bit1 (bit1 (bit1 (bit1 (bit1 (bit1 (bit1 (s ^^^ c))))))))
/-- Four bits' steps, of four bits. -/
def tab4 : List Nat := [0, 498536548, 997073096, 651767980, 1994146192, 1802195444, 1303535960, 1342533948, 3988292384, 4027552580, 3604390888, 3412177804, 2607071920, 2262029012, 2685067896, 3183342108]
/-- Four bits' steps, by the table. -/
def nib (x : Nat) : Nat := (x / 16) ^^^ (tab4[x % 16]?.getD 0)
/-- The steps of some bytes. -/
def runB (s : Nat) (l : List Nat) : Nat := l.foldl stepB s

theorem xor_half (a b : Nat) : (a ^^^ b) / 2 = a / 2 ^^^ b / 2 := by
  have := Nat.shiftRight_xor_distrib (a := a) (b := b) (i := 1)
  simpa [Nat.shiftRight_succ] using this
theorem xor_parity (a b : Nat) : (a ^^^ b) % 2 = (a + b) % 2 := by
  have h := Nat.xor_mod_two_pow (a := a) (b := b) (n := 1)
  simp only [Nat.pow_one] at h
  rw [h]
  rcases Nat.mod_two_eq_zero_or_one a with ha | ha <;> rcases Nat.mod_two_eq_zero_or_one b with hb | hb <;> rw [ha, hb]
  · rw [show (a + b) % 2 = 0 from by omega]; rfl
  · rw [show (a + b) % 2 = 1 from by omega]; rfl
  · rw [show (a + b) % 2 = 1 from by omega]; rfl
  · rw [show (a + b) % 2 = 0 from by omega]; rfl

theorem bit1_xor (a b : Nat) : bit1 (a ^^^ b) = bit1 a ^^^ bit1 b := by
  unfold bit1
  rw [xor_parity, xor_half]
  rcases Nat.mod_two_eq_zero_or_one a with ha | ha <;> rcases Nat.mod_two_eq_zero_or_one b with hb | hb
  · rw [if_neg (by omega), if_neg (by omega), if_neg (by omega)]
  · rw [if_pos (by omega), if_neg (by omega), if_pos hb, Nat.xor_assoc]
  · rw [if_pos (by omega), if_pos ha, if_neg (by omega), Nat.xor_assoc, Nat.xor_assoc, Nat.xor_comm (b / 2)]
  · rw [if_neg (by omega), if_pos ha, if_pos hb]
    rw [Nat.xor_assoc, Nat.xor_comm 3988292384, Nat.xor_assoc, Nat.xor_self, Nat.xor_zero]

theorem bit1_even (q : Nat) : bit1 (2 * q) = q := by
  unfold bit1
  rw [if_neg (by omega)]
  omega

theorem nib_eq (x : Nat) : nib x = bit1 (bit1 (bit1 (bit1 x))) := by
  have hx : x = (16 * (x / 16)) ^^^ (x % 16) := by
    have h := Nat.two_pow_add_eq_or_of_lt (i := 4) (b := x % 16) (by omega) (x / 16)
    have h2 : 16 * (x / 16) ^^^ x % 16 = 16 * (x / 16) ||| x % 16 := by
      apply Nat.eq_of_testBit_eq
      intro i
      rw [Nat.testBit_xor, Nat.testBit_or]
      rcases Nat.lt_or_ge i 4 with hi | hi
      · have : (16 * (x / 16)).testBit i = false := by
          have := Nat.testBit_two_pow_mul (i := 4) (a := x / 16) (j := i)
          simp only [show (2 : Nat) ^ 4 = 16 from rfl] at this
          rw [this]; simp; omega
        rw [this]; simp
      · have : (x % 16).testBit i = false := Nat.testBit_lt_two_pow (Nat.lt_of_lt_of_le (show x % 16 < 2 ^ 4 by omega) (Nat.pow_le_pow_right (by decide) hi))
        rw [this]; simp
    rw [h2, ← show (2 : Nat) ^ 4 = 16 from rfl, ← h]
    omega
  have hlow : ∀ r, r < 16 → bit1 (bit1 (bit1 (bit1 r))) = tab4[r]?.getD 0 := by decide
  have hhigh : bit1 (bit1 (bit1 (bit1 (16 * (x / 16))))) = x / 16 := by
    rw [show 16 * (x / 16) = 2 * (8 * (x / 16)) from by omega, bit1_even, show 8 * (x / 16) = 2 * (4 * (x / 16)) from by omega, bit1_even,
      show 4 * (x / 16) = 2 * (2 * (x / 16)) from by omega, bit1_even, bit1_even]
  conv => rhs; rw [hx]
  rw [bit1_xor, bit1_xor, bit1_xor, bit1_xor, hhigh, hlow _ (by omega)]
  rfl

theorem stepB_nib (s c : Nat) : stepB s c = nib (nib (s ^^^ c)) := by
  rw [nib_eq, nib_eq]; rfl

theorem bit1_lt {x : Nat} (h : x < 4294967296) : bit1 x < 4294967296 := by
  unfold bit1
  split
  · exact Nat.xor_lt_two_pow (n := 32) (by omega) (by decide)
  · omega
theorem xor_lt {a b : Nat} (ha : a < 4294967296) (hb : b < 4294967296) : a ^^^ b < 4294967296 := Nat.xor_lt_two_pow (n := 32) ha hb
theorem stepB_lt {s c : Nat} (hs : s < 4294967296) (hc : c < 4294967296) : stepB s c < 4294967296 :=
  bit1_lt (bit1_lt (bit1_lt (bit1_lt (bit1_lt (bit1_lt (bit1_lt (bit1_lt (xor_lt hs hc))))))))
theorem runB_lt {l : List Nat} (hl : ∀ c ∈ l, c < 256) {s : Nat} (hs : s < 4294967296) : runB s l < 4294967296 := by
  induction l generalizing s with
  | nil => exact hs
  | cons c l ih => exact ih (fun d hd => hl d (List.mem_cons_of_mem _ hd)) (stepB_lt hs (by have := hl c (List.mem_cons_self ..); omega))

/-- The bit that leaves stands in the highest place: nothing is lost. -/
theorem bit1_inj {x y : Nat} (hx : x < 4294967296) (hy : y < 4294967296) (h : bit1 x = bit1 y) : x = y := by
  have high : ∀ a, a < 2147483648 → 2147483648 ≤ a ^^^ 3988292384 := by
    intro a ha
    have ht : (a ^^^ 3988292384).testBit 31 = true := by
      rw [Nat.testBit_xor, Nat.testBit_lt_two_pow (show a < 2 ^ 31 from ha)]
      decide
    exact Nat.ge_two_pow_of_testBit ht
  have cancel : ∀ a b : Nat, a ^^^ 3988292384 = b ^^^ 3988292384 → a = b := by
    intro a b e
    have := congrArg (· ^^^ 3988292384) e
    simpa [Nat.xor_assoc] using this
  unfold bit1 at h
  by_cases h1 : x % 2 = 1 <;> by_cases h2 : y % 2 = 1
  · rw [if_pos h1, if_pos h2] at h
    have := cancel _ _ h
    omega
  · rw [if_pos h1, if_neg h2] at h
    have := high (x / 2) (by omega)
    omega
  · rw [if_neg h1, if_pos h2] at h
    have := high (y / 2) (by omega)
    omega
  · rw [if_neg h1, if_neg h2] at h
    omega

theorem stepB_inj {x y : Nat} (c d : Nat) (hx : x < 4294967296) (hy : y < 4294967296) (hc : c < 4294967296) (hd : d < 4294967296) (h : stepB x c = stepB y d) : x ^^^ c = y ^^^ d := by
  have a := xor_lt hx hc
  have b := xor_lt hy hd
  unfold stepB at h
  exact bit1_inj a b (bit1_inj (bit1_lt a) (bit1_lt b) (bit1_inj (bit1_lt (bit1_lt a)) (bit1_lt (bit1_lt b)) (bit1_inj (bit1_lt (bit1_lt (bit1_lt a))) (bit1_lt (bit1_lt (bit1_lt b)))
    (bit1_inj (bit1_lt (bit1_lt (bit1_lt (bit1_lt a)))) (bit1_lt (bit1_lt (bit1_lt (bit1_lt b)))) (bit1_inj (bit1_lt (bit1_lt (bit1_lt (bit1_lt (bit1_lt a))))) (bit1_lt (bit1_lt (bit1_lt (bit1_lt (bit1_lt b)))))
      (bit1_inj (bit1_lt (bit1_lt (bit1_lt (bit1_lt (bit1_lt (bit1_lt a)))))) (bit1_lt (bit1_lt (bit1_lt (bit1_lt (bit1_lt (bit1_lt b)))))) (bit1_inj (bit1_lt (bit1_lt (bit1_lt (bit1_lt (bit1_lt (bit1_lt (bit1_lt a))))))) (bit1_lt (bit1_lt (bit1_lt (bit1_lt (bit1_lt (bit1_lt (bit1_lt b))))))) h)))))))

theorem xor_right_inj {x y c : Nat} (h : x ^^^ c = y ^^^ c) : x = y := by
  have := congrArg (· ^^^ c) h
  simpa [Nat.xor_assoc] using this
theorem xor_left_inj {s c d : Nat} (h : s ^^^ c = s ^^^ d) : c = d := by
  rw [Nat.xor_comm s, Nat.xor_comm s] at h
  exact xor_right_inj h

theorem runB_inj {l : List Nat} (hl : ∀ c ∈ l, c < 256) {x y : Nat} (hx : x < 4294967296) (hy : y < 4294967296) (h : runB x l = runB y l) : x = y := by
  induction l generalizing x y with
  | nil => exact h
  | cons c l ih =>
    have hc : c < 4294967296 := by have := hl c (List.mem_cons_self ..); omega
    have := ih (fun d hd => hl d (List.mem_cons_of_mem _ hd)) (stepB_lt hx hc) (stepB_lt hy hc) h
    exact xor_right_inj (stepB_inj c c hx hy hc hc this)

/-- A byte that is changed changes the sum. -/
theorem runB_changed {l : List Nat} (hl : ∀ c ∈ l, c < 256) {s : Nat} (hs : s < 4294967296) (i : Nat) (hi : i < l.length) (d : Nat) (hd : d < 256) (hne : l[i] ≠ d) : runB s l ≠ runB s (l.set i d) := by
  induction l generalizing s i with
  | nil => simp at hi
  | cons c l ih =>
    have hc : c < 4294967296 := by have := hl c (List.mem_cons_self ..); omega
    have hl' : ∀ c ∈ l, c < 256 := fun d hd => hl d (List.mem_cons_of_mem _ hd)
    cases i with
    | zero =>
      intro h
      have h' : runB (stepB s c) l = runB (stepB s d) l := h
      have := runB_inj hl' (stepB_lt hs hc) (stepB_lt hs (by omega)) h'
      exact hne (xor_left_inj (stepB_inj c d hs hs hc (by omega) this))
    | succ i => exact ih hl' (stepB_lt hs hc) i (by simpa using hi) (by simpa using hne)

end Go.Proofs.YtfbljmkjiaklfaaGreatDoor

/-
  Contracts of crc.Step, crc.Sum and of the plain Step, Sum: for every sum and byte, and every slice of bytes, they answer the steps bit by bit; nothing is written. Condition: the table that crc.Step reads holds what the program's text lays in it.
-/
namespace Go.Proofs.YtfbljmkjiaklfaaGreatDoor
open Go.RowKit
set_option maxRecDepth 100000
set_option linter.unusedVariables false

/-- The table holds what the program's text lays in it. -/
def Tab (w : World) : Prop := ∀ i, i < 16 → w.cell? ⟨1, i, none⟩ = some (.int .u32 ((tab4[i]?.getD 0 : Nat) : Int))
theorem Tab.below {w w' : World} {B : Nat} (h : Tab w) (hb : Below B w w') (hB : 1 < B) : Tab w' := fun i hi => (hb.cell (p := ⟨1, i, none⟩) hB).trans (h i hi)

theorem u32_bits (a b : Nat) (ha : a < 4294967296) (hb : b < 4294967296) : bits .xor .u32 (a : Int) (b : Int) = ((a ^^^ b : Nat) : Int) ∧ bits .and .u32 (a : Int) (b : Int) = ((a &&& b : Nat) : Int) := by
  have hw : ∀ n : Int, 0 ≤ n → n < 4294967296 → IntKind.u32.wrap n = n := fun n h0 h1 => by rw [IntKind.wrap_u32]; omega
  have ha' : a % 4294967296 = a := Nat.mod_eq_of_lt ha
  have hb' : b % 4294967296 = b := Nat.mod_eq_of_lt hb
  constructor
  · simp only [bits, BitVec.ofInt_natCast, BitVec.toNat_xor, BitVec.toNat_ofNat]
    rw [show (2 : Nat) ^ IntKind.u32.bits = 4294967296 from rfl, ha', hb']
    exact hw _ (Int.natCast_nonneg _) (by have := xor_lt ha hb; omega)
  · simp only [bits, BitVec.ofInt_natCast, BitVec.toNat_and, BitVec.toNat_ofNat]
    rw [show (2 : Nat) ^ IntKind.u32.bits = 4294967296 from rfl, ha', hb']
    exact hw _ (Int.natCast_nonneg _) (by have := Nat.and_lt_two_pow a (n := 32) (show b < 2 ^ 32 from hb); omega)

theorem tab4_lt (i : Nat) : tab4[i]?.getD 0 < 4294967296 := by
  rcases Nat.lt_or_ge i 16 with h | h
  · revert h; revert i; decide
  · rw [List.getElem?_eq_none (by simpa [tab4] using h)]; decide

theorem nib_lt {x : Nat} (h : x < 4294967296) : nib x < 4294967296 := xor_lt (by omega) (tab4_lt _)

theorem nib_bits (x : Nat) (h : x < 4294967296) : bits .and .u32 (x : Int) 15 = ((x % 16 : Nat) : Int) ∧ bits .xor .u32 ((x : Int) / 16) ((tab4[x % 16]?.getD 0 : Nat) : Int) = ((nib x : Nat) : Int) := by
  constructor
  · have := (u32_bits x 15 h (by decide)).2
    rw [show x &&& 15 = x % 16 from Nat.and_two_pow_sub_one_eq_mod x 4] at this
    exact this
  · have := (u32_bits (x / 16) _ (by omega) (tab4_lt (x % 16))).1
    rw [← show ((x / 16 : Nat) : Int) = (x : Int) / 16 from by omega]
    exact this

set_option maxHeartbeats 400000 in
theorem Step_any (s c : Nat) (hs : s < 4294967296) (hc : c < 256) (w : World) (ht : Tab w) :
    Calls Tryz.prog 205 #[.int .u32 (s : Int), .int .u8 (c : Int)] w fun e w' => e = .returned (.int .u32 ((stepB s c : Nat) : Int)) ∧ w = w' := by
  rw [stepB_nib]
  have f1 := (u32_bits s c hs (by omega)).1
  have hx : s ^^^ c < 4294967296 := xor_lt hs (by omega)
  generalize s ^^^ c = x at f1 hx ⊢
  obtain ⟨f2, f3⟩ := nib_bits x hx
  have hy := nib_lt hx
  have c1 := ht (x % 16) (Nat.mod_lt _ (by decide))
  generalize nib x = y at f3 hy ⊢
  obtain ⟨f4, f5⟩ := nib_bits y hy
  have c2 := ht (y % 16) (Nat.mod_lt _ (by decide))
  generalize nib y = z at f5 ⊢
  have hi : x % 16 < 16 := Nat.mod_lt _ (by decide)
  have hj : y % 16 < 16 := Nat.mod_lt _ (by decide)
  generalize tab4[x % 16]?.getD 0 = t at c1 f3
  generalize tab4[y % 16]?.getD 0 = u at c2 f5
  generalize x % 16 = i at c1 f2 hi
  generalize y % 16 = j at c2 f4 hj
  clear ht
  go_enter Tryz.func205, Tryz.ntmps205
  go_wp2
  go_ret
  exact ⟨rfl, rfl⟩

/-- Some bits' steps. -/
def bitN (x : Nat) : Nat → Nat | 0 => x | j + 1 => bit1 (bitN x j)
theorem bitN_lt {x : Nat} (h : x < 4294967296) (j : Nat) : bitN x j < 4294967296 := by
  induction j with
  | zero => exact h
  | succ j ih => exact bit1_lt ih
theorem bit1_bits (x : Nat) (h : x < 4294967296) : (x % 2 = 1 → bits .xor .u32 ((x : Int) / 2) 3988292384 = ((bit1 x : Nat) : Int)) ∧ (x % 2 ≠ 1 → (x : Int) / 2 = ((bit1 x : Nat) : Int)) := by
  unfold bit1
  constructor
  · intro h1
    rw [if_pos h1]
    have := (u32_bits (x / 2) 3988292384 (by omega) (by decide)).1
    rw [← show ((x / 2 : Nat) : Int) = (x : Int) / 2 from by omega]
    exact this
  · intro h1
    rw [if_neg h1]
    omega

/-- What a sum is. -/
def sumOf (l : List Int) : Nat := runB 4294967295 (l.map Int.toNat) ^^^ 4294967295

theorem nat_byte {l : List Int} (h : AllBytes l) : ∀ c ∈ l.map Int.toNat, c < 256 := by
  intro c hc
  obtain ⟨x, hx, rfl⟩ := List.mem_map.1 hc
  have := h x hx
  omega
theorem run_step (l : List Int) (k : Nat) (h : k < l.length) : runB 4294967295 ((l.map Int.toNat).take (k + 1)) = stepB (runB 4294967295 ((l.map Int.toNat).take k)) (l[k]?.getD 0).toNat := by
  rw [List.take_succ_eq_append_getElem (by simpa using h)]
  simp [runB, List.getElem?_eq_getElem h]
theorem sum_end (l : List Int) (k : Nat) (h : l.length = k) : runB 4294967295 ((l.map Int.toNat).take k) ^^^ 4294967295 = sumOf l := by
  rw [List.take_of_length_le (by simp; omega)]; rfl

theorem not_bits (s : Nat) (h : s < 4294967296) : bits .xor .u32 IntKind.u32.max (s : Int) = ((s ^^^ 4294967295 : Nat) : Int) ∧ bits .xor .u32 (s : Int) 4294967295 = ((s ^^^ 4294967295 : Nat) : Int) := by
  constructor
  · rw [Nat.xor_comm]
    exact (u32_bits 4294967295 s (by decide) h).1
  · exact (u32_bits s 4294967295 h (by decide)).1

set_option maxHeartbeats 400000 in
theorem Sum_any (A : Option Addr) (n c B : Nat) (l : List Int) (w : World) (hr : RB w B A n l) (hm : n ≤ maxLen) (ht : Tab w) :
    Calls Tryz.prog 178 #[.slice A n c] w fun e w' => e = .returned (.int .u32 ((sumOf l : Nat) : Int)) ∧ w = w' := by
  unfold maxLen at hm
  have hall : ∀ k, runB 4294967295 ((l.map Int.toNat).take k) < 4294967296 := fun k => runB_lt (fun c hc => nat_byte hr.bytes c (List.mem_of_mem_take hc)) (by decide)
  have HA := Lib.hid hall
  clear hall
  go_enter Tryz.func178, Tryz.ntmps178
  go_wp2
  go_loop [3, 8] (fun v i => ∃ k : Nat, k ≤ n ∧ i = .int .i64 k ∧ v = .int .u32 ((runB 4294967295 ((l.map Int.toNat).take k) : Nat) : Int)) (fun _ i => n - (intOf i).toNat)
  case atStart => exact ⟨0, Nat.zero_le _, rfl, rfl⟩
  case round =>
    obtain ⟨k, hk, rfl, rfl⟩ := hrel
    have hsk := HA.out k
    by_cases hlt : k < n
    · obtain ⟨b, off, rfl, hb, hcell⟩ := hr.at_ (by omega)
      have hck := hcell k hlt
      obtain ⟨hb0, hb1⟩ := hr.bytes.getD k
      have hst := Lib.hid (run_step l k (by have := hr.len; omega))
      obtain ⟨x, hx⟩ := Int.eq_ofNat_of_zero_le hb0
      rw [hx] at hck hb1 hst
      clear hcell hx hb0
      have hx256 : x < 256 := by omega
      generalize runB 4294967295 ((l.map Int.toNat).take k) = s at hsk hst ⊢
      go_wp2_with (go_at_call 205; refine (Step_any s x hsk hx256 _ ht).mono ?_; rintro e w' ⟨rfl, rfl⟩)
      go_round
      case rel => exact ⟨k + 1, by omega, by go_num, by rw [hst.out]; simp⟩
      case measure => simp [intOf]; omega
    · obtain rfl : k = n := by omega
      have hend := sum_end l k hr.len
      generalize runB 4294967295 ((l.map Int.toNat).take k) = s at hsk hend ⊢
      obtain ⟨hx1, hx2⟩ := not_bits s hsk
      rw [hend] at hx1 hx2
      have hsg : IntKind.u32.signed = false := rfl
      clear hend
      go_wp2
      go_ret
      exact ⟨rfl, rfl⟩

theorem sumOf_lt {l : List Int} (h : AllBytes l) : sumOf l < 4294967296 := xor_lt (runB_lt (nat_byte h) (by decide)) (by decide)
theorem not_lt {s : Nat} (h : s < 4294967296) : s ^^^ 4294967295 < 4294967296 := xor_lt h (by decide)
theorem sumOf_snoc (l : List Int) (c : Nat) : sumOf (l ++ [(c : Int)]) = stepB (sumOf l ^^^ 4294967295) c ^^^ 4294967295 := by
  have e : sumOf l ^^^ 4294967295 = runB 4294967295 (l.map Int.toNat) := by
    unfold sumOf
    rw [Nat.xor_assoc, Nat.xor_self, Nat.xor_zero]
  rw [e]
  simp [sumOf, runB]

end Go.Proofs.YtfbljmkjiaklfaaGreatDoor

/-
  Plain: what a sector of a page is, what a sector's page is, that the one undoes the other, and that a byte that is changed is found. No program; no condition beyond what each says.
-/
namespace Go.Proofs.YtfbljmkjiaklfaaGreatDoor
open Go.RowKit
set_option maxRecDepth 100000
set_option linter.unusedVariables false

/-- Numbers that may stand ahead of data. -/
def secR (p s : Int) : Bool := decide (0 ≤ p ∧ p < 4294967296 ∧ 0 ≤ s ∧ s ≤ 4611686018427387904)
/-- What is summed. -/
def secBody (p s : Int) (l : List Int) : List Int := putB p 4 ++ putB s 8 ++ l
/-- The sector of a page. -/
def secL (p s : Int) (l : List Int) : List Int := putB (sumOf (secBody p s l) : Int) 4 ++ secBody p s l
/-- What Pack answers. -/
def packR (p s : Int) (l : List Int) : List Int × Int := if secR p s = true ∧ l.length = 240 then (secL p s l, 0) else ([], 1)
/-- Whether bytes are a sector. -/
def isSec (l : List Int) : Prop := l.length = 256 ∧ numOf (l.take 4) = (sumOf (l.drop 4) : Int) ∧ secR (numOf ((l.drop 4).take 4)) (numOf ((l.drop 8).take 8)) = true
instance (l : List Int) : Decidable (isSec l) := by unfold isSec; infer_instance
/-- What Unpack answers. -/
def unpackR (l : List Int) : Int × Int × List Int × Int := if isSec l then (numOf ((l.drop 4).take 4), numOf ((l.drop 8).take 8), l.drop 16, 0) else (0, 0, [], 4)

theorem secR_right {p s : Int} (h : secR p s = true) : rightB p 4 = true ∧ rightB s 8 = true := by
  have h' := of_decide_eq_true h
  obtain ⟨a, b, c, d⟩ := h'
  exact ⟨by simp [rightB, a, b], by simp [rightB]⟩
theorem sum_right {l : List Int} (h : AllBytes l) : rightB (sumOf l : Int) 4 = true := by
  have := sumOf_lt h
  have b : ((sumOf l : Nat) : Int) < 4294967296 := by omega
  simp [rightB, b]
theorem secR_ints {p s : Int} (h : secR p s = true) : -9223372036854775808 ≤ p ∧ p ≤ 9223372036854775807 ∧ -9223372036854775808 ≤ s ∧ s ≤ 9223372036854775807 := by
  have h' := of_decide_eq_true h
  omega
theorem secBody_bytes (p s : Int) {l : List Int} (h : AllBytes l) : AllBytes (secBody p s l) := (AllBytes.append (putB_bytes _ _) (putB_bytes _ _)).append h
theorem secBody_length (p s : Int) (l : List Int) : (secBody p s l).length = l.length + 12 := by
  simp [secBody, putB_length]; omega
theorem secL_bytes (p s : Int) {l : List Int} (h : AllBytes l) : AllBytes (secL p s l) := AllBytes.append (putB_bytes _ _) (secBody_bytes p s h)
theorem secL_length (p s : Int) (l : List Int) : (secL p s l).length = l.length + 16 := by
  simp [secL, putB_length, secBody_length]; omega
theorem packR_bytes (p s : Int) {l : List Int} (h : AllBytes l) : AllBytes (packR p s l).1 := by
  unfold packR
  split
  · exact secL_bytes p s h
  · exact AllBytes.nil
theorem unpackR_bytes {l : List Int} (h : AllBytes l) : AllBytes (unpackR l).2.2.1 := by
  unfold unpackR
  split
  · exact h.drop 16
  · exact AllBytes.nil

/-- The parts of a sector that was packed. -/
theorem secL_parts (p s : Int) (l : List Int) : (secL p s l).take 4 = putB (sumOf (secBody p s l) : Int) 4 ∧ (secL p s l).drop 4 = secBody p s l ∧ ((secL p s l).drop 4).take 4 = putB p 4 ∧ ((secL p s l).drop 8).take 8 = putB s 8 ∧ (secL p s l).drop 16 = l := by
  have e1 : (secL p s l).drop 4 = secBody p s l := by
    unfold secL
    rw [List.drop_append_of_le_length (by rw [putB_length]; omega), List.drop_of_length_le (by rw [putB_length]; omega), List.nil_append]
  have e2 : (secBody p s l).drop 4 = putB s 8 ++ l := by
    unfold secBody
    rw [List.append_assoc, List.drop_append_of_le_length (by rw [putB_length]; omega), List.drop_of_length_le (by rw [putB_length]; omega), List.nil_append]
  refine ⟨?_, e1, ?_, ?_, ?_⟩
  · unfold secL
    rw [List.take_append_of_le_length (by rw [putB_length]; omega), List.take_of_length_le (by rw [putB_length]; omega)]
  · rw [e1]
    unfold secBody
    rw [List.append_assoc, List.take_append_of_le_length (by rw [putB_length]; omega), List.take_of_length_le (by rw [putB_length]; omega)]
  · rw [show 8 = 4 + 4 from rfl, ← List.drop_drop, e1, e2]
    rw [List.take_append_of_le_length (by rw [putB_length]; omega), List.take_of_length_le (by rw [putB_length]; omega)]
  · rw [show 16 = 4 + (4 + 8) from rfl, ← List.drop_drop, e1, ← List.drop_drop, e2, List.drop_append_of_le_length (by rw [putB_length]; omega), List.drop_of_length_le (by rw [putB_length]; omega), List.nil_append]

/-- What was packed is unpacked. -/
theorem unpack_pack {p s : Int} {l : List Int} (hl : AllBytes l) (h : secR p s = true) (hn : l.length = 240) : unpackR (secL p s l) = (p, s, l, 0) := by
  obtain ⟨e1, e2, e3, e4, e5⟩ := secL_parts p s l
  obtain ⟨r1, r2⟩ := secR_right h
  obtain ⟨b1, b2, b3, b4⟩ := secR_ints h
  have hsum := sumOf_lt (secBody_bytes p s hl)
  have n1 : numOf (putB p 4) = p := wrap_putB r1 b1 b2
  have n2 : numOf (putB s 8) = s := wrap_putB r2 b3 b4
  have n3 : numOf (putB (sumOf (secBody p s l) : Int) 4) = (sumOf (secBody p s l) : Int) := wrap_putB (sum_right (secBody_bytes p s hl)) (by omega) (by omega)
  have hsec : isSec (secL p s l) := ⟨by rw [secL_length, hn], by rw [e1, n3, e2], by rw [e3, e4, n1, n2]; exact h⟩
  unfold unpackR
  rw [if_pos hsec, e3, e4, e5, n1, n2]

theorem putB_numOf4 {l : List Int} (h : AllBytes l) (hn : l.length = 4) : putB (numOf l) 4 = l := by
  match l, hn with
  | [a, b, c, d], _ =>
    have ha := h a (by simp); have hb := h b (by simp); have hc := h c (by simp); have hd := h d (by simp)
    rw [numOf_eq _ h]
    simp only [beOf, List.foldl_cons, List.foldl_nil, putB, List.nil_append, List.cons_append, List.cons.injEq, and_true]
    unfold wrap64
    refine ⟨by omega, by omega, by omega, by omega⟩
theorem putB_numOf8 {l : List Int} (h : AllBytes l) (hn : l.length = 8) : putB (numOf l) 8 = l := by
  match l, hn with
  | [a, b, c, d, e, f, g, i], _ =>
    have ha := h a (by simp); have hb := h b (by simp); have hc := h c (by simp); have hd := h d (by simp)
    have he := h e (by simp); have hf := h f (by simp); have hg := h g (by simp); have hi := h i (by simp)
    rw [numOf_eq _ h]
    simp only [beOf, List.foldl_cons, List.foldl_nil, putB, List.nil_append, List.cons_append, List.cons.injEq, and_true]
    unfold wrap64
    refine ⟨by omega, by omega, by omega, by omega, by omega, by omega, by omega, by omega⟩

/-- What is unpacked is packed as it was. -/
theorem pack_unpack {l : List Int} (hl : AllBytes l) (h : isSec l) : secL (numOf ((l.drop 4).take 4)) (numOf ((l.drop 8).take 8)) (l.drop 16) = l := by
  obtain ⟨hn, hs, hr⟩ := h
  have hb : secBody (numOf ((l.drop 4).take 4)) (numOf ((l.drop 8).take 8)) (l.drop 16) = l.drop 4 := by
    unfold secBody
    rw [putB_numOf4 ((hl.drop 4).take 4) (by simp; omega), putB_numOf8 ((hl.drop 8).take 8) (by simp; omega)]
    rw [List.append_assoc, show l.drop 16 = (l.drop 8).drop 8 from by rw [List.drop_drop], List.take_append_drop, show l.drop 8 = (l.drop 4).drop 4 from by rw [List.drop_drop], List.take_append_drop]
  unfold secL
  rw [hb, ← hs, putB_numOf4 (hl.take 4) (by simp; omega), List.take_append_drop]

theorem sumOf_set_ne {l : List Int} (h : AllBytes l) {i : Nat} (hi : i < l.length) {y : Int} (hy : 0 ≤ y ∧ y < 256) (hne : l[i] ≠ y) : sumOf l ≠ sumOf (l.set i y) := by
  intro e
  unfold sumOf at e
  have e' := xor_right_inj e
  rw [List.map_set] at e'
  refine runB_changed (nat_byte h) (by decide) i (by simpa using hi) y.toNat (by omega) ?_ e'
  rw [List.getElem_map]
  have := h _ (List.getElem_mem hi)
  omega
theorem numOf4_inj {l m : List Int} (hl : AllBytes l) (hm : AllBytes m) (h1 : l.length = 4) (h2 : m.length = 4) (h : numOf l = numOf m) : l = m := by
  rw [← putB_numOf4 hl h1, ← putB_numOf4 hm h2, h]
theorem set_bytes {l : List Int} (h : AllBytes l) (i : Nat) {y : Int} (hy : 0 ≤ y ∧ y < 256) : AllBytes (l.set i y) := by
  intro x hx
  rcases List.mem_or_eq_of_mem_set hx with a | a
  · exact h x a
  · subst a; exact hy

/-- A byte that is changed is found. -/
theorem changed_found {l : List Int} (hl : AllBytes l) (h : isSec l) {i : Nat} (hi : i < l.length) {y : Int} (hy : 0 ≤ y ∧ y < 256) (hne : l[i] ≠ y) : ¬ isSec (l.set i y) := by
  obtain ⟨hn, hs, _⟩ := h
  rintro ⟨_, hs', _⟩
  by_cases h4 : i < 4
  · have e : (l.set i y).drop 4 = l.drop 4 := by rw [List.drop_set_of_lt h4]
    rw [e, ← hs] at hs'
    have e' := numOf4_inj ((set_bytes hl i hy).take 4) (hl.take 4) (by simp; omega) (by simp; omega) hs'
    have e2 : ((l.set i y).take 4)[i]? = (l.take 4)[i]? := by rw [e']
    rw [List.getElem?_take, List.getElem?_take, if_pos h4, if_pos h4, List.getElem?_set_self hi, List.getElem?_eq_getElem hi] at e2
    exact hne (Option.some.inj e2).symm
  · have e : (l.set i y).take 4 = l.take 4 := by rw [List.take_set_of_le (by omega)]
    have e2 : (l.set i y).drop 4 = (l.drop 4).set (i - 4) y := by
      rw [List.drop_set, if_neg (by omega)]
    rw [e, e2, hs] at hs'
    refine sumOf_set_ne (hl.drop 4) (i := i - 4) (y := y) (by simp; omega) hy ?_ (by exact_mod_cast hs')
    rw [List.getElem_drop]
    have : 4 + (i - 4) = i := by omega
    simpa [this] using hne
theorem unpack_changed {l : List Int} (hl : AllBytes l) (h : isSec l) {i : Nat} (hi : i < l.length) {y : Int} (hy : 0 ≤ y ∧ y < 256) (hne : l[i] ≠ y) : unpackR (l.set i y) = (0, 0, [], 4) := by
  unfold unpackR
  rw [if_neg (changed_found hl h hi hy hne)]
theorem secL_isSec {p s : Int} {l : List Int} (hl : AllBytes l) (h : secR p s = true) (hn : l.length = 240) : isSec (secL p s l) := by
  by_cases hs : isSec (secL p s l)
  · exact hs
  · have := unpack_pack hl h hn
    unfold unpackR at this
    rw [if_neg hs] at this
    simp at this

end Go.Proofs.YtfbljmkjiaklfaaGreatDoor
