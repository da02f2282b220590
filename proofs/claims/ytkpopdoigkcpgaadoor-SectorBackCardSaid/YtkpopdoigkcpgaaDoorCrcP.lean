/-
  Plain arithmetic of the sum: one bit's step, eight of them, four of them by a table; a step loses nothing, so a byte that is changed changes the sum. No program, no condition beyond 32 bits.
-/
import Derived.Laws.BitsLemmas
namespace Go.Proofs.YtkpopdoigkcpgaaDoor

/-- One bit's step. -/
def bit1 (x : Nat) : Nat := if x % 2 = 1 then (x / 2) ^^^ 3988292384 else x / 2
/-- One byte's step. -/
def stepB (s c : Nat) : Nat := bit1 (bit1 (bit1 (bit1 (bit1 (bit1 (bit1 (bit1 (s ^^^ c))))))))
/-- Four bits' steps, of four bits. -/
def tab4 : List Nat := [0, 498536548, 997073096, 651767980, 1994146192, 1802195444, 1303535960, 1342533948, 3988292384, 4027552580, 3604390888, 3412177804, 2607071920, 2262029012, 2685067896, 3183342108]
/-- Four bits' steps, by the table. -/
def nib (x : Nat) : Nat := (x / 16) ^^^ (tab4[x % 16]?.getD 0)
/-- The steps of some bytes. -/
def runB (s : Nat) (l : List Nat) : Nat := l.foldl stepB s

theorem xor_half (a b : Nat) : (a ^^^ b) / 2 = a / 2 ^^^ b / 2 := by
  have := Nat.shiftRight_xor_distrib (a := a) (b := b) (i := 1)
  simpa [Nat.shiftRight_succ] using this
theorem xor_parity (a b : Nat) : (a ^^^ b) % 2 = (a + b) % 2 := by
  have h := Nat.xor_mod_two_pow (a := a) (b := b) (n := 1)
  simp only [Nat.pow_one] at h
  rw [h]
  rcases Nat.mod_two_eq_zero_or_one a with ha | ha <;> rcases Nat.mod_two_eq_zero_or_one b with hb | hb <;> rw [ha, hb]
  · rw [show (a + b) % 2 = 0 from by omega]; rfl
  · rw [show (a + b) % 2 = 1 from by omega]; rfl
  · rw [show (a + b) % 2 = 1 from by omega]; rfl
  · rw [show (a + b) % 2 = 0 from by omega]; rfl

theorem bit1_xor (a b : Nat) : bit1 (a ^^^ b) = bit1 a ^^^ bit1 b := by
  unfold bit1
  rw [xor_parity, xor_half]
  rcases Nat.mod_two_eq_zero_or_one a with ha | ha <;> rcases Nat.mod_two_eq_zero_or_one b with hb | hb
  · rw [if_neg (by omega), if_neg (by omega), if_neg (by omega)]
  · rw [if_pos (by omega), if_neg (by omega), if_pos hb, Nat.xor_assoc]
  · rw [if_pos (by omega), if_pos ha, if_neg (by omega), Nat.xor_assoc, Nat.xor_assoc, Nat.xor_comm (b / 2)]
  · rw [if_neg (by omega), if_pos ha, if_pos hb]
    rw [Nat.xor_assoc, Nat.xor_comm 3988292384, Nat.xor_assoc, Nat.xor_self, Nat.xor_zero]

theorem bit1_even (q : Nat) : bit1 (2 * q) = q := by
  unfold bit1
  rw [if_neg (by omega)]
  omega

theorem nib_eq (x : Nat) : nib x = bit1 (bit1 (bit1 (bit1 x))) := by
  have hx : x = (16 * (x / 16)) ^^^ (x % 16) := by
    have h := Nat.two_pow_add_eq_or_of_lt (i := 4) (b := x % 16) (by omega) (x / 16)
    have h2 : 16 * (x / 16) ^^^ x % 16 = 16 * (x / 16) ||| x % 16 := by
      apply Nat.eq_of_testBit_eq
      intro i
      rw [Nat.testBit_xor, Nat.testBit_or]
      rcases Nat.lt_or_ge i 4 with hi | hi
      · have : (16 * (x / 16)).testBit i = false := by
          have := Nat.testBit_two_pow_mul (i := 4) (a := x / 16) (j := i)
          simp only [show (2 : Nat) ^ 4 = 16 from rfl] at this
          rw [this]; simp; omega
        rw [this]; simp
      · have : (x % 16).testBit i = false := Nat.testBit_lt_two_pow (Nat.lt_of_lt_of_le (show x % 16 < 2 ^ 4 by omega) (Nat.pow_le_pow_right (by decide) hi))
        rw [this]; simp
    rw [h2, ← show (2 : Nat) ^ 4 = 16 from rfl, ← h]
    omega
  have hlow : ∀ r, r < 16 → bit1 (bit1 (bit1 (bit1 r))) = tab4[r]?.getD 0 := by decide
  have hhigh : bit1 (bit1 (bit1 (bit1 (16 * (x / 16))))) = x / 16 := by
    rw [show 16 * (x / 16) = 2 * (8 * (x / 16)) from by omega, bit1_even, show 8 * (x / 16) = 2 * (4 * (x / 16)) from by omega, bit1_even,
      show 4 * (x / 16) = 2 * (2 * (x / 16)) from by omega, bit1_even, bit1_even]
  conv => rhs; rw [hx]
  rw [bit1_xor, bit1_xor, bit1_xor, bit1_xor, hhigh, hlow _ (by omega)]
  rfl

theorem stepB_nib (s c : Nat) : stepB s c = nib (nib (s ^^^ c)) := by
  rw [nib_eq, nib_eq]; rfl

theorem bit1_lt {x : Nat} (h : x < 4294967296) : bit1 x < 4294967296 := by
  unfold bit1
  split
  · exact Nat.xor_lt_two_pow (n := 32) (by omega) (by decide)
  · omega
theorem xor_lt {a b : Nat} (ha : a < 4294967296) (hb : b < 4294967296) : a ^^^ b < 4294967296 := Nat.xor_lt_two_pow (n := 32) ha hb
theorem stepB_lt {s c : Nat} (hs : s < 4294967296) (hc : c < 4294967296) : stepB s c < 4294967296 :=
  bit1_lt (bit1_lt (bit1_lt (bit1_lt (bit1_lt (bit1_lt (bit1_lt (bit1_lt (xor_lt hs hc))))))))
theorem runB_lt {l : List Nat} (hl : ∀ c ∈ l, c < 256) {s : Nat} (hs : s < 4294967296) : runB s l < 4294967296 := by
  induction l generalizing s with
  | nil => exact hs
  | cons c l ih => exact ih (fun d hd => hl d (List.mem_cons_of_mem _ hd)) (stepB_lt hs (by have := hl c (List.mem_cons_self ..); omega))

/-- The bit that leaves stands in the highest place: nothing is lost. -/
theorem bit1_inj {x y : Nat} (hx : x < 4294967296) (hy : y < 4294967296) (h : bit1 x = bit1 y) : x = y := by
  have high : ∀ a, a < 2147483648 → 2147483648 ≤ a ^^^ 3988292384 := by
    intro a ha
    have ht : (a ^^^ 3988292384).testBit 31 = true := by
      rw [Nat.testBit_xor, Nat.testBit_lt_two_pow (show a < 2 ^ 31 from ha)]
      decide
    exact Nat.ge_two_pow_of_testBit ht
  have cancel : ∀ a b : Nat, a ^^^ 3988292384 = b ^^^ 3988292384 → a = b := by
    intro a b e
    have := congrArg (· ^^^ 3988292384) e
    simpa [Nat.xor_assoc] using this
  unfold bit1 at h
  by_cases h1 : x % 2 = 1 <;> by_cases h2 : y % 2 = 1
  · rw [if_pos h1, if_pos h2] at h
    have := cancel _ _ h
    omega
  · rw [if_pos h1, if_neg h2] at h
    have := high (x / 2) (by omega)
    omega
  · rw [if_neg h1, if_pos h2] at h
    have := high (y / 2) (by omega)
    omega
  · rw [if_neg h1, if_neg h2] at h
    omega

theorem stepB_inj {x y : Nat} (c d : Nat) (hx : x < 4294967296) (hy : y < 4294967296) (hc : c < 4294967296) (hd : d < 4294967296) (h : stepB x c = stepB y d) : x ^^^ c = y ^^^ d := by
  have a := xor_lt hx hc
  have b := xor_lt hy hd
  unfold stepB at h
  exact bit1_inj a b (bit1_inj (bit1_lt a) (bit1_lt b) (bit1_inj (bit1_lt (bit1_lt a)) (bit1_lt (bit1_lt b)) (bit1_inj (bit1_lt (bit1_lt (bit1_lt a))) (bit1_lt (bit1_lt (bit1_lt b)))
    (bit1_inj (bit1_lt (bit1_lt (bit1_lt (bit1_lt a)))) (bit1_lt (bit1_lt (bit1_lt (bit1_lt b)))) (bit1_inj (bit1_lt (bit1_lt (bit1_lt (bit1_lt (bit1_lt a))))) (bit1_lt (bit1_lt (bit1_lt (bit1_lt (bit1_lt b)))))
      (bit1_inj (bit1_lt (bit1_lt (bit1_lt (bit1_lt (bit1_lt (bit1_lt a)))))) (bit1_lt (bit1_lt (bit1_lt (bit1_lt (bit1_lt (bit1_lt b)))))) (bit1_inj (bit1_lt (bit1_lt (bit1_lt (bit1_lt (bit1_lt (bit1_lt (bit1_lt a))))))) (bit1_lt (bit1_lt (bit1_lt (bit1_lt (bit1_lt (bit1_lt (bit1_lt b))))))) h)))))))

theorem xor_right_inj {x y c : Nat} (h : x ^^^ c = y ^^^ c) : x = y := by
  have := congrArg (· ^^^ c) h
  simpa [Nat.xor_assoc] using this
theorem xor_left_inj {s c d : Nat} (h : s ^^^ c = s ^^^ d) : c = d := by
  rw [Nat.xor_comm s, Nat.xor_comm s] at h
  exact xor_right_inj h

theorem runB_inj {l : List Nat} (hl : ∀ c ∈ l, c < 256) {x y : Nat} (hx : x < 4294967296) (hy : y < 4294967296) (h : runB x l = runB y l) : x = y := by
  induction l generalizing x y with
  | nil => exact h
  | cons c l ih =>
    have hc : c < 4294967296 := by have := hl c (List.mem_cons_self ..); omega
    have := ih (fun d hd => hl d (List.mem_cons_of_mem _ hd)) (stepB_lt hx hc) (stepB_lt hy hc) h
    exact xor_right_inj (stepB_inj c c hx hy hc hc this)

/-- A byte that is changed changes the sum. -/
theorem runB_changed {l : List Nat} (hl : ∀ c ∈ l, c < 256) {s : Nat} (hs : s < 4294967296) (i : Nat) (hi : i < l.length) (d : Nat) (hd : d < 256) (hne : l[i] ≠ d) : runB s l ≠ runB s (l.set i d) := by
  induction l generalizing s i with
  | nil => simp at hi
  | cons c l ih =>
    have hc : c < 4294967296 := by have := hl c (List.mem_cons_self ..); omega
    have hl' : ∀ c ∈ l, c < 256 := fun d hd => hl d (List.mem_cons_of_mem _ hd)
    cases i with
    | zero =>
      intro h
      have h' : runB (stepB s c) l = runB (stepB s d) l := h
      have := runB_inj hl' (stepB_lt hs hc) (stepB_lt hs (by omega)) h'
      exact hne (xor_left_inj (stepB_inj c d hs hs hc (by omega) this))
    | succ i => exact ih hl' (stepB_lt hs hc) i (by simpa using hi) (by simpa using hne)

end Go.Proofs.YtkpopdoigkcpgaaDoor
