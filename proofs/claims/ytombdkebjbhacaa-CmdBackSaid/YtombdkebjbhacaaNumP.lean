/-
  Plain arithmetic of numbers as bytes, the highest first: what some bytes are as a number, what bytes a number has, and that the one undoes the other. No program, no condition.
-/
import Derived.Laws.BitsLemmas
import Derived.RowKit
namespace Go.Proofs.Ytombdkebjbhacaa
open Go.RowKit
set_option maxRecDepth 100000

/-- One byte more behind a number. -/
def stepN (n c : Int) : Int := bits .or .i64 (wrap64 (n * 256)) c
/-- The number of some bytes. -/
def numOf (l : List Int) : Int := l.foldl stepN 0
/-- The same, not wrapped. -/
def beOf (l : List Int) : Int := l.foldl (fun n c => n * 256 + c) 0
/-- The last k bytes of a number, the highest first. -/
def putB (n : Int) : Nat → List Int | 0 => [] | k + 1 => putB (n / 256) k ++ [n % 256]

theorem numOf_snoc (l : List Int) (x : Int) : numOf (l ++ [x]) = stepN (numOf l) x := by simp [numOf]
theorem beOf_snoc (l : List Int) (x : Int) : beOf (l ++ [x]) = beOf l * 256 + x := by simp [beOf]
theorem numOf_step (l : List Int) (a k : Nat) (h : a + k < l.length) : numOf ((l.drop a).take (k + 1)) = stepN (numOf ((l.drop a).take k)) (l[a + k]?.getD 0) := by
  have e : (l.drop a).take (k + 1) = (l.drop a).take k ++ [l[a + k]?.getD 0] := by
    rw [List.take_succ_eq_append_getElem (by simp; omega)]
    simp [List.getElem?_eq_getElem h]
  rw [e, numOf_snoc]

theorem bits_or_nat64 (x y : Int) : bits .or .i64 x y = wrap64 (((x % 18446744073709551616).toNat ||| (y % 18446744073709551616).toNat : Nat) : Int) := by
  have e : ∀ z : Int, IntKind.i64.wrap z = wrap64 z := fun z => by rw [IntKind.wrap_i64]; first | rfl | (unfold wrap64; rfl) | unfold wrap64
  simp only [bits]
  rw [e, BitVec.toNat_or, BitVec.toNat_ofInt, BitVec.toNat_ofInt]
  rfl

theorem stepN_eq (n c : Int) (h0 : 0 ≤ c) (h1 : c < 256) : stepN n c = wrap64 (n * 256 + c) := by
  unfold stepN
  rw [bits_or_nat64]
  obtain ⟨q, hq⟩ : ∃ q : Nat, (wrap64 (n * 256) % 18446744073709551616).toNat = 256 * q := by
    refine ⟨(wrap64 (n * 256) % 18446744073709551616).toNat / 256, ?_⟩
    unfold wrap64
    omega
  obtain ⟨d, rfl⟩ := Int.eq_ofNat_of_zero_le h0
  have hd : ((d : Int) % 18446744073709551616).toNat = d := by omega
  rw [hq, hd]
  have hor : 256 * q ||| d = 256 * q + d := (Nat.two_pow_add_eq_or_of_lt (i := 8) (by omega) q).symm
  rw [hor]
  unfold wrap64 at hq ⊢
  omega

theorem numOf_eq (l : List Int) (h : ∀ x ∈ l, 0 ≤ x ∧ x < 256) : numOf l = wrap64 (beOf l) := by
  suffices H : ∀ k, k ≤ l.length → numOf (l.take k) = wrap64 (beOf (l.take k)) by
    have := H l.length (Nat.le_refl _); rwa [List.take_length] at this
  intro k
  induction k with
  | zero => intro _; simp [numOf, beOf, wrap64]
  | succ k ih =>
    intro hk
    rw [List.take_succ_eq_append_getElem (by omega), numOf_snoc, beOf_snoc, ih (by omega)]
    obtain ⟨a, b⟩ := h _ (List.getElem_mem (by omega : k < l.length))
    rw [stepN_eq _ _ a b]
    generalize beOf (List.take k l) = z
    unfold wrap64
    omega

theorem putB_length (n : Int) (k : Nat) : (putB n k).length = k := by
  induction k generalizing n with
  | zero => rfl
  | succ k ih => simp [putB, ih]
theorem putB_bytes (n : Int) (k : Nat) : ∀ x ∈ putB n k, 0 ≤ x ∧ x < 256 := by
  induction k generalizing n with
  | zero => intro x hx; cases hx
  | succ k ih =>
    intro x hx
    simp only [putB, List.mem_append, List.mem_singleton] at hx
    rcases hx with h | h
    · exact ih _ x h
    · subst h; omega
theorem beOf_putB (n : Int) (k : Nat) : beOf (putB n k) = n % 256 ^ k := by
  induction k generalizing n with
  | zero => simp [putB, beOf]
  | succ k ih =>
    rw [putB, beOf_snoc, ih, Int.pow_succ]
    have h1 := Int.emod_add_mul_ediv n 256
    have h2 := Int.emod_add_mul_ediv (n / 256) (256 ^ k)
    have hp : (0 : Int) < 256 ^ k := Int.pow_pos (by decide)
    have h3 : 0 ≤ n / 256 % 256 ^ k := Int.emod_nonneg _ (by omega)
    have h4 : n / 256 % 256 ^ k < 256 ^ k := Int.emod_lt_of_pos _ hp
    have h5 : n = (n / 256 % 256 ^ k * 256 + n % 256) + (256 ^ k * 256) * (n / 256 / 256 ^ k) := by
      have : 256 ^ k * 256 * (n / 256 / 256 ^ k) = 256 * (256 ^ k * (n / 256 / 256 ^ k)) := by
        rw [Int.mul_comm (256 ^ k) 256, Int.mul_assoc]
      rw [this]; omega
    have h6 : (n / 256 % 256 ^ k * 256 + n % 256) % (256 ^ k * 256) = n / 256 % 256 ^ k * 256 + n % 256 :=
      Int.emod_eq_of_lt (by omega) (by omega)
    rw [← h6]
    conv => rhs; rw [h5]
    rw [Int.add_mul_emod_self_left]

/-- n shifted j bytes down. -/
def shN (n : Int) : Nat → Int | 0 => n | j + 1 => shN n j / 256
theorem shN_front (n : Int) (j : Nat) : shN n (j + 1) = shN (n / 256) j := by
  induction j with
  | zero => rfl
  | succ j ih => rw [shN, ih]; rfl
theorem putB_front (n : Int) (j : Nat) : putB n (j + 1) = (shN n j % 256) :: putB n j := by
  induction j generalizing n with
  | zero => simp [putB, shN]
  | succ j ih =>
    rw [putB, ih, shN_front]
    conv => rhs; rw [putB]
    simp
theorem shN_bounds (n : Int) (h0 : -9223372036854775808 ≤ n) (h1 : n ≤ 9223372036854775807) (j : Nat) : -9223372036854775808 ≤ shN n j ∧ shN n j ≤ 9223372036854775807 := by
  induction j with
  | zero => exact ⟨h0, h1⟩
  | succ j ih => rw [shN]; omega

end Go.Proofs.Ytombdkebjbhacaa
