/-
  Keys of one tag stand to one another as their numbers do, as plain lists. No program; no condition beyond what each says.
-/
import Derived.Test.YtihjlhegcoceoaaGreatKeyA
import Derived.Test.YtihjlhegcoceoaaGreatBcmp
namespace Go.Proofs.YtihjlhegcoceoaaGreat
open Go.RowKit
set_option maxRecDepth 100000
set_option linter.unusedVariables false

/-- How numbers stand to one another; lists of them. -/
def cmp1 (x y : Int) : Int := if x < y then -1 else if y < x then 1 else 0
def cmpI : List Int → List Int → Int
  | [], [] => 0
  | [], _ :: _ => -1
  | _ :: _, [] => 1
  | x :: l, y :: m => if cmp1 x y ≠ 0 then cmp1 x y else cmpI l m

theorem cmpT_byte {x y : Int} (hx : 0 ≤ x ∧ x < 256) (hy : 0 ≤ y ∧ y < 256) (l m : Txt) : Lib.compareBytes (tx [x] ++ l) (tx [y] ++ m) = if cmp1 x y ≠ 0 then cmp1 x y else Lib.compareBytes l m := by
  obtain ⟨a, rfl⟩ := Int.eq_ofNat_of_zero_le hx.1
  obtain ⟨b, rfl⟩ := Int.eq_ofNat_of_zero_le hy.1
  show (if UInt8.ofNat a < UInt8.ofNat b then (-1 : Int) else if UInt8.ofNat b < UInt8.ofNat a then 1 else Lib.compareBytes l m) = _
  have ha : (UInt8.ofNat a).toNat = a := by rw [UInt8.toNat_ofNat']; omega
  have hb : (UInt8.ofNat b).toNat = b := by rw [UInt8.toNat_ofNat']; omega
  have e1 : UInt8.ofNat a < UInt8.ofNat b ↔ a < b := by rw [UInt8.lt_iff_toNat_lt, ha, hb]
  have e2 : UInt8.ofNat b < UInt8.ofNat a ↔ b < a := by rw [UInt8.lt_iff_toNat_lt, ha, hb]
  unfold cmp1
  by_cases h1 : a < b
  · rw [if_pos (e1.2 h1), if_pos (show (a : Int) < b by omega)]; rfl
  · rw [if_neg (fun h => h1 (e1.1 h)), if_neg (show ¬ (a : Int) < b by omega)]
    by_cases h2 : b < a
    · rw [if_pos (e2.2 h2), if_pos (show (b : Int) < a by omega)]; rfl
    · rw [if_neg (fun h => h2 (e2.1 h)), if_neg (show ¬ (b : Int) < a by omega)]; rfl
theorem tx_append (l m : List Int) : tx (l ++ m) = tx l ++ tx m := by simp [tx]
theorem cmpT_num : ∀ (k : Nat) (x y : Int), 0 ≤ x → x < 256 ^ k → 0 ≤ y → y < 256 ^ k → ∀ l m : Txt, Lib.compareBytes (tx (putB x k) ++ l) (tx (putB y k) ++ m) = if cmp1 x y ≠ 0 then cmp1 x y else Lib.compareBytes l m
  | 0, x, y, hx0, hx1, hy0, hy1, l, m => by
    have : x = 0 := by rw [Int.pow_zero] at hx1; omega
    have : y = 0 := by rw [Int.pow_zero] at hy1; omega
    subst x y
    rfl
  | k + 1, x, y, hx0, hx1, hy0, hy1, l, m => by
    rw [Int.pow_succ] at hx1 hy1
    generalize hp : (256 : Int) ^ k = p at hx1 hy1
    have ih := cmpT_num k (x / 256) (y / 256) (by omega) (by rw [hp]; omega) (by omega) (by rw [hp]; omega)
    rw [putB, putB, tx_append, tx_append, List.append_assoc, List.append_assoc, ih, cmpT_byte (by omega) (by omega)]
    unfold cmp1
    by_cases h1 : x / 256 < y / 256
    · rw [if_pos h1, if_pos (show x < y by omega)]; rfl
    · rw [if_neg h1]
      by_cases h2 : y / 256 < x / 256
      · rw [if_pos h2, if_neg (show ¬ x < y by omega), if_pos (show y < x by omega)]; rfl
      · rw [if_neg h2]
        have e : x / 256 = y / 256 := by omega
        rw [if_neg (by decide)]
        by_cases h3 : x % 256 < y % 256
        · rw [if_pos h3, if_pos (show x < y by omega)]
        · rw [if_neg h3, if_neg (show ¬ x < y by omega)]
          by_cases h4 : y % 256 < x % 256
          · rw [if_pos h4, if_pos (show y < x by omega)]
          · rw [if_neg h4, if_neg (show ¬ y < x by omega)]
theorem cmpT_pack : ∀ (l m : List Int), (∀ x ∈ l, 0 ≤ x ∧ x < 4294967296) → (∀ x ∈ m, 0 ≤ x ∧ x < 4294967296) → Lib.compareBytes (tx (packN 4 l)) (tx (packN 4 m)) = cmpI l m
  | [], [], _, _ => rfl
  | [], y :: m, _, _ => by
    rw [show packN 4 (y :: m) = putB y 4 ++ packN 4 m from rfl, putB_front]
    rfl
  | x :: l, [], _, _ => by
    rw [show packN 4 (x :: l) = putB x 4 ++ packN 4 l from rfl, putB_front]
    rfl
  | x :: l, y :: m, hl, hm => by
    rw [show packN 4 (x :: l) = putB x 4 ++ packN 4 l from rfl, show packN 4 (y :: m) = putB y 4 ++ packN 4 m from rfl, tx_append, tx_append]
    have h1 := hl x List.mem_cons_self
    have h2 := hm y List.mem_cons_self
    rw [cmpT_num 4 x y h1.1 h1.2 h2.1 h2.2, cmpT_pack l m (fun z hz => hl z (List.mem_cons_of_mem _ hz)) (fun z hz => hm z (List.mem_cons_of_mem _ hz))]
    rfl
theorem cmpT_key {t : Int} (ht : 0 ≤ t ∧ t < 256) {l m : List Int} (hl : ∀ x ∈ l, 0 ≤ x ∧ x < 4294967296) (hm : ∀ x ∈ m, 0 ≤ x ∧ x < 4294967296) (h7 : l.length ≤ 7) (h7' : m.length ≤ 7) : Lib.compareBytes (tx (keyL t l)) (tx (keyL t m)) = cmpI l m := by
  unfold keyL
  rw [List.take_of_length_le h7, List.take_of_length_le h7', map_held4 hl, map_held4 hm]
  show Lib.compareBytes (tx ([t] ++ packN 4 l)) (tx ([t] ++ packN 4 m)) = _
  rw [tx_append, tx_append, cmpT_byte ht ht, cmpT_pack l m hl hm]
  unfold cmp1
  rw [if_neg (by omega)]

end Go.Proofs.YtihjlhegcoceoaaGreat
