/-
  Facts for a row of the call's own of which one byte is changed. Plain facts; no condition beyond what each says.
-/
import Derived.Test.YtkpopdoigkcpgaaDoorCrcW
import Derived.Test.YtkpopdoigkcpgaaDoorApp
namespace Go.Proofs.YtkpopdoigkcpgaaDoor
open Go.RowKit
set_option linter.unusedVariables false

theorem u8_xor (a b : Nat) (ha : a < 256) (hb : b < 256) : bits .xor .u8 (a : Int) (b : Int) = ((a ^^^ b : Nat) : Int) := by
  have hw : ∀ n : Int, 0 ≤ n → n < 256 → IntKind.u8.wrap n = n := fun n h0 h1 => by rw [IntKind.wrap_u8]; omega
  have ha' : a % 256 = a := Nat.mod_eq_of_lt ha
  have hb' : b % 256 = b := Nat.mod_eq_of_lt hb
  simp only [bits, BitVec.ofInt_natCast, BitVec.toNat_xor, BitVec.toNat_ofNat]
  rw [show (2 : Nat) ^ IntKind.u8.bits = 256 from rfl, ha', hb']
  exact hw _ (Int.natCast_nonneg _) (by have := Nat.xor_lt_two_pow (n := 8) (show a < 2 ^ 8 from ha) hb; omega)

theorem changed_parts {l : List Int} (h : AllBytes l) {i by_ : Nat} (hi : i < l.length) (hb : by_ < 256) (hne : by_ ≠ 0) :
    ∃ y : Nat, y < 256 ∧ l[i]? = some (y : Int) ∧ bits .xor .u8 (y : Int) (by_ : Int) = ((y ^^^ by_ : Nat) : Int) ∧ (AllBytes (l.set i ((y ^^^ by_ : Nat) : Int)) ∧ sumOf l ≠ sumOf (l.set i ((y ^^^ by_ : Nat) : Int))) := by
  obtain ⟨h0, h1⟩ := h _ (List.getElem_mem hi)
  obtain ⟨y, hy⟩ := Int.eq_ofNat_of_zero_le h0
  have hy256 : y < 256 := by omega
  have hx : y ^^^ by_ < 256 := Nat.xor_lt_two_pow (n := 8) hy256 hb
  refine ⟨y, hy256, by rw [List.getElem?_eq_getElem hi, hy], u8_xor y by_ hy256 hb, ?_, ?_⟩
  · intro x hxm
    rcases List.mem_or_eq_of_mem_set hxm with a | a
    · exact h x a
    · omega
  · intro e
    unfold sumOf at e
    have e' := xor_right_inj e
    rw [List.map_set, Int.toNat_natCast] at e'
    refine runB_changed (nat_byte h) (by decide) i (by simpa using hi) (y ^^^ by_) hx ?_ e'
    rw [List.getElem_map, hy, Int.toNat_natCast]
    intro e2
    have e3 : y ^^^ 0 = y ^^^ by_ := by rw [Nat.xor_zero]; exact e2
    exact hne (xor_left_inj e3).symm

theorem own_head {w : World} {base e n : Nat} {v : Value} {xs : List Value} (h : w.ownsRow base e 1 v n xs) (hn : 0 < n) : ∃ g c, v = .slice (some ⟨g, 0, none⟩) n c ∧ base ≤ g ∧ n ≤ c := by
  rcases h.2 with ⟨_, h0⟩ | ⟨g, cap, cur, rfl, hb, _, hnc, _⟩
  · omega
  · exact ⟨g, cap, rfl, hb, hnc⟩

theorem own_cell {w : World} {base e g n c : Nat} {l : List Int} (h : w.ownsRow base e 1 (.slice (some ⟨g, 0, none⟩) n c) n (l.map (Value.int .u8))) (i : Nat) (hi : i < n) {y : Int} (hy : l[i]? = some y) : w.cell? ⟨g, i, none⟩ = some (.int .u8 y) := by
  rw [h.cellAt i (by omega), List.getElem?_map, hy]
  rfl

theorem own_set {w : World} {base e g n c : Nat} {l : List Int} (h : w.ownsRow base e 1 (.slice (some ⟨g, 0, none⟩) n c) n (l.map (Value.int .u8))) (i : Nat) (y : Int) : (w.setCell ⟨g, i, none⟩ (.int .u8 y)).ownsRow base e 1 (.slice (some ⟨g, 0, none⟩) n c) n ((l.set i y).map (Value.int .u8)) := by
  rw [List.map_set]
  exact (h.stored i _).1

end Go.Proofs.YtkpopdoigkcpgaaDoor
