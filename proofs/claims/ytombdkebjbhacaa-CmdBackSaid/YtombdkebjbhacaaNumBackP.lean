/-
  Plain: a number that Put put is what Get gets. Condition: the number is an int.
-/
import Derived.Test.YtombdkebjbhacaaGet
import Derived.Test.YtombdkebjbhacaaPut
namespace Go.Proofs.Ytombdkebjbhacaa
open Go.RowKit
set_option maxRecDepth 100000
set_option linter.unusedVariables false

theorem wrap_putB {x s : Int} (h : rightB x s = true) (hxl : -9223372036854775808 ≤ x) (hxh : x ≤ 9223372036854775807) : numOf (putB x s.toNat) = x := by
  rw [numOf_eq _ (putB_bytes _ _), beOf_putB]
  rcases right_size h with rfl | rfl | rfl | rfl
  · have hb : 0 ≤ x ∧ x < 256 := by simpa [rightB] using h
    rw [show (256 : Int) ^ (1 : Int).toNat = 256 from rfl]
    unfold wrap64; omega
  · have hb : 0 ≤ x ∧ x < 65536 := by simpa [rightB] using h
    rw [show (256 : Int) ^ (2 : Int).toNat = 65536 from rfl]
    unfold wrap64; omega
  · have hb : 0 ≤ x ∧ x < 4294967296 := by simpa [rightB] using h
    rw [show (256 : Int) ^ (4 : Int).toNat = 4294967296 from rfl]
    unfold wrap64; omega
  · rw [show (256 : Int) ^ (8 : Int).toNat = 18446744073709551616 from rfl]
    unfold wrap64; omega

theorem get_put {l : List Int} {x s : Int} (h : rightB x s = true) (hxl : -9223372036854775808 ≤ x) (hxh : x ≤ 9223372036854775807) : getR (putR l x s) (l.length : Int) s = (x, 0) := by
  have hs : sizeB s = true := by
    rcases right_size h with rfl | rfl | rfl | rfl <;> decide
  obtain ⟨k, rfl⟩ := Int.eq_ofNat_of_zero_le (show 0 ≤ s by rcases right_size h with h | h | h | h <;> omega)
  have hn := wrap_putB h hxl hxh
  unfold getR putR
  rw [if_pos h, if_pos ⟨hs, by omega⟩, if_neg (by simp [putB_length])]
  simp only [Int.toNat_natCast] at hn ⊢
  rw [List.drop_left, List.take_of_length_le (by rw [putB_length]; exact Nat.le_refl _), hn]

end Go.Proofs.Ytombdkebjbhacaa
