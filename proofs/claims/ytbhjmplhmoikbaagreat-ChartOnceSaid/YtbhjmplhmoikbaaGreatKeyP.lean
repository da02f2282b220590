/-
  Keys as plain lists: a tag with numbers in 4 bytes each; what a key tells. No program; no condition beyond what each says.
-/
import Derived.Test.YtbhjmplhmoikbaaGreatFldP
import Derived.Lib.BytesEntry
import Derived.Laws.Externs
import Derived.Lib.Walk
import Derived.Lib.Strings
import Derived.Lib.Slices
import Derived.Laws.Strings3
namespace Go.Proofs.YtbhjmplhmoikbaaGreat
open Go.RowKit
set_option maxRecDepth 100000
set_option linter.unusedVariables false

/-- A tag with numbers behind it, and a key: of too many the first 7, held. -/
def tagL (t : Int) (l : List Int) : List Int := t :: packN 4 l
def keyL (t : Int) (l : List Int) : List Int := tagL t ((l.take 7).map held4)
/-- What a key tells: its tag, its numbers, whether it is one. -/
def splitR (b : List Int) : Int × List Int × Bool := if 1 ≤ b.length ∧ b.length ≤ 29 ∧ b.length % 4 = 1 then (b[0]?.getD 0, unpackN 4 b 1 (b.length / 4), true) else (0, [], false)
theorem tagL_length (t : Int) (l : List Int) : (tagL t l).length = 1 + 4 * l.length := by simp [tagL, packN_length]; omega
theorem tagL_bytes {t : Int} (h : 0 ≤ t ∧ t < 256) (l : List Int) : AllBytes (tagL t l) := fun x hx => by
  rcases List.mem_cons.1 hx with rfl | hx
  · exact h
  · exact packN_bytes 4 l x hx
theorem tagL_step (t : Int) (l : List Int) (i : Nat) (h : i < l.length) : tagL t ((l.take (i + 1)).map held4) = tagL t ((l.take i).map held4) ++ putB (held4 (l[i]?.getD 0)) 4 := by
  unfold tagL
  rw [List.take_succ_eq_append_getElem h, List.map_append, packN_append, List.cons_append]
  congr 2
  rw [List.map_singleton, packN_one]
  simp [List.getElem?_eq_getElem h]
theorem map_held4 {l : List Int} (h : ∀ x ∈ l, 0 ≤ x ∧ x < 4294967296) : l.map held4 = l := by
  conv => rhs; rw [← List.map_id l]
  exact List.map_congr_left fun x hx => held4_same (h x hx)
theorem split_key {t : Int} {l : List Int} (h : ∀ x ∈ l, 0 ≤ x ∧ x < 4294967296) (hl : l.length ≤ 7) : splitR (keyL t l) = (t, l, true) := by
  unfold keyL
  rw [List.take_of_length_le hl, map_held4 h]
  unfold splitR
  rw [tagL_length, if_pos (by omega)]
  have e : (1 + 4 * l.length) / 4 = l.length := by omega
  rw [e]
  have e2 : unpackN 4 (tagL t l) 1 l.length = l := by
    show unpackN 4 ([t] ++ packN 4 l) 1 l.length = l
    rw [unpackN_cons 4 [t] _ 1 _ rfl]
    exact unpack_pack 4 l fun x hx => num4 (h x hx)
  rw [e2]
  rfl
theorem getR_at4 {b : List Int} {n k : Nat} (hb : b.length = n) (hk : 1 + 4 * k + 4 ≤ n) : getR b ((1 + 4 * k : Nat) : Int) 4 = (numOf ((b.drop (1 + 4 * k)).take 4), 0) := by
  unfold getR
  rw [if_pos ⟨by decide, by omega⟩, if_neg (by omega)]
  rw [Int.toNat_natCast]
  rfl
theorem getR_not4 {b : List Int} {n k : Nat} (hb : b.length = n) (hk : n < 1 + 4 * k + 4) : getR b ((1 + 4 * k : Nat) : Int) 4 = (0, 3) := by
  unfold getR
  rw [if_pos ⟨by decide, by omega⟩, if_pos (by omega)]

end Go.Proofs.YtbhjmplhmoikbaaGreat
