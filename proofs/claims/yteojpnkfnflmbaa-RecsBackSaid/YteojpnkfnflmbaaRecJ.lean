/-
  What was made a pair is told of it again: a node, a document, its line, an entry, its line. Condition: key numbers of 32 bits, others ints.
-/
import Derived.Test.YteojpnkfnflmbaaRecG
namespace Go.Proofs.Yteojpnkfnflmbaa
open Go.RowKit
set_option maxRecDepth 100000
set_option linter.unusedVariables false

theorem bit_ne (b : Bool) : (bitI b != 0) = b := by cases b <;> rfl
theorem bit_in (b : Bool) : -9223372036854775808 ≤ bitI b ∧ bitI b ≤ 9223372036854775807 := by cases b <;> decide

theorem madeNode_any (k0 : Int) (k1 : Int) (a2 : Int) (a3 : Int) (a4 : Int) (a5 : Bool) (a6 : Int) (a7 : Int) (a8 : Int) (a9 : Int) (a10 : Int) (a11 : Int) (kA : Option Addr) (kc : Nat) (vA : Option Addr) (vc : Nat) (W : World) (ta : Two_ W kA 9 kc vA 80 vc (keyL 78 [k0, k1]) (packN 8 [a2, a3, a4, bitI a5, a6, a7, a8, a9, a10, a11])) (hK : InU32 [k0, k1]) (hV : In64 [a2, a3, a4, bitI a5, a6, a7, a8, a9, a10, a11]) :
    Calls Try.prog 19 #[.agg #[.slice kA 9 kc, .slice vA 80 vc]] W fun e w' => e = .returned (.tuple #[.agg #[.int .i64 k0, .int .i64 k1, .int .i64 a2, .int .i64 a3, .int .i64 a4, .bool a5, .int .i64 a6, .int .i64 a7, .int .i64 a8, .int .i64 a9, .int .i64 a10, .int .i64 a11], .bool true]) ∧ Below W.heap.size W w' := by
  have h := recNodeOf_any kA 9 kc vA 80 vc (keyL 78 [k0, k1], packN 8 [a2, a3, a4, bitI a5, a6, a7, a8, a9, a10, a11]) W.heap.size W ta.k ta.v (Nat.le_refl _) ta.kc ta.vc (by unfold maxLen; omega) (by unfold maxLen; omega)
  rw [numsR_made (t := 78) (K := [k0, k1]) (V := [a2, a3, a4, bitI a5, a6, a7, a8, a9, a10, a11]) (i := 2) (j := 10) hK hV rfl (by omega) rfl (by omega)] at h
  simp only [nodeV, List.getElem?_cons_zero, List.getElem?_cons_succ, Option.getD_some, Option.isSome_some, bit_ne] at h
  exact h

theorem madeDoc_any (k0 : Int) (a1 : Int) (a2 : Int) (a3 : Int) (a4 : Int) (kA : Option Addr) (kc : Nat) (vA : Option Addr) (vc : Nat) (W : World) (ta : Two_ W kA 5 kc vA 32 vc (keyL 68 [k0]) (packN 8 [a1, a2, a3, a4])) (hK : InU32 [k0]) (hV : In64 [a1, a2, a3, a4]) :
    Calls Try.prog 21 #[.agg #[.slice kA 5 kc, .slice vA 32 vc]] W fun e w' => e = .returned (.tuple #[.agg #[.int .i64 k0, .int .i64 a1, .int .i64 a2, .int .i64 a3, .int .i64 a4], .bool true]) ∧ Below W.heap.size W w' := by
  have h := recDocOf_any kA 5 kc vA 32 vc (keyL 68 [k0], packN 8 [a1, a2, a3, a4]) W.heap.size W ta.k ta.v (Nat.le_refl _) ta.kc ta.vc (by unfold maxLen; omega) (by unfold maxLen; omega)
  rw [numsR_made (t := 68) (K := [k0]) (V := [a1, a2, a3, a4]) (i := 1) (j := 4) hK hV rfl (by omega) rfl (by omega)] at h
  simp only [docV, List.getElem?_cons_zero, List.getElem?_cons_succ, Option.getD_some, Option.isSome_some] at h
  exact h

theorem madeDocLine_any (a0 : Int) (a1 : Int) (a2 : Int) (a3 : Int) (k0 : Int) (k1 : Int) (kA : Option Addr) (kc : Nat) (vA : Option Addr) (vc : Nat) (W : World) (ta : Two_ W kA 9 kc vA 32 vc (keyL 76 [k0, k1]) (packN 8 [a0, a1, a2, a3])) (hK : InU32 [k0, k1]) (hV : In64 [a0, a1, a2, a3]) :
    Calls Try.prog 23 #[.agg #[.slice kA 9 kc, .slice vA 32 vc]] W fun e w' => e = .returned (.tuple #[.agg #[.int .i64 a0, .int .i64 a1, .int .i64 a2, .int .i64 a3], .bool true]) ∧ Below W.heap.size W w' := by
  have h := recDocLineOf_any kA 9 kc vA 32 vc (keyL 76 [k0, k1], packN 8 [a0, a1, a2, a3]) W.heap.size W ta.k ta.v (Nat.le_refl _) ta.kc ta.vc (by unfold maxLen; omega) (by unfold maxLen; omega)
  rw [numsR_made (t := 76) (K := [k0, k1]) (V := [a0, a1, a2, a3]) (i := 2) (j := 4) hK hV rfl (by omega) rfl (by omega)] at h
  simp only [docLineV, List.getElem?_cons_zero, List.getElem?_cons_succ, Option.getD_some, Option.isSome_some] at h
  exact h

theorem madeEntry_any (k0 : Int) (a1 : Int) (a2 : Int) (a3 : Int) (a4 : Int) (a5 : Int) (kA : Option Addr) (kc : Nat) (vA : Option Addr) (vc : Nat) (W : World) (ta : Two_ W kA 5 kc vA 40 vc (keyL 69 [k0]) (packN 8 [a1, a2, a3, a4, a5])) (hK : InU32 [k0]) (hV : In64 [a1, a2, a3, a4, a5]) :
    Calls Try.prog 25 #[.agg #[.slice kA 5 kc, .slice vA 40 vc]] W fun e w' => e = .returned (.tuple #[.agg #[.int .i64 k0, .int .i64 a1, .int .i64 a2, .int .i64 a3, .int .i64 a4, .int .i64 a5], .bool true]) ∧ Below W.heap.size W w' := by
  have h := recEntryOf_any kA 5 kc vA 40 vc (keyL 69 [k0], packN 8 [a1, a2, a3, a4, a5]) W.heap.size W ta.k ta.v (Nat.le_refl _) ta.kc ta.vc (by unfold maxLen; omega) (by unfold maxLen; omega)
  rw [numsR_made (t := 69) (K := [k0]) (V := [a1, a2, a3, a4, a5]) (i := 1) (j := 5) hK hV rfl (by omega) rfl (by omega)] at h
  simp only [entryV, List.getElem?_cons_zero, List.getElem?_cons_succ, Option.getD_some, Option.isSome_some] at h
  exact h

theorem madeLine_any (a0 : Int) (a1 : Int) (a3 : Int) (k0 : Int) (k1 : Int) (kA : Option Addr) (kc : Nat) (vA : Option Addr) (vc : Nat) (W : World) (ta : Two_ W kA 9 kc vA 24 vc (keyL 74 [k0, k1]) (packN 8 [a0, a1, a3])) (hK : InU32 [k0, k1]) (hV : In64 [a0, a1, a3]) :
    Calls Try.prog 27 #[.agg #[.slice kA 9 kc, .slice vA 24 vc]] W fun e w' => e = .returned (.tuple #[.agg #[.int .i64 a0, .int .i64 a1, .int .i64 0, .int .i64 a3], .bool true]) ∧ Below W.heap.size W w' := by
  have h := recLineOf_any kA 9 kc vA 24 vc (keyL 74 [k0, k1], packN 8 [a0, a1, a3]) W.heap.size W ta.k ta.v (Nat.le_refl _) ta.kc ta.vc (by unfold maxLen; omega) (by unfold maxLen; omega)
  rw [numsR_made (t := 74) (K := [k0, k1]) (V := [a0, a1, a3]) (i := 2) (j := 3) hK hV rfl (by omega) rfl (by omega)] at h
  simp only [lineV, List.getElem?_cons_zero, List.getElem?_cons_succ, Option.getD_some, Option.isSome_some] at h
  exact h

end Go.Proofs.Yteojpnkfnflmbaa
