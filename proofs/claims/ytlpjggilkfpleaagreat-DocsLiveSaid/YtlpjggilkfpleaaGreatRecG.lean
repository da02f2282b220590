/-
  Contracts of the statements' own same and awake, and recs.Node and the plain one for a node of either kind. No condition but that numbers are ints.
-/
import Derived.Test.YtlpjggilkfpleaaGreatRecB
import Derived.Test.YtlpjggilkfpleaaGreatRecD
import Derived.Test.YtlpjggilkfpleaaGreatRecF
import Derived.Test.YtlpjggilkfpleaaGreatRecN
import Derived.Test.YtlpjggilkfpleaaGreatEqual
namespace Go.Proofs.YtlpjggilkfpleaaGreat
open Go.RowKit
set_option maxRecDepth 100000
set_option linter.unusedVariables false

/-- A bool as a number. -/
def bitI (b : Bool) : Int := if b then 1 else 0
theorem recNode_any (a0 a1 a2 a3 a4 : Int) (a5 : Bool) (a6 a7 a8 a9 a10 a11 : Int) (w : World) (h : In64 [a0, a1, a2, a3, a4, a6, a7, a8, a9, a10, a11]) :
    Calls Tryz.prog 38 #[.agg #[.int .i64 a0, .int .i64 a1, .int .i64 a2, .int .i64 a3, .int .i64 a4, .bool a5, .int .i64 a6, .int .i64 a7, .int .i64 a8, .int .i64 a9, .int .i64 a10, .int .i64 a11]] w fun e w' => RecPair w w' e (keyL 78 [a0, a1]) (packN 8 [a2, a3, a4, bitI a5, a6, a7, a8, a9, a10, a11]) := by
  cases a5 with
  | true => exact recNodeT_any a0 a1 a2 a3 a4 a6 a7 a8 a9 a10 a11 w h
  | false => exact recNodeF_any a0 a1 a2 a3 a4 a6 a7 a8 a9 a10 a11 w h
/-- A pair that reads as a key and a value. -/
structure Two_ (w : World) (kA : Option Addr) (kn kc : Nat) (vA : Option Addr) (vn vc : Nat) (K V : List Int) : Prop where
  k : RB w w.heap.size kA kn K
  v : RB w w.heap.size vA vn V
  kc : kn ≤ kc
  vc : vn ≤ vc
theorem Two_.later {w w' : World} {kA vA : Option Addr} {kn kc vn vc : Nat} {K V : List Int} (h : Two_ w kA kn kc vA vn vc K V) (hb : Below w.heap.size w w') : Two_ w' kA kn kc vA vn vc K V := ⟨(h.k.below hb).more hb.size, (h.v.below hb).more hb.size, h.kc, h.vc⟩
theorem RecPair.got {w w' : World} {e : Ending} {K V : List Int} (h : RecPair w w' e K V) (hK : AllBytes K) (hV : AllBytes V) : ∃ kA kc vA vc, e = .returned (.agg #[.slice kA K.length kc, .slice vA V.length vc]) ∧ Two_ w' kA K.length kc vA V.length vc K V ∧ Below w.heap.size w w' := by
  obtain ⟨kv, vv, rfl, hk, hv⟩ := h
  obtain ⟨kA, kc, rfl, h1, h2⟩ := hk.read hK
  obtain ⟨vA, vc, rfl, h3, h4⟩ := hv.read hV
  exact ⟨kA, kc, vA, vc, rfl, ⟨h2, h4, h1, h3⟩, hk.2⟩
theorem keyL_bytes {t : Int} (h : 0 ≤ t ∧ t < 256) (l : List Int) : AllBytes (keyL t l) := tagL_bytes h _
theorem keyL_len (t : Int) (l : List Int) (h : l.length ≤ 7) : (keyL t l).length = 1 + 4 * l.length := by unfold keyL; rw [tagL_length, List.length_map, List.length_take]; omega
/-- A call that made a pair, its sizes as numbers. -/
theorem RecPair.gets {w w' : World} {e : Ending} {t : Int} {K V : List Int} {nk nv : Nat} (h : RecPair w w' e (keyL t K) (packN 8 V)) (ht : 0 ≤ t ∧ t < 256) (h7 : K.length ≤ 7) (hk : 1 + 4 * K.length = nk) (hv : 8 * V.length = nv) : ∃ kA kc vA vc, e = .returned (.agg #[.slice kA nk kc, .slice vA nv vc]) ∧ Two_ w' kA nk kc vA nv vc (keyL t K) (packN 8 V) ∧ Below w.heap.size w w' := by
  subst hk hv
  have h' := h.got (keyL_bytes ht K) (packN_bytes 8 V)
  rw [keyL_len t K h7, packN_length] at h'
  exact h'

/-- What was made a pair is told of it again. -/
theorem numsR_made {t : Int} {K V : List Int} {i j : Nat} (hK : InU32 K) (hV : In64 V) (hi : K.length = i) (h7 : i ≤ 7) (hj : V.length = j) (h15 : j ≤ 15) : numsR (keyL t K, packN 8 V) t i j = some (K, V) := by
  have e1 : splitK (keyL t K) = (K, t, true) := by unfold splitK; rw [split_key hK (by omega)]
  have e2 : unpackR (packN 8 V) (j : Int) = (V, 0) := by
    subst hj
    unfold unpackR
    rw [if_pos ⟨by omega, by omega⟩, if_pos (by rw [packN_length]; omega), Int.toNat_natCast, unpack_pack 8 V (fun x hx => num8 (hV x hx))]
  unfold numsR
  simp only [e1, e2]
  rw [if_pos (by simp [hi])]
end Go.Proofs.YtlpjggilkfpleaaGreat
