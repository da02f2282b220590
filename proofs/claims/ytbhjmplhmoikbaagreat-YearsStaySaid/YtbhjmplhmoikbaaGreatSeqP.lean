/-
  Numbers given out, over plain lists: what Next makes of what stands at a key, of each of four kinds. Plain facts; no condition.
-/
import Derived.Test.YtbhjmplhmoikbaaGreatSeqA
namespace Go.Proofs.YtbhjmplhmoikbaaGreat
open Go.RowKit Go.Maps
set_option linter.unusedVariables false

theorem seqV_pack {x : Int} (h : -9223372036854775808 ≤ x ∧ x ≤ 9223372036854775807) : seqV (some (packN 8 [x])) = x := by
  have e : unpackR (packN 8 [x]) 1 = ([x], 0) := by
    unfold unpackR
    rw [if_pos ⟨by omega, by omega⟩, if_pos (by rw [packN_length]; rfl)]
    show (unpackN 8 (packN 8 [x]) 0 1, (0 : Int)) = ([x], 0)
    rw [show (1 : Nat) = [x].length from rfl, unpack_pack 8 [x] (fun y hy => by obtain rfl := List.mem_singleton.1 hy; exact num8 h)]
  simp [seqV, e]
theorem keyOne_inj {n m : Int} (hn : 0 ≤ n ∧ n < 4294967296) (hm : 0 ≤ m ∧ m < 4294967296) (h : tx (keyL 83 [n]) = tx (keyL 83 [m])) : n = m := by
  have e := tx_inj (tagL_bytes (by omega) _) (tagL_bytes (by omega) _) h
  have h1 := split_key (t := 83) (l := [n]) (fun x hx => by obtain rfl := List.mem_singleton.1 hx; exact hn) (by simp)
  have h2 := split_key (t := 83) (l := [m]) (fun x hx => by obtain rfl := List.mem_singleton.1 hx; exact hm) (by simp)
  rw [show keyL 83 [n] = keyL 83 [m] from e, h2] at h1
  simpa using h1.symm
/-- The numbers that four kinds were given last. -/
structure CntS (S : VS) (f : Nat → Int) : Prop where
  ok : S.Ok
  is : ∀ n : Nat, n < 4 → seqV (S.now (tx (keyL 83 [(n : Int)]))) = f n
theorem CntS.start : CntS ⟨[], []⟩ (fun _ => 0) := ⟨⟨List.Pairwise.nil, List.Pairwise.nil⟩, fun n _ => rfl⟩
theorem CntS.next {S : VS} {f : Nat → Int} (h : CntS S f) {n : Nat} (hn : n < 4) (hf : 0 ≤ f n ∧ f n < 4294967295) : CntS (S.next n) (fun m => if m = n then f n + 1 else f m) := by
  have e : S.next n = S.put (tx (keyL 83 [(n : Int)])) (packN 8 [f n + 1]) := by
    unfold VS.next
    rw [h.is n hn, if_neg (by omega)]
  rw [e]
  refine ⟨h.ok.put _ _, fun m hm => ?_⟩
  rw [h.ok.now_put]
  by_cases q : m = n
  · subst q
    rw [if_pos rfl, if_pos rfl, seqV_pack (by omega)]
  · rw [if_neg q, if_neg (fun q' => q (by have := keyOne_inj (n := (n : Int)) (m := (m : Int)) (by omega) (by omega) q'; omega))]
    exact h.is m hm
theorem next_len (S : VS) (n : Int) : (S.next n).C.length ≤ S.C.length + 1 := by
  unfold VS.next
  split
  · exact Nat.le_succ _
  · exact setT_len _ _ _
theorem nextE_in {k : Int} (h : 0 ≤ k ∧ k < 4294967295) : nextE k = (k + 1, 0) := if_neg (by omega)
end Go.Proofs.YtbhjmplhmoikbaaGreat
