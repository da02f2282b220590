/-
  The texts RedoRG joined. Conditions: those that each part says at its head.
-/
import Derived.Test.YtfbljmkjiaklfaaGreatDoorG13
import Derived.Test.YtfbljmkjiaklfaaGreatDoorG46
import Derived.Test.YtfbljmkjiaklfaaGreatDoorG16
import Derived.Deep.RegionLaw
import Derived.Deep.RegionHeld3
import Derived.Deep.AppendLies
import Derived.StillTailTactics
import Derived.BigRegion

/-
  Contract of the plain log's Commit, over the plain disk. Conditions: at most 65,536 images of bytes; a seq from 0 to 2^62 - 1; fewer than 2^63 - 1 writes.
-/
namespace Go.Proofs.YtfbljmkjiaklfaaGreatDoor
open Go.RowKit
set_option maxRecDepth 100000
set_option linter.unusedVariables false

theorem slotsS_cons (S : DS) (i : Int) (y : Int × List Int) (r : List (Int × List Int)) : slotsS S i (y :: r) = thenS (S.wr (i + 1) y.2) (fun S' => slotsS S' (i + 1) r) := by
  obtain ⟨p, b⟩ := y
  rfl

section
variable {w : World} {G : Nat → Prop} {x : Addr} {S : DS} {q : Nat} {seq : Int} {l : List (Int × List Int)}

/-! what commitS is, arm by arm -/
theorem commitS_full (h : (l.length : Int) > S.P) : commitS S seq l = (6, seq, S) := by unfold commitS; rw [if_pos h]
theorem commitS_wrong (h : ¬ (l.length : Int) > S.P) (h2 : ¬ rightS S l) : commitS S seq l = (1, seq, S) := by unfold commitS; rw [if_neg h, if_pos h2]
theorem commitS_none (h : ¬ (l.length : Int) > S.P) (h2 : rightS S l) (h3 : l = []) : commitS S seq l = (0, seq, S) := by unfold commitS; rw [if_neg h, if_neg (fun h' => h' h2), if_pos h3]
/-- What comes behind the slots. -/
def commitB (S : DS) (seq : Int) (l : List (Int × List Int)) (a : Int × DS) : Int × Int × DS :=
  if a.1 ≠ 0 then (a.1, seq, a.2) else
  if (markS a.2 l.length (seq + 1)).1 ≠ 0 then ((markS a.2 l.length (seq + 1)).1, seq, (markS a.2 l.length (seq + 1)).2) else
  ((homesS (markS a.2 l.length (seq + 1)).2 (packs (seq + 1) l)).1, seq + 1, (homesS (markS a.2 l.length (seq + 1)).2 (packs (seq + 1) l)).2)
theorem commitS_some (h : ¬ (l.length : Int) > S.P) (h2 : rightS S l) (h3 : l ≠ []) : commitS S seq l = commitB S seq l (thenS (slotsS S 0 (packs (seq + 1) l)) DS.fl) := by
  unfold commitS
  rw [if_neg h, if_neg (fun h' => h' h2), if_neg h3]
  rfl

theorem putS_more' (l : List (Int × List Int)) : ∀ S : DS, (putS S l).2.writes ≤ S.writes + l.length ∧ (putS S l).2.n = S.n := by
  induction l with
  | nil =>
    intro S
    refine ⟨?_, P_flush S⟩
    show S.flush.writes ≤ _
    unfold DS.flush
    split <;> simp
  | cons y r ih =>
    intro S
    rw [putS_cons]
    have h1 := write_more S y.1 y.2
    by_cases h : (S.wr y.1 y.2).1 = 0
    · rw [thenS_ok h]
      have h2 := ih (S.wr y.1 y.2).2
      have e1 : (S.wr y.1 y.2).2.writes ≤ S.writes + 1 := h1.1
      have e2 : (S.wr y.1 y.2).2.n = S.n := h1.2
      rw [List.length_cons]
      exact ⟨by omega, h2.2.trans e2⟩
    · rw [thenS_no h, List.length_cons]
      exact ⟨by have : (S.wr y.1 y.2).2.writes ≤ S.writes + 1 := h1.1; omega, h1.2⟩
theorem mark_put' (S : DS) {c s : Int} (h : secR c s = true) : putS S [(0, secL c s zpage)] = markS S c s := (markS_sec S h).symm
/-- Kept over a call that writes to the disk alone. -/
theorem TwoRows.touchQ {w1 w2 : World} {G1 G2 : Nat → Prop} {base : Nat} {ov pv : Value} {l : List (Int × List Int)} (h : TwoRows w1 (orAt G1 q) base ov pv l) (ht : Touch G1 w1 w2) (hG : ∀ k, G2 k → G1 k ∨ w1.heap.size ≤ k) : TwoRows w2 (orAt G2 q) base ov pv l :=
  h.keep ht.size (fun k hk hn hf => by
    rcases hf with a | a
    · rcases hG k a with b | b
      · exact hn (.inl b)
      · omega
    · exact hn (.inr a)) (fun k hk hn => ht.block k hk (fun hf => hn (.inl hf)))
end

end Go.Proofs.YtfbljmkjiaklfaaGreatDoor
