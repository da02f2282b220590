/-
  The texts RedoM, StepApp, RedoRG, Dos6, Few6, Images6, RedoTwo joined. Conditions: those that each part says at its head.
-/
import Derived.Deep.AppendLies
import Derived.Deep.RegionLaw
import Derived.Deep.RegionHeld3
import Derived.StillTailTactics
import Derived.BigRegion
import Derived.Deep.Slices
import Derived.Deep.Fields
import Derived.ChangeSame
import Derived.ProofKit
import Derived.Test.YtkmlmbakgmafjaaDoorG6
import Derived.Test.YtkmlmbakgmafjaaDoorG2
import Derived.Test.YtkmlmbakgmafjaaDoorG4
import Derived.Test.YtkmlmbakgmafjaaDoorG1
import Derived.Test.YtkmlmbakgmafjaaDoorG5

/-
  Plain: how large a log's seq can be, and how many sectors were written, behind any calls. No program.
-/
namespace Go.Proofs.YtkmlmbakgmafjaaDoor
open Go.RowKit
set_option maxRecDepth 100000
set_option linter.unusedVariables false

/-- The marks that may be there have a seq of at most B. -/
def Mk (B : Int) (S : DS) : Prop := (unpackR (S.last 0)).2.1 ≤ B ∧ (unpackR (S.safe 0)).2.1 ≤ B
section
variable {S : DS} {B : Int}
theorem Mk.mono (h : Mk B S) {B' : Int} (hB : B ≤ B') : Mk B' S := ⟨by have := h.1; omega, by have := h.2; omega⟩
theorem Mk.write (h : Mk B S) {i : Int} {l : List Int} (hl : 0 < i ∨ (unpackR l).2.1 ≤ B) : Mk B (S.write i l) := by
  unfold DS.write
  split
  · exact h
  split
  · exact h
  split
  · exact h
  · refine ⟨?_, h.2⟩
    show (unpackR (if 0 = i.toNat then l else S.last 0)).2.1 ≤ B
    split
    · rename_i e
      rcases hl with a | a
      · omega
      · exact a
    · exact h.1
theorem Mk.flush (h : Mk B S) : Mk B S.flush := by
  unfold DS.flush
  split
  · exact h
  · exact ⟨h.1, h.1⟩
theorem Mk.fuse (h : Mk B S) (k : Int) : Mk B (S.fuse k) := h
open Classical in
theorem Mk.crash (h : Mk B S) (keep : List Int) : Mk B (S.crash keep) := by
  have e : (unpackR (if S.kept keep 0 then S.last 0 else S.safe 0)).2.1 ≤ B := by
    split
    · exact h.1
    · exact h.2
  exact ⟨e, e⟩
theorem Mk.put (l : List (Int × List Int)) : ∀ {S : DS}, Mk B S → (∀ y ∈ l, 0 < y.1 ∨ (unpackR y.2).2.1 ≤ B) → Mk B (putS S l).2 := by
  induction l with
  | nil => intro S h _; exact h.flush
  | cons y r ih =>
    intro S h hy
    rw [putS_cons]
    have h1 : Mk B (S.wr y.1 y.2).2 := h.write (hy y (List.mem_cons_self ..))
    by_cases h0 : (S.wr y.1 y.2).1 = 0
    · rw [thenS_ok h0]
      exact ih h1 (fun z hz => hy z (List.mem_cons_of_mem _ hz))
    · rw [thenS_no h0]; exact h1
theorem Mk.homes (l : List (Int × List Int)) (h : Mk B S) (hl : ∀ y ∈ l, 0 ≤ y.1) : Mk B (homesS S l).2 := by
  rw [← putS_homes]
  refine h.put _ (fun y hy => ?_)
  obtain ⟨z, hz, rfl⟩ := List.mem_map.1 hy
  left
  have := hl z hz
  have h2 := (pagesOf_nn (S.n : Int)).1
  show 0 < z.1 + 1 + pagesOf (S.n : Int)
  omega
theorem Mk.open_ (h : Mk B S) : Mk B (openS S).2.2 ∧ ((openS S).1 = 0 → 0 ≤ (openS S).2.1 ∧ (openS S).2.1 ≤ B) := by
  unfold openS
  split
  · exact ⟨h, fun e => by cases e⟩
  split
  · exact ⟨h, fun e => by cases e⟩
  rename_i he
  have he' : (unpackR (S.last 0)).2.2.2 = 0 := Classical.not_not.1 he
  have h0 := (unpack_page he').2.1
  split
  · exact ⟨h, fun _ => ⟨h0, h.1⟩⟩
  · rename_i l hl
    have hm := h.homes l (fun y hy => ((slotsOf_pages hl).1 y hy).1)
    split
    · rename_i h1
      exact ⟨hm, fun e => absurd e h1⟩
    · exact ⟨hm, fun _ => ⟨h0, h.1⟩⟩
theorem atSlots_pos (l : List (Int × List Int)) : ∀ i, ∀ y ∈ atSlots i l, 0 < y.1 := by
  induction l with
  | nil => intro i y hy; cases hy
  | cons z r ih =>
    intro i y hy
    rcases List.mem_cons.1 hy with rfl | hy
    · show (0 : Int) < (i : Int) + 1; omega
    · exact ih _ y hy
theorem Mk.commit (h : Mk B S) {seq : Int} {l : List (Int × List Int)} (hs : 0 ≤ seq ∧ seq ≤ B) (hB : B < 4611686018427387904) (hby : ∀ y ∈ l, AllBytes y.2) :
    Mk (B + 1) (commitS S seq l).2.2 ∧ (0 ≤ (commitS S seq l).2.1 ∧ (commitS S seq l).2.1 ≤ B + 1) ∧ (commitS S seq l).2.2.writes ≤ S.writes + (2 * l.length + 1) ∧ (commitS S seq l).2.2.n = S.n := by
  have hmono := h.mono (show B ≤ B + 1 by omega)
  by_cases hr : rightE S l = 0
  · by_cases hne : l = []
    · subst hne
      rw [commit_nil]
      exact ⟨hmono, ⟨hs.1, by show seq ≤ _; omega⟩, Nat.le_add_right _ _, rfl⟩
    obtain ⟨hrs, hnP⟩ := right_is hr
    have hI : Imgs S.n seq l := ⟨fun y hy => hrs.1 y hy, hby, hrs.2, hnP, hs.1, by omega⟩
    obtain ⟨c1, c2, c3, c4⟩ := commit_more rfl hI
    refine ⟨?_, ⟨by omega, by omega⟩, c1, c2⟩
    have hpn := (pagesOf_nn (S.n : Int)).2.2
    have hP : S.P = pagesOf S.n := rfl
    rw [commitS_is hr hne]
    have m1 : Mk (B + 1) (putS S (atSlots 0 (packs (seq + 1) l))).2 := hmono.put _ (fun y hy => .inl (atSlots_pos _ _ y hy))
    have hsec : secR l.length (seq + 1) = true := decide_eq_true ⟨by omega, by omega, by omega, by omega⟩
    unfold commitP
    split
    · exact m1
    generalize (putS S (atSlots 0 (packs (seq + 1) l))).2 = S3 at m1 ⊢
    have m2 : Mk (B + 1) (markS S3 l.length (seq + 1)).2 := by
      rw [← mark_put _ hsec]
      refine m1.put _ (fun y hy => ?_)
      obtain rfl := List.mem_singleton.1 hy
      right
      show (unpackR (secL l.length (seq + 1) zpage)).2.1 ≤ _
      rw [unpack_pack zpage_ok.2 hsec zpage_ok.1]
      show seq + 1 ≤ B + 1
      omega
    unfold commitM
    split
    · exact m2
    · exact m2.homes _ (fun y hy => (hI.mem hy).1.1)
  · rw [commitS_not (.inl hr)]
    exact ⟨hmono, ⟨hs.1, by show seq ≤ _; omega⟩, Nat.le_add_right _ _, rfl⟩
end

/-- What holds of the disk behind j calls. -/
structure LInv (n j : Nat) (S : DS) : Prop where
  n_ : S.n = n
  writes : S.writes ≤ 1 + 32767 * (j + 1)
  mark : Mk (1 + j) S
theorem LInv.start {n : Nat} (h : 3 ≤ n ∧ n ≤ 65536) : LInv n 0 (openS (markS (DS.new n) 0 1).2).2.2 ∧ (openS (markS (DS.new n) 0 1).2).2.1 = 1 ∧ (openS (markS (DS.new n) 0 1).2).1 = 0 ∧ (markS (DS.new n) 0 1).1 = 0 := by
  obtain ⟨r1, r2, r3, r4, r5, r6, r7⟩ := fresh_log h
  refine ⟨⟨r5, by rw [r6]; omega, ?_⟩, r3, r2, r1⟩
  have e : (unpackR (fresh1 0)).2.1 ≤ 1 + ((0 : Nat) : Int) := by rw [fresh1_mark]; decide
  exact ⟨by rw [r7.last]; exact e, by rw [r7.safe]; exact e⟩
theorem LInv.next {n j : Nat} {S S' : DS} (h : LInv n j S) (hn : S'.n = S.n) (hw : S'.writes ≤ S.writes + 32767) (hm : Mk (1 + j + 1) S') : LInv n (j + 1) S' :=
  ⟨hn.trans h.n_, by have := h.writes; omega, by
    have e : (1 : Int) + ((j + 1 : Nat) : Int) = 1 + j + 1 := by omega
    rw [e]; exact hm⟩
theorem LInv.fuse {n j : Nat} {S : DS} (h : LInv n j S) (k : Int) : LInv n (j + 1) (S.fuse k) := h.next rfl (Nat.le_add_right _ _) (h.mark.mono (by omega))
theorem LInv.same {n j : Nat} {S : DS} (h : LInv n j S) : LInv n (j + 1) S := h.next rfl (Nat.le_add_right _ _) (h.mark.mono (by omega))
theorem LInv.open_ {n j : Nat} {S : DS} (h : LInv n j S) : LInv n (j + 1) (openS S).2.2 ∧ ((openS S).1 = 0 → 0 ≤ (openS S).2.1 ∧ (openS S).2.1 ≤ 1 + ((j + 1 : Nat) : Int)) := by
  have hm := (h.mark.mono (show (1 : Int) + j ≤ 1 + j + 1 by omega)).open_
  have ho := open_more S
  exact ⟨h.next ho.2 ho.1 hm.1, fun e => by have := hm.2 e; omega⟩
theorem LInv.crash {n j : Nat} {S : DS} (h : LInv n j S) (keep : List Int) : LInv n j (S.crash keep) := ⟨h.n_, h.writes, h.mark.crash keep⟩
theorem LInv.commit {n j : Nat} {S : DS} (h : LInv n j S) {seq : Int} {l : List (Int × List Int)} (hs : 0 ≤ seq ∧ seq ≤ 1 + j) (hj : j ≤ 100) (hby : ∀ y ∈ l, AllBytes y.2) (hl : l.length ≤ 100) :
    LInv n (j + 1) (commitS S seq l).2.2 ∧ 0 ≤ (commitS S seq l).2.1 ∧ (commitS S seq l).2.1 ≤ 1 + ((j + 1 : Nat) : Int) := by
  obtain ⟨c1, c2, c3, c4⟩ := h.mark.commit hs (by omega) hby
  exact ⟨h.next c4 (by omega) c1, by omega, by omega⟩

end Go.Proofs.YtkmlmbakgmafjaaDoor

/-
  append of one int, and of one slice, as a step of a region that draws. Condition: fewer than 2^42 elements.
-/
namespace Go.Proofs.YtkmlmbakgmafjaaDoor
open Go.RowKit
set_option maxRecDepth 100000
set_option linter.unusedVariables false

theorem step_append_int1 {w : World} {ops : Array Oper} {o : Oper} {a : Act} {K : Act → World → Prop} {Q : Exit → Act → World → Prop} {E : Prop} (hgd : o.guard = none) (s x : Operand)
    (ho : o.op = .call { callee := .builtin .append, args := #[s, x], argTypes := #[40, 40] })
    (base : Nat) (v : Value) (n : Nat) (xs : List Value) (hs : a.eval s = v) (b : Nat) (z : Int) (T : TypeId) (hx : a.eval x = .slice (some ⟨b, 0, none⟩) 1 1)
    (hown : w.ownsRow base 3 1 v n xs) (hb : w.heap[b]? = some (.cells #[.int .i64 z] T)) (h63 : n ≤ 8796093022207) (hbase : base ≤ w.heap.size)
    (h : ∀ g c' w', w'.ownsRow base 3 1 (.slice (some ⟨g, 0, none⟩) (n + 1) c') (n + 1) (xs ++ [.int .i64 z]) → w.grownBy w' v.ownBlock → ((Value.slice (some ⟨g, 0, none⟩) (n + 1) c').ownBlock = v.ownBlock ∨ ∃ r, (Value.slice (some ⟨g, 0, none⟩) (n + 1) c').ownBlock = some r ∧ w.heap.size ≤ r) → K (a.put o.dst (.slice (some ⟨g, 0, none⟩) (n + 1) c')) w') :
    if Region.wanted o (yielded ops a.tmps) = true then Oper.wp Tryd.prog o a w K Q else E := by
  obtain ⟨i0, hi, hz0, hz1, hz2⟩ := info_parts info_int
  refine step_append_lies w hgd s x 40 ho base 3 i0 (.int .i64 0) 1 8 Tryd.underlying40 hi hz0 hz1 hz2 rfl (by decide) v n xs hs hown ⟨b, 0, none⟩ 1 1 [.int .i64 z] hx rfl (World.news_of_block (cs := #[.int .i64 z]) hb) (fun u hu => by obtain rfl := List.mem_singleton.1 hu; rfl) (by decide) (by unfold maxLen; omega) (by omega) hbase w.heap.size rfl ?_
  intro g cap w' h1 h2 h3 _
  refine h g cap w' h1 h2 ?_
  rcases h3 with e | e
  · exact .inl e.symm
  · exact .inr ⟨g, rfl, by omega⟩
theorem step_append_slice1 {w : World} {ops : Array Oper} {o : Oper} {a : Act} {K : Act → World → Prop} {Q : Exit → Act → World → Prop} {E : Prop} (hgd : o.guard = none) (s x : Operand)
    (ho : o.op = .call { callee := .builtin .append, args := #[s, x], argTypes := #[88, 88] })
    (base : Nat) (v : Value) (n : Nat) (xs : List Value) (hs : a.eval s = v) (b : Nat) (A : Option Addr) (k c : Nat) (T : TypeId) (hx : a.eval x = .slice (some ⟨b, 0, none⟩) 1 1)
    (hown : w.ownsRow base 51 1 v n xs) (hb : w.heap[b]? = some (.cells #[.slice A k c] T)) (h63 : n ≤ 4398046511103) (hbase : base ≤ w.heap.size)
    (h : ∀ g c' w', w'.ownsRow base 51 1 (.slice (some ⟨g, 0, none⟩) (n + 1) c') (n + 1) (xs ++ [.slice A k c]) → w.grownBy w' v.ownBlock → ((Value.slice (some ⟨g, 0, none⟩) (n + 1) c').ownBlock = v.ownBlock ∨ ∃ r, (Value.slice (some ⟨g, 0, none⟩) (n + 1) c').ownBlock = some r ∧ w.heap.size ≤ r) → K (a.put o.dst (.slice (some ⟨g, 0, none⟩) (n + 1) c')) w') :
    if Region.wanted o (yielded ops a.tmps) = true then Oper.wp Tryd.prog o a w K Q else E := by
  obtain ⟨i0, hi, hz0, hz1, hz2⟩ := info_parts info_slice
  refine step_append_lies w hgd s x 88 ho base 51 i0 (.slice none 0 0) 1 24 Tryd.underlying88 hi hz0 hz1 hz2 rfl (by decide) v n xs hs hown ⟨b, 0, none⟩ 1 1 [.slice A k c] hx rfl (World.news_of_block (cs := #[.slice A k c]) hb) (fun u hu => by obtain rfl := List.mem_singleton.1 hu; rfl) (by decide) (by unfold maxLen; omega) (by omega) hbase w.heap.size rfl ?_
  intro g cap w' h1 h2 h3 _
  refine h g cap w' h1 h2 ?_
  rcases h3 with e | e
  · exact .inl e.symm
  · exact .inr ⟨g, rfl, by omega⟩

end Go.Proofs.YtkmlmbakgmafjaaDoor

/-
  Contract of the plain log's Commit, over the plain disk. Conditions: at most 65,536 images of bytes; a seq from 0 to 2^62 - 1; fewer than 2^63 - 1 writes.
-/
namespace Go.Proofs.YtkmlmbakgmafjaaDoor
open Go.RowKit
set_option maxRecDepth 100000
set_option linter.unusedVariables false

theorem slotsS_cons (S : DS) (i : Int) (y : Int × List Int) (r : List (Int × List Int)) : slotsS S i (y :: r) = thenS (S.wr (i + 1) y.2) (fun S' => slotsS S' (i + 1) r) := by
  obtain ⟨p, b⟩ := y
  rfl

section
variable {w : World} {G : Nat → Prop} {x : Addr} {S : DS} {q : Nat} {seq : Int} {l : List (Int × List Int)}

/-! what commitS is, arm by arm -/
theorem commitS_full (h : (l.length : Int) > S.P) : commitS S seq l = (6, seq, S) := by unfold commitS; rw [if_pos h]
theorem commitS_wrong (h : ¬ (l.length : Int) > S.P) (h2 : ¬ rightS S l) : commitS S seq l = (1, seq, S) := by unfold commitS; rw [if_neg h, if_pos h2]
theorem commitS_none (h : ¬ (l.length : Int) > S.P) (h2 : rightS S l) (h3 : l = []) : commitS S seq l = (0, seq, S) := by unfold commitS; rw [if_neg h, if_neg (fun h' => h' h2), if_pos h3]
/-- What comes behind the slots. -/
def commitB (S : DS) (seq : Int) (l : List (Int × List Int)) (a : Int × DS) : Int × Int × DS :=
  if a.1 ≠ 0 then (a.1, seq, a.2) else
  if (markS a.2 l.length (seq + 1)).1 ≠ 0 then ((markS a.2 l.length (seq + 1)).1, seq, (markS a.2 l.length (seq + 1)).2) else
  ((homesS (markS a.2 l.length (seq + 1)).2 (packs (seq + 1) l)).1, seq + 1, (homesS (markS a.2 l.length (seq + 1)).2 (packs (seq + 1) l)).2)
theorem commitS_some (h : ¬ (l.length : Int) > S.P) (h2 : rightS S l) (h3 : l ≠ []) : commitS S seq l = commitB S seq l (thenS (slotsS S 0 (packs (seq + 1) l)) DS.fl) := by
  unfold commitS
  rw [if_neg h, if_neg (fun h' => h' h2), if_neg h3]
  rfl

/-- What Commit leaves: the disk, and the log with its seq. -/
def Committed (w : World) (G : Nat → Prop) (x : Addr) (q : Nat) (r : Int × Int × DS) (w' : World) : Prop :=
  ∃ G', RefAt w' G' x r.2.2 ∧ RLog w' q x r.2.1 ∧ ¬ G' q ∧ Touch (fun k => G k ∨ k = q) w w' ∧ ∀ k, G' k → G k ∨ w.heap.size ≤ k

theorem Committed.of {w' : World} {S' : DS} (hq : RLog w q x seq) (hqG : ¬ G q) (h : Wrote w G x S' w') {e : Int} : Committed w G x q (e, seq, S') w' := by
  obtain ⟨G', h1, h2, h3⟩ := h
  have hlt := hq.cells.2.2.2
  refine ⟨G', h1, hq.keep (h2.block q hlt hqG), fun hf => ?_, ⟨h2.os, h2.tape, h2.output, h2.size, fun k hk hF => h2.block k hk (fun hg => hF (.inl hg))⟩, h3⟩
  rcases h3 q hf with a | a
  · exact hqG a
  · omega

theorem putS_more' (l : List (Int × List Int)) : ∀ S : DS, (putS S l).2.writes ≤ S.writes + l.length ∧ (putS S l).2.n = S.n := by
  induction l with
  | nil =>
    intro S
    refine ⟨?_, P_flush S⟩
    show S.flush.writes ≤ _
    unfold DS.flush
    split <;> simp
  | cons y r ih =>
    intro S
    rw [putS_cons]
    have h1 := write_more S y.1 y.2
    by_cases h : (S.wr y.1 y.2).1 = 0
    · rw [thenS_ok h]
      have h2 := ih (S.wr y.1 y.2).2
      have e1 : (S.wr y.1 y.2).2.writes ≤ S.writes + 1 := h1.1
      have e2 : (S.wr y.1 y.2).2.n = S.n := h1.2
      rw [List.length_cons]
      exact ⟨by omega, h2.2.trans e2⟩
    · rw [thenS_no h, List.length_cons]
      exact ⟨by have : (S.wr y.1 y.2).2.writes ≤ S.writes + 1 := h1.1; omega, h1.2⟩
theorem mark_put' (S : DS) {c s : Int} (h : secR c s = true) : putS S [(0, secL c s zpage)] = markS S c s := (markS_sec S h).symm
/-- Kept over a call that writes to the disk alone. -/
theorem TwoRows.touchQ {w1 w2 : World} {G1 G2 : Nat → Prop} {base : Nat} {ov pv : Value} {l : List (Int × List Int)} (h : TwoRows w1 (orAt G1 q) base ov pv l) (ht : Touch G1 w1 w2) (hG : ∀ k, G2 k → G1 k ∨ w1.heap.size ≤ k) : TwoRows w2 (orAt G2 q) base ov pv l :=
  h.keep ht.size (fun k hk hn hf => by
    rcases hf with a | a
    · rcases hG k a with b | b
      · exact hn (.inl b)
      · omega
    · exact hn (.inr a)) (fun k hk hn => ht.block k hk (fun hf => hn (.inl hf)))
/-- Between two rounds of the slots. -/
def SlotMid (q : Nat) (w : World) (G : Nat → Prop) (x : Addr) (S : DS) (ps : List (Int × List Int)) (ov pv : Value) (k : Nat) (wr : World) : Prop :=
  ∃ G' S', RefAt wr G' x S' ∧ Touch G w wr ∧ (∀ j, G' j → G j ∨ w.heap.size ≤ j) ∧ slotsS S 0 ps = slotsS S' k (ps.drop k) ∧ TwoRows wr (orAt G' q) w.heap.size ov pv (ps.take k) ∧ S'.n = S.n ∧ S'.writes ≤ S.writes + k

/-- A round of the slots: both lists have one more. -/
theorem SlotMid.put {w4 Xa w1 Xb w2 : World} {G2 : Nat → Prop} {S2 : DS} {ps : List (Int × List Int)} {k : Nat} {ov pv ov' pv' : Value} {p : Int} {b : List Int} {g c : Nat} {vs : List Value} (hql : q < w.heap.size)
    (hR : RefAt w4 G2 x S2) (hT : Touch G w w4) (hG : ∀ j, G2 j → G j ∨ w.heap.size ≤ j) (he : slotsS S 0 ps = slotsS S2 ((k : Int) + 1) (ps.drop (k + 1))) (hy : ps[k]? = some (p, b)) (hn : S2.n = S.n) (hw : S2.writes ≤ S.writes + (k + 1))
    (h : TwoRows w4 (orAt G2 q) w.heap.size ov pv (ps.take k)) (hk : (ps.take k).length = k) (hap : Apart w4 (orAt G2 q) ov pv (.slice (some ⟨g, 0, none⟩) 256 c) b) (hvs : w4.ownsRow w.heap.size 51 1 ov k vs) (hvl : ∀ (i : Nat) (x : Int × List Int), (ps.take k)[i]? = some x → ∃ u, vs[i]? = some u ∧ Apart w4 (orAt G2 q) ov pv u x.2)
    (hXa : Below w4.heap.size w4 Xa) (hown1 : w1.ownsRow w.heap.size 51 1 ov' (k + 1) (vs ++ [.slice (some ⟨g, 0, none⟩) 256 c])) (hg1 : Xa.grownBy w1 ov.ownBlock) (hl1 : ov'.ownBlock = ov.ownBlock ∨ ∃ r, ov'.ownBlock = some r ∧ Xa.heap.size ≤ r)
    (hXb : Below w1.heap.size w1 Xb) (hown2 : w2.ownsRow w.heap.size 3 1 pv' (k + 1) (((ps.take k).map (·.1)).map (Value.int .i64) ++ [Value.int .i64 p])) (hg2 : Xb.grownBy w2 pv.ownBlock) (hl2 : pv'.ownBlock = pv.ownBlock ∨ ∃ r, pv'.ownBlock = some r ∧ Xb.heap.size ≤ r) :
    SlotMid q w G x S ps ov' pv' (k + 1) w2 := by
  obtain ⟨hrw, hsz, hall⟩ := h.push2 (p := p) (ov' := ov') (pv' := pv') (fun k hk => by
    rcases hk with a | a
    · exact hR.lt k a
    · have := hT.size; omega) hap (by rw [hk]; exact hvs) hvl hXa (by rw [hk]; exact hown1) hg1 (hl1.imp id (fun ⟨r, a, b⟩ => ⟨r, a, Nat.le_trans hXa.size b⟩)) hXb (by rw [hk, List.map_append]; exact hown2) hg2 (hl2.imp id (fun ⟨r, a, b⟩ => ⟨r, a, Nat.le_trans hXb.size b⟩))
  refine ⟨G2, S2, hR.keep (fun j hj => hall j (hR.lt j hj) (fun e => h.og j e (.inl hj)) (fun e => h.pg j e (.inl hj))), ⟨hg2.os.trans (hXb.os.trans (hg1.os.trans (hXa.os.trans hT.os))), hg2.tape.trans (hXb.tape.trans (hg1.tape.trans (hXa.tape.trans hT.tape))), hg2.output.trans (hXb.output.trans (hg1.output.trans (hXa.output.trans hT.output))), Nat.le_trans hT.size hsz, fun j hj hF => (hall j (Nat.lt_of_lt_of_le hj hT.size) (fun e => by have := (own_at hvs j e).1; omega) (fun e => by have := (own_at h.pages j e).1; omega)).trans (hT.block j hj hF)⟩, hG, he, ?_, hn, hw⟩
  rw [List.take_add_one, hy]
  exact hrw

theorem refPack_sl (A : Option Addr) (n c B : Nat) (l : List Int) (p s : Int) (w : World) (hr : RB w B A n l) (hB : B ≤ w.heap.size) (hn : n = 240) (hs : secR p s = true) :
    Calls Tryd.prog 60 #[.int .i64 p, .int .i64 s, .slice A n c] w fun e w' => ∃ g cg, e = .returned (.tuple #[.slice (some ⟨g, 0, none⟩) 256 cg, .int .i64 0]) ∧ 256 ≤ cg ∧ w.heap.size ≤ g ∧ RB w' w'.heap.size (some ⟨g, 0, none⟩) 256 (secL p s l) ∧ Below w.heap.size w w' := by
  refine (refPack_yes A n c B l p s w hr hB hn hs).mono ?_
  rintro e w' ⟨v, rfl, hown, hb⟩
  obtain ⟨g, cg, rfl, hc, hg⟩ := own_some hown (by decide)
  exact ⟨g, cg, rfl, hc, hg, RB.of_own hown (secL_bytes p s hr.bytes), hb⟩

theorem SlotMid.start {ps : List (Int × List Int)} (h : RefAt w G x S) : SlotMid q w G x S ps (.slice none 0 0) (.slice none 0 0) 0 w :=
  ⟨G, S, h, Touch.refl _ _, fun j hj => .inl hj, rfl, TwoRows.start _ _ _, rfl, Nat.le_refl _⟩

set_option maxHeartbeats 16000000 in
theorem refCommit_any {A : Option Addr} {n c : Nat} (h : RefAt w G x S) (hq : RLog w q x seq) (hqG : ¬ G q) (hl : RImgs w G A n l) (hby : ∀ y ∈ l, AllBytes y.2) (hn : n ≤ 65536) (hs : 0 ≤ seq ∧ seq < 4611686018427387904) (hw : S.writes ≤ 9223372036854500000) :
    Calls Tryd.prog 27 #[.pointer (some ⟨q, 0, none⟩), .slice A n c] w fun e w' => e = .returned (.int .i64 (commitS S seq l).1) ∧ Committed w G x q (commitS S seq l) w' := by
  have hlen := hl.1
  have hP : S.P = pagesOf S.n := rfl
  have hok := h.okay'
  have hsz := hok.size
  have hpb := pagesOf_bounds (S.n : Int)
  have hpn := (pagesOf_nn (S.n : Int)).2.1 (by omega)
  have HLP := Lib.hid (refLogPages_any h hq)
  by_cases hc1 : pagesOf S.n < (n : Int)
  · have k1 : decide (pagesOf S.n < (n : Int)) = true := by simpa using hc1
    have HC := Lib.hid (commitS_full (S := S) (seq := seq) (l := l) (by rw [hlen, hP]; omega))
    have HF := Lib.hid (Committed.of (e := 6) hq hqG h.same)
    clear hc1 h hq hl
    go_enter Tryd.func27, Tryd.ntmps27
    go_wp2_with fail
    refine HLP.out.mono ?_
    rintro e w1 ⟨rfl, rfl⟩
    go_wp2
    go_ret
    rw [HC.out]
    exact ⟨rfl, HF.out⟩
  have k1 : decide (pagesOf S.n < (n : Int)) = false := by simpa using hc1
  have HRT := Lib.hid (refRight_imgs (c := c) h hq hl hn)
  have hlt := h.lt
  by_cases hc2 : ¬ rightS S l
  · have HC := Lib.hid (commitS_wrong (seq := seq) (by rw [hlen, hP]; omega) hc2)
    have HD := Lib.hid (show decide (rightS S l) = false by simpa using hc2)
    have HF := Lib.hid (fun w1 (hb : Below w.heap.size w w1) => Committed.of (w' := w1) (e := 1) hq hqG (Wrote.later h hb))
    clear hc1 hc2 h hq hl
    go_enter Tryd.func27, Tryd.ntmps27
    go_wp2_with fail
    refine HLP.out.mono ?_
    rintro e w1 ⟨rfl, rfl⟩
    go_wp2_with fail
    refine HRT.out.mono ?_
    rw [HD.out]
    rintro e w2 ⟨rfl, hb2⟩
    have hF := Lib.hid (HF.out w2 hb2)
    clear hb2
    go_wp2
    go_ret
    rw [HC.out]
    exact ⟨rfl, hF.out⟩
  have hc2' : rightS S l := Classical.not_not.1 hc2
  have HD := Lib.hid (show decide (rightS S l) = true by simpa using hc2')
  by_cases hc3 : n = 0
  · have hl0 : l = [] := List.eq_nil_of_length_eq_zero (by omega)
    have HC := Lib.hid (commitS_none (seq := seq) (by rw [hlen, hP]; omega) hc2' hl0)
    have HF := Lib.hid (fun w1 (hb : Below w.heap.size w w1) => Committed.of (w' := w1) (e := 0) hq hqG (Wrote.later h hb))
    subst hc3
    clear hc1 hc2 h hq hl hc2' hl0 hlen
    go_enter Tryd.func27, Tryd.ntmps27
    go_wp2_with fail
    refine HLP.out.mono ?_
    rintro e w1 ⟨rfl, rfl⟩
    go_wp2_with fail
    refine HRT.out.mono ?_
    rw [HD.out]
    rintro e w2 ⟨rfl, hb2⟩
    have hF := Lib.hid (HF.out w2 hb2)
    clear hb2
    go_wp2
    go_ret
    rw [HC.out]
    exact ⟨rfl, hF.out⟩
  have HI : Imgs S.n seq l := ⟨fun y hy => by have := hc2'.1 y hy; rw [hP] at this; exact this, hby, hc2'.2, by omega, hs.1, hs.2⟩
  have HC := Lib.hid (commitS_some (seq := seq) (by rw [hlen, hP]; omega) hc2' (fun e => hc3 (by rw [← hlen, e]; rfl)))
  have HIM := Lib.hid HI
  have HH := Lib.hid (And.intro h (And.intro hq (And.intro hqG hl)))
  have hpl := packs_length (seq + 1) l
  have r1 : wrap64 (seq + 1) = seq + 1 := by unfold wrap64; omega
  have k3 : ((n : Int) == 0) = false := by simp; omega
  have hqlt := hq.cells.2.2.2
  clear hc1 hc2 hc2' h hq hl HI
  go_enter Tryd.func27, Tryd.ntmps27
  go_wp2_with fail
  refine HLP.out.mono ?_
  rintro e w1 ⟨rfl, rfl⟩
  go_wp2_with fail
  refine HRT.out.mono ?_
  rw [HD.out]
  rintro e w2 ⟨rfl, hb2⟩
  obtain ⟨h, hq, hqG', hl⟩ := HH.out
  have l1 := (hq.keep (hb2.block q hqlt)).cells.2.1
  have HM0 := Lib.hid (show SlotMid q w G x S (packs (seq + 1) l) (.slice none 0 0) (.slice none 0 0) 0 w2 from ⟨G, S, h.keep (fun k hk => hb2.block k (hlt k hk)), Touch.of_below hb2, fun j hj => .inl hj, rfl, TwoRows.start _ _ _, rfl, Nat.le_refl _⟩)
  clear h hq hl hb2
  go_wp2
  go_loopw [6, 7, 8] (fun ov pv i wr => ∃ (k : Nat) (A1 : Option Addr) (n1 c1 : Nat) (A2 : Option Addr) (n2 c2 : Nat), k ≤ n ∧ i = .int .i64 k ∧ ov = .slice A1 n1 c1 ∧ pv = .slice A2 n2 c2 ∧ Hid (SlotMid q w G x S (packs (seq + 1) l) (.slice A1 n1 c1) (.slice A2 n2 c2) k wr)) (fun _ _ i _ => n - (intOf i).toNat)
  case atStart => exact ⟨0, none, 0, 0, none, 0, 0, Nat.zero_le _, rfl, rfl, rfl, HM0⟩
  case round =>
    obtain ⟨k, A1, n1, c1, A2, n2, c2, hk, rfl, rfl, rfl, hM⟩ := hrel
    obtain ⟨h, hq, hqG', hl⟩ := HH.out
    obtain ⟨G1, S1, hR1, hT1, hG1, he1, hrows1, hn1, hw1⟩ := hM.out
    have l0 := (hq.keep (hT1.block q hqlt hqG)).cells.1
    have l1 := (hq.keep (hT1.block q hqlt hqG)).cells
    by_cases hlt1 : k < n
    · have hlt' : (k : Int) < (n : Int) := by omega
      have hlr : RImgs wr G1 A n l := hl.keep hT1.size (fun j hj hjG hf => by
        rcases hG1 j hf with a | a
        · exact hjG a
        · omega) (fun j hj hjG => hT1.block j hj hjG)
      obtain ⟨y, hy⟩ : ∃ y, l[k]? = some y := ⟨_, List.getElem?_eq_getElem (by omega)⟩
      have hym := List.mem_of_getElem? hy
      obtain ⟨hpk, hup, hb256⟩ := HIM.out.pack hym
      have hps : (packs (seq + 1) l)[k]? = some (y.1, secL y.1 (seq + 1) y.2) := by unfold packs; rw [List.getElem?_map, hy, ← hpk]; rfl
      have hpage := HIM.out.page y hym
      obtain ⟨ib, rfl, hib, hibl, hat⟩ := hlr.2 (by omega)
      obtain ⟨d1, D, m, cm, d2, hmc, hm63, hrb, _⟩ := hat k y hy
      have hm240 : m = 240 := by rw [← hrb.len]; exact hpage.2.2
      subst hm240
      obtain ⟨gl, c0, gx, rfl, hGx⟩ := hR1.sizeCell
      have hsec : secR y.1 (seq + 1) = true := decide_eq_true ⟨hpage.1, by omega, by omega, by omega⟩
      have e1 : wr.drew.cell? ⟨ib, k * 2, none⟩ = some (.int .i64 y.1) := d1
      have e2 : wr.drew.cell? ⟨ib, k * 2 + 1, none⟩ = some (.slice D 240 cm) := d2
      have HPK := Lib.hid (refPack_sl D 240 cm wr.drew.heap.size y.2 y.1 (seq + 1) wr.drew hrb.drew (Nat.le_refl _) rfl hsec)
      have HALL := Lib.hid (And.intro hR1 (And.intro hT1 (And.intro hG1 (And.intro he1 hrows1))))
      have HN1 := Lib.hid hn1
      have HY := Lib.hid (And.intro hy hps)
      have hn63 : n ≤ 9223372036854775807 := by omega
      rw [hn1] at c0
      have HPGE := Lib.hid hpage
      clear h hq hl hR1 hT1 hG1 he1 hrows1 hlr hat hrb hn1 hy hps hup hpk hM HM0 hb256 hpl hpage hsec
      go_wp2_with fail
      go_region_held3 (fun w' => w'.cell? ⟨ib, k * 2, none⟩ = some (.int .i64 y.1) ∧ w'.cell? ⟨ib, k * 2 + 1, none⟩ = some (.slice D 240 cm))
        (first | exact ⟨e1, e2⟩ | exact ⟨f1, f2⟩)
        ((go_at_call 60; refine HPK.out.mono ?_; rintro e w3 ⟨g, cg, rfl, hcg, hg, hr3, hb3⟩; have f1 := (hb3.cell (p := ⟨ib, k * 2, none⟩) hibl).trans e1; have f2 := (hb3.cell (p := ⟨ib, k * 2 + 1, none⟩) hibl).trans e2))
      obtain ⟨hR1, hT1, hG1, he1, hrows1⟩ := HALL.out
      have hlt1' := hR1.lt
      have hb3' : Below wr.heap.size wr w3 := ⟨hb3.os, hb3.tape, hb3.output, hb3.size, hb3.block⟩
      have hwr := hT1.size
      have c0' := (hb3'.cell (p := ⟨gx, 0, none⟩) (hlt1' gx hGx)).trans c0
      have l0' := (hb3'.cell (p := ⟨q, 0, none⟩) (Nat.lt_of_lt_of_le hqlt hwr)).trans l0
      have hR3 : RefAt w3 G1 ⟨gx, 0, none⟩ S1 := hR1.keep (fun j hj => hb3'.block j (hlt1' j hj))
      have hT3 : Touch G w w3 := ⟨hb3'.os.trans hT1.os, hb3'.tape.trans hT1.tape, hb3'.output.trans hT1.output, Nat.le_trans hwr hb3'.size, fun j hj hF => (hb3'.block j (Nat.lt_of_lt_of_le hj hwr)).trans (hT1.block j hj hF)⟩
      have hg' : wr.heap.size ≤ g := hg
      have hGg : ¬ G1 g := fun hf => by have := hlt1' g hf; omega
      have hrows3 := hrows1.below hb3'
      have hfew := HIM.out.few
      have hsl : slotOf (S.n : Int) (k : Int) = ((k : Int) + 1, true) := by unfold slotOf; rw [if_neg (by omega)]
      have HSL := Lib.hid (refSlot_any (S.n : Int) (k : Int) w3 (by omega))
      rw [hsl] at HSL
      have hbl := secL_bytes y.1 (seq + 1) (hby y (List.mem_of_getElem? HY.out.1))
      have HW := Lib.hid (refWrite_any hR3 ((k : Int) + 1) g 0 256 cg _ _ hr3 (Nat.le_refl _) hGg (by decide) (by omega))
      have HE := Lib.hid (show slotsS S 0 (packs (seq + 1) l) = thenS (S1.wr ((k : Int) + 1) (secL y.1 (seq + 1) y.2)) (fun S' => slotsS S' ((k : Int) + 1) ((packs (seq + 1) l).drop (k + 1))) by rw [he1, drop_at HY.out.2, slotsS_cons])
      obtain ⟨hmw, hmn⟩ := write_more S1 ((k : Int) + 1) (secL y.1 (seq + 1) y.2)
      have HP3 := Lib.hid (And.intro hT3 (And.intro hG1 (And.intro hrows3 (And.intro hr3 hb3'))))
      have hng : (Value.slice A1 n1 c1).ownBlock ≠ some g ∧ (Value.slice A2 n2 c2).ownBlock ≠ some g := ⟨fun e => by
          obtain ⟨vs, hv, _⟩ := hrows1.out
          have := (own_at hv g e).2
          omega, fun e => by
          have := (own_at hrows1.pages g e).2
          omega⟩
      have HNG := Lib.hid hng
      have HLT1 := Lib.hid hlt1'
      clear hR1 hT1 he1 hrows1 hb3 hR3 hT3 hGg hrows3 hsl hbl hng hr3 hb3' hfew e1 e2 f1 f2 c0 l0 d2 HALL HPK
      by_cases h0 : S1.writeE ((k : Int) + 1) (secL y.1 (seq + 1) y.2) = 0
      · have H0 := Lib.hid h0
        have HE3 := Lib.hid (HE.out.trans (thenS_ok (r := S1.wr ((k : Int) + 1) (secL y.1 (seq + 1) y.2)) h0))
        clear h0
        go_wp2_with fail
        refine HSL.out.mono ?_
        rintro e w9 ⟨rfl, rfl⟩
        go_wp2_with fail
        refine HW.out.mono ?_
        rw [H0.out]
        rintro e w4 ⟨rfl, hW4⟩
        obtain ⟨G2, hR2, hT2, hG2⟩ := hW4
        obtain ⟨hT3, _, hrows3, hr3, hb3'⟩ := HP3.out
        have hrows4 := hrows3.touchQ hT2 hG2
        have hgl3 : g < w3.heap.size := by obtain ⟨bb, _, e, hbb, _⟩ := hr3.at_ (by decide); cases e; exact hbb
        have hGg1 : ¬ G1 g := fun hf => by have := HLT1.out g hf; omega
        have hr4 := hr3.there (w' := w4) (by decide) (hT2.block g hgl3 hGg1) hT2.size
        have hG2g : ¬ G2 g := fun hf => by
          rcases hG2 g hf with a | a
          · exact hGg1 a
          · omega
        have hs4 := hT2.size
        have hap : Apart w4 (orAt G2 q) (.slice A1 n1 c1) (.slice A2 n2 c2) (.slice (some ⟨g, 0, none⟩) 256 cg) (secL y.1 (seq + 1) y.2) := ⟨g, cg, rfl, hcg, (fun hf => by
          rcases hf with a | a
          · exact hG2g a
          · omega), HNG.out.1, HNG.out.2, by omega, hr4⟩
        obtain ⟨vs, hvs, hvl⟩ := hrows4.out
        have hkl : ((packs (seq + 1) l).take k).length = k := by rw [List.length_take, packs_length]; omega
        have e1 : n1 = k := by
          rcases hvs.2 with ⟨e1, e2⟩ | ⟨_, _, _, e1, _⟩
          · injection e1 with _ e3; rw [hkl] at e2; omega
          · injection e1 with _ e3; rw [e3, hkl]
        have e2 : n2 = k := by
          rcases hrows4.pages.2 with ⟨e1, e2⟩ | ⟨_, _, _, e1, _⟩
          · injection e1 with _ e3; rw [hkl] at e2; omega
          · injection e1 with _ e3; rw [e3, hkl]
        subst e1
        subst e2
        have hibw : ib < w3.heap.size := by have := hb3'.size; omega
        have d4 : w4.drew.cell? ⟨ib, n2 * 2, none⟩ = some (.int .i64 y.1) := (World.cell?_of_block (w := w3) (w' := w4) (a := ⟨ib, n2 * 2, none⟩) (hT2.block ib hibw hib)).trans ((hb3'.cell (p := ⟨ib, n2 * 2, none⟩) hibl).trans d1)
        have hsz4 : w.heap.size ≤ w4.heap.size := by have := hT3.size; omega
        have bX1 : Below w4.heap.size w4 (w4.alloc (.cells #[.slice (some ⟨g, 0, none⟩) 256 cg] 51)).drew := ((Below.refl _ w4).alloc (Nat.le_refl _) _).drew
        have bX2 : Below w4.heap.size w4 ((w4.alloc (.cells #[.slice (some ⟨g, 0, none⟩) 256 cg] 51)).alloc (.cells #[.int .i64 y.1] 3)).drew := (((Below.refl _ w4).alloc (Nat.le_refl _) _).alloc (by simp) _).drew
        have bX3 : Below w4.heap.size w4 ((w4.alloc (.cells #[.int .i64 y.1] 3)).alloc (.cells #[.slice (some ⟨g, 0, none⟩) 256 cg] 51)).drew := (((Below.refl _ w4).alloc (Nat.le_refl _) _).alloc (by simp) _).drew
        have oX := fun (X : World) (hX : Below w4.heap.size w4 X) => own_stays hvs (fun r hr => hX.block r (own_at hvs r hr).2)
        rw [hkl] at oX
        have o1 := oX _ bX1
        have o2 := oX _ bX2
        have o3 := oX _ bX3
        have hb1 : (w4.alloc (.cells #[.slice (some ⟨g, 0, none⟩) 256 cg] 51)).drew.heap[w4.heap.size]? = some (.cells #[.slice (some ⟨g, 0, none⟩) 256 cg] 51) := heap_alloc_new w4 _
        have hb2 : ((w4.alloc (.cells #[.slice (some ⟨g, 0, none⟩) 256 cg] 51)).alloc (.cells #[.int .i64 y.1] 3)).drew.heap[w4.heap.size]? = some (.cells #[.slice (some ⟨g, 0, none⟩) 256 cg] 51) := (heap_alloc_old (w4.alloc (.cells #[.slice (some ⟨g, 0, none⟩) 256 cg] 51)) (.cells #[.int .i64 y.1] 3) (by simp)).trans (heap_alloc_new w4 (.cells #[.slice (some ⟨g, 0, none⟩) 256 cg] 51))
        have hb3 : ((w4.alloc (.cells #[.int .i64 y.1] 3)).alloc (.cells #[.slice (some ⟨g, 0, none⟩) 256 cg] 51)).drew.heap[w4.heap.size + 1]? = some (.cells #[.slice (some ⟨g, 0, none⟩) 256 cg] 51) := by
          have := heap_alloc_new (w4.alloc (.cells #[.int .i64 y.1] 3)) (.cells #[.slice (some ⟨g, 0, none⟩) 256 cg] 51)
          rw [World.size_alloc] at this
          exact this
        have hi2 : ((w4.alloc (.cells #[.slice (some ⟨g, 0, none⟩) 256 cg] 51)).alloc (.cells #[.int .i64 y.1] 3)).drew.heap[w4.heap.size + 1]? = some (.cells #[.int .i64 y.1] 3) := by
          have := heap_alloc_new (w4.alloc (.cells #[.slice (some ⟨g, 0, none⟩) 256 cg] 51)) (.cells #[.int .i64 y.1] 3)
          rw [World.size_alloc] at this
          exact this
        have hi3 : ((w4.alloc (.cells #[.int .i64 y.1] 3)).alloc (.cells #[.slice (some ⟨g, 0, none⟩) 256 cg] 51)).drew.heap[w4.heap.size]? = some (.cells #[.int .i64 y.1] 3) := (heap_alloc_old (w4.alloc (.cells #[.int .i64 y.1] 3)) (.cells #[.slice (some ⟨g, 0, none⟩) 256 cg] 51) (by simp)).trans (heap_alloc_new w4 (.cells #[.int .i64 y.1] 3))
        have hov : ∀ r, (Value.slice A1 n2 c1).ownBlock = some r → r < w4.heap.size := fun r hr => (own_at hvs r hr).2
        have HPGS := Lib.hid (fun X w5 hX hg => hrows4.pages2 (X := X) (w1 := w5) hvs hX hg)
        rw [hkl] at HPGS
        have HPUSH := Lib.hid (fun (X w5 Y w6 : World) ov' pv' h1 h2 h3 h4 h5 h6 h7 h8 => hrows4.push2 (Xa := X) (w1 := w5) (Xb := Y) (w2 := w6) (ov' := ov') (pv' := pv') (p := y.1) (fun k hk => hk.elim (fun a => hR2.lt k a) (fun a => by have : k = q := a; omega)) hap hvs hvl h1 h2 h3 h4 h5 h6 h7 h8)
        rw [hkl] at HPUSH
        have hibw0 : ib < w.heap.size := by
          obtain ⟨ib', e, _, h', _⟩ := HH.out.2.2.2.2 (by omega)
          cases e
          exact h'
        have hvs' := hvs
        rw [hkl] at hvs'
        have hT4 : Touch G w w4 := ⟨hT2.os.trans hT3.os, hT2.tape.trans hT3.tape, hT2.output.trans hT3.output, Nat.le_trans hT3.size hT2.size, fun j hj hF => (hT2.block j (Nat.lt_of_lt_of_le hj hT3.size) (fun hg => (hG1 j hg).elim hF (fun a => by omega))).trans (hT3.block j hj hF)⟩
        have HEND := Lib.hid (fun (X w5 Y w6 : World) (g4 c4 g5 c5 : Nat) (a1 : Below w4.heap.size w4 X) a2 a3 a4 a5 a6 a7 a8 => SlotMid.put (Xa := X) (w1 := w5) (Xb := Y) (w2 := w6) (ov' := .slice (some ⟨g4, 0, none⟩) (n2 + 1) c4) (pv' := .slice (some ⟨g5, 0, none⟩) (n2 + 1) c5) hqlt hR2 hT4 (fun j hj => (hG2 j hj).elim (hG1 j) (fun a => .inr (Nat.le_trans hT3.size a))) HE3.out HY.out.2 (hmn.trans HN1.out) (by have := hmw; omega) hrows4 hkl hap hvs' hvl a1 a2 a3 a4 a5 a6 a7 a8)
        have HKX := Lib.hid (fun (X : World) (hX : Below w4.heap.size w4 X) => (show X.cell? ⟨ib, n2 * 2, none⟩ = some (.int .i64 y.1) from (hX.cell (p := ⟨ib, n2 * 2, none⟩) (show ib < w4.heap.size by omega)).trans d4))
        have HK5 := Lib.hid (fun (X w5 : World) (hX : Below w4.heap.size w4 X) (hg : X.grownBy w5 (Value.slice A1 n2 c1).ownBlock) => (show w5.cell? ⟨ib, n2 * 2, none⟩ = some (.int .i64 y.1) from (World.cell?_of_block (a := ⟨ib, n2 * 2, none⟩) (hg.block ib (Nat.lt_of_lt_of_le (show ib < w4.heap.size by omega) hX.size) (fun e => by have := (own_at hvs ib e.symm).1; omega))).trans (HKX.out X hX)))
        have HK5b := Lib.hid (fun (X w5 Y : World) (hX : Below w4.heap.size w4 X) (hg : X.grownBy w5 (Value.slice A1 n2 c1).ownBlock) (hY : Below w5.heap.size w5 Y) => (show Y.cell? ⟨ib, n2 * 2, none⟩ = some (.int .i64 y.1) from (hY.cell (p := ⟨ib, n2 * 2, none⟩) (Nat.lt_of_lt_of_le (Nat.lt_of_lt_of_le (show ib < w4.heap.size by omega) hX.size) hg.size)).trans (HK5.out X w5 hX hg)))
        have HK6 := Lib.hid (fun (X w5 Y w6 : World) (hX : Below w4.heap.size w4 X) (hg : X.grownBy w5 (Value.slice A1 n2 c1).ownBlock) (hY : Below w5.heap.size w5 Y) (hg2 : Y.grownBy w6 (Value.slice A2 n2 c2).ownBlock) => (show w6.cell? ⟨ib, n2 * 2, none⟩ = some (.int .i64 y.1) from (World.cell?_of_block (a := ⟨ib, n2 * 2, none⟩) (hg2.block ib (Nat.lt_of_lt_of_le (Nat.lt_of_lt_of_le (Nat.lt_of_lt_of_le (show ib < w4.heap.size by omega) hX.size) hg.size) hY.size) (fun e => by have := (own_at hrows4.pages ib e.symm).1; omega))).trans (HK5b.out X w5 Y hX hg hY)))
        have HB4 := Lib.hid (show Below w4.heap.size w4 (w4.alloc (.cells #[.int .i64 y.1] 3)).drew from ((Below.refl _ w4).alloc (Nat.le_refl _) _).drew)
        have HREST := Lib.hid (And.intro hR2 (And.intro hT2 (And.intro hG2 (And.intro hov hkl))))
        have HBX := Lib.hid (And.intro bX1 (And.intro bX2 bX3))
        have HHI := Lib.hid (And.intro hi2 hi3)
        clear hR2 hT2 hG2 hrows3 hr3 hb3' hrows4 hr4 hap hvs hvl hkl bX1 bX2 bX3 oX hov hi2 hi3 hGg1 hG2g d1 hT3
        have HA2 := Lib.hid (fun (X w5 : World) (hX : Below w4.heap.size w4 X) (hg : X.grownBy w5 (Value.slice A1 n2 c1).ownBlock) => own_stays (w' := w5.alloc (.cells #[.int .i64 y.1] 3)) (HPGS.out X w5 hX hg) (fun r hr => ((Below.refl w5.heap.size w5).alloc (Nat.le_refl _) _).block r (own_at (HPGS.out X w5 hX hg) r hr).2))
        go_wp2_with fail
        go_region_held3 (fun w' => w'.cell? ⟨ib, n2 * 2, none⟩ = some (.int .i64 y.1))
          (with_reducible first | exact d4 | exact HKX.out _ HBX.out.1 | exact HKX.out _ HBX.out.2.1 | exact HKX.out _ HBX.out.2.2 | exact HKX.out _ HB4.out | exact HK5.out _ _ HBX.out.1 hg4 | exact HK5.out _ _ HBX.out.2.1 hg4 | exact HK5.out _ _ HBX.out.2.2 hg4 | exact HK5b.out _ _ _ HBX.out.1 hg4 ((Below.refl _ w5).alloc (Nat.le_refl _) _) | exact HK6.out _ _ _ _ HBX.out.1 hg4 ((Below.refl _ w5).alloc (Nat.le_refl _) _) hg5 | exact HK6.out _ _ _ _ HBX.out.2.1 hg4 (Below.refl _ w5) hg5 | exact HK6.out _ _ _ _ HBX.out.2.2 hg4 (Below.refl _ w5) hg5)
          (first
            | (with_reducible refine step_append_slice1 rfl _ _ rfl w.heap.size (.slice A1 n2 c1) n2 vs rfl w4.heap.size (some ⟨g, 0, none⟩) 256 cg 51 rfl o1 hb1 (by omega) (by simp; omega) ?_; intro g4 c4 w5 ho4 hg4 hl4)
            | (with_reducible refine step_append_slice1 rfl _ _ rfl w.heap.size (.slice A1 n2 c1) n2 vs rfl w4.heap.size (some ⟨g, 0, none⟩) 256 cg 51 rfl o2 hb2 (by omega) (by simp; omega) ?_; intro g4 c4 w5 ho4 hg4 hl4)
            | (with_reducible refine step_append_slice1 rfl _ _ rfl w.heap.size (.slice A1 n2 c1) n2 vs rfl (w4.heap.size + 1) (some ⟨g, 0, none⟩) 256 cg 51 rfl o3 hb3 (by omega) (by simp; omega) ?_; intro g4 c4 w5 ho4 hg4 hl4)
            | (with_reducible refine step_append_int1 rfl _ _ rfl w.heap.size (.slice A2 n2 c2) n2 _ rfl w5.heap.size y.1 3 rfl (HA2.out _ w5 HBX.out.1 hg4) (heap_alloc_new w5 _) (by omega) (by have := hg4.size; simp at this ⊢; omega) ?_; intro g5 c5 w6 ho5 hg5 hl5)
            | (with_reducible refine step_append_int1 rfl _ _ rfl w.heap.size (.slice A2 n2 c2) n2 _ rfl (w4.heap.size + 1) y.1 3 rfl (HPGS.out _ w5 HBX.out.2.1 hg4) ((hg4.block (w4.heap.size + 1) (by simp) (fun e => by have := HREST.out.2.2.2.1 _ e.symm; omega)).trans HHI.out.1) (by omega) (by have := hg4.size; simp at this ⊢; omega) ?_; intro g5 c5 w6 ho5 hg5 hl5)
            | (with_reducible refine step_append_int1 rfl _ _ rfl w.heap.size (.slice A2 n2 c2) n2 _ rfl w4.heap.size y.1 3 rfl (HPGS.out _ w5 HBX.out.2.2 hg4) ((hg4.block w4.heap.size (by simp; omega) (fun e => by have := HREST.out.2.2.2.1 _ e.symm; omega)).trans HHI.out.2) (by omega) (by have := hg4.size; simp at this ⊢; omega) ?_; intro g5 c5 w6 ho5 hg5 hl5))
        · have hM2 := Lib.hid (HEND.out _ w5 _ w6 g4 c4 g5 c5 HBX.out.1 ho4 hg4 hl4 ((Below.refl _ w5).alloc (Nat.le_refl _) _) ho5 hg5 hl5)
          clear ho4 hg4 hl4 ho5 hg5 hl5
          go_wp2
          go_roundw
          case rel => exact ⟨n2 + 1, _, _, _, _, _, _, by omega, by go_num, rfl, rfl, hM2⟩
          case measure => simp [intOf]; omega
        · have hM2 := Lib.hid (HEND.out _ w5 _ w6 g4 c4 g5 c5 HBX.out.2.1 ho4 hg4 hl4 (Below.refl _ w5) ho5 hg5 hl5)
          clear ho4 hg4 hl4 ho5 hg5 hl5
          go_wp2
          go_roundw
          case rel => exact ⟨n2 + 1, _, _, _, _, _, _, by omega, by go_num, rfl, rfl, hM2⟩
          case measure => simp [intOf]; omega
        · have hM2 := Lib.hid (HEND.out _ w5 _ w6 g4 c4 g5 c5 HBX.out.2.2 ho4 hg4 hl4 (Below.refl _ w5) ho5 hg5 hl5)
          clear ho4 hg4 hl4 ho5 hg5 hl5
          go_wp2
          go_roundw
          case rel => exact ⟨n2 + 1, _, _, _, _, _, _, by omega, by go_num, rfl, rfl, hM2⟩
          case measure => simp [intOf]; omega
      · have kne : (S1.writeE ((k : Int) + 1) (secL y.1 (seq + 1) y.2) != 0) = true := by simpa using h0
        have KN := Lib.hid kne
        have HCE := Lib.hid (show commitS S seq l = (S1.writeE ((k : Int) + 1) (secL y.1 (seq + 1) y.2), seq, S1.write ((k : Int) + 1) (secL y.1 (seq + 1) y.2)) by
          have e1 := HE.out.trans (thenS_no (r := S1.wr ((k : Int) + 1) (secL y.1 (seq + 1) y.2)) h0)
          rw [HC.out, e1, thenS_no (r := S1.wr ((k : Int) + 1) (secL y.1 (seq + 1) y.2)) h0]
          unfold commitB
          rw [if_pos (show (S1.wr ((k : Int) + 1) (secL y.1 (seq + 1) y.2)).1 ≠ 0 from h0)]
          rfl)
        clear h0 kne
        go_wp2_with fail
        refine HSL.out.mono ?_
        rintro e w9 ⟨rfl, rfl⟩
        go_wp2_with fail
        refine HW.out.mono ?_
        rintro e w4 ⟨rfl, hW4⟩
        have hF := Lib.hid (Committed.of (e := S1.writeE ((k : Int) + 1) (secL y.1 (seq + 1) y.2)) HH.out.2.1 hqG (Wrote.join HP3.out.1 hG1 hW4))
        have kne := KN.out
        clear hW4
        go_wp2
        go_ret
        rw [HCE.out]
        exact ⟨rfl, hF.out⟩
    · obtain rfl : k = n := by omega
      have hfull : (packs (seq + 1) l).take k = packs (seq + 1) l := List.take_of_length_le (by rw [hpl]; omega)
      rw [hfull] at hrows1
      have hdrop : (packs (seq + 1) l).drop k = [] := List.drop_of_length_le (by rw [hpl]; omega)
      rw [hdrop] at he1
      have hsl0 : slotsS S1 (k : Int) [] = (0, S1) := rfl
      rw [hsl0] at he1
      have HCB := Lib.hid (show commitS S seq l = commitB S seq l (S1.flushE, S1.flush) from by
        rw [HC.out, he1]
        rfl)
      have HF := Lib.hid (refFlush_any hR1)
      have HK := Lib.hid (And.intro hT1 (And.intro hG1 (And.intro hrows1 hR1)))
      have HN1 := Lib.hid hn1
      obtain ⟨gl, c0, gx, rfl, hGx⟩ := hR1.sizeCell
      have hsecR : secR (k : Int) (seq + 1) = true := decide_eq_true ⟨by omega, by omega, by omega, by omega⟩
      have hpk : ∀ y ∈ packs (seq + 1) l, 0 ≤ y.1 ∧ y.1 < pagesOf S.n := fun y hy => (HIM.out.mem hy).1
      have HPK := Lib.hid hpk
      have hSn : S1.flush.n = S.n := (P_flush S1).trans hn1
      have hwf : S1.flush.writes = S1.writes := by unfold DS.flush; split <;> rfl
      have hqlr : q < wr.heap.size := Nat.lt_of_lt_of_le hqlt hT1.size
      clear hfull hdrop hsl0 he1 hpk hT1 hG1 hrows1 hR1 hl h hq hM HM0 hn1
      by_cases h0 : S1.flushE = 0
      · have H0 := Lib.hid h0
        have HCB2 := Lib.hid (HCB.out.trans (show commitB S seq l (S1.flushE, S1.flush) = if (markS S1.flush l.length (seq + 1)).1 ≠ 0 then ((markS S1.flush l.length (seq + 1)).1, seq, (markS S1.flush l.length (seq + 1)).2) else
          ((homesS (markS S1.flush l.length (seq + 1)).2 (packs (seq + 1) l)).1, seq + 1, (homesS (markS S1.flush l.length (seq + 1)).2 (packs (seq + 1) l)).2) from by
          unfold commitB
          rw [if_neg (fun h => h h0)]))
        clear h0
        go_wp2_with fail
        refine HF.out.mono ?_
        rw [H0.out]
        rintro e w5 ⟨rfl, G5, hR5, hT5, hG5⟩
        obtain ⟨hT1, hG1, hrows1, hR1⟩ := HK.out
        have T5 : Touch G w w5 := hT1.join hG1 hT5
        have N5 : ∀ j, G5 j → G j ∨ w.heap.size ≤ j := new_join hT1.size hG1 hG5
        have hrows5 := hrows1.touchQ hT5 hG5
        have hq5 : RLog w5 q ⟨gx, 0, none⟩ seq := HH.out.2.1.keep (T5.block q hqlt hqG)
        obtain ⟨l0, l1, f1, _⟩ := hq5.cells
        have HMK := Lib.hid (refMark_any hR5 (k : Int) (seq + 1) hsecR (by rw [hwf]; omega))
        have HK5 := Lib.hid (And.intro T5 (And.intro N5 (And.intro hrows5 hq5)))
        rw [hlen] at HCB2
        clear hT1 hG1 hrows1 hR1 T5 N5 hrows5 hq5 hR5 hT5 hG5 HK HF
        generalize S1.flush = S5 at *
        by_cases h1 : (markS S5 k (seq + 1)).1 = 0
        · have H1 := Lib.hid h1
          have HCB3 := Lib.hid (HCB2.out.trans (if_neg (fun h => h h1)))
          clear h1
          go_wp2_with fail
          refine HMK.out.mono ?_
          rw [H1.out]
          rintro e w6 ⟨rfl, G6, hR6, hT6, hG6⟩
          obtain ⟨T5, N5, hrows5, hq5⟩ := HK5.out
          have T6 : Touch G w w6 := T5.join N5 hT6
          have N6 : ∀ j, G6 j → G j ∨ w.heap.size ≤ j := new_join T5.size N5 hG6
          have hrows6 := hrows5.touchQ hT6 hG6
          have hq6 : RLog w6 q ⟨gx, 0, none⟩ seq := HH.out.2.1.keep (T6.block q hqlt hqG)
          have hG6q : ¬ G6 q := fun hf => by
            rcases N6 q hf with a | a
            · exact hqG a
            · omega
          obtain ⟨l0, l1, f1, hq6l⟩ := hq6.cells
          have hcell : ∀ j, j ≠ q → (w6.setCell ⟨q, 1, none⟩ (.int .i64 (seq + 1))).heap[j]? = w6.heap[j]? := fun j hj => Below.heap_setCell _ _ _ _ hj
          have hR7 : RefAt (w6.setCell ⟨q, 1, none⟩ (.int .i64 (seq + 1))) G6 ⟨gx, 0, none⟩ (markS S5 k (seq + 1)).2 := hR6.keep (fun j hj => hcell j (fun e => hG6q (e ▸ hj)))
          have hrows7 : TwoRows (w6.setCell ⟨q, 1, none⟩ (.int .i64 (seq + 1))) G6 w.heap.size (.slice A1 n1 c1) (.slice A2 n2 c2) (packs (seq + 1) l) := hrows6.keep (by simp) (fun j _ hn hf => hn (.inl hf)) (fun j _ hn => hcell j (fun e => hn (.inr e)))
          have hq7 : RLog (w6.setCell ⟨q, 1, none⟩ (.int .i64 (seq + 1))) q ⟨gx, 0, none⟩ (seq + 1) := by
            unfold RLog at hq6 ⊢
            simp [World.setCell, Array.getElem?_modify, hq6]
          have l07 := hq7.cells.1
          have hmk := putS_more' [(0, secL k (seq + 1) zpage)] S5
          rw [mark_put' _ hsecR] at hmk
          have hmk1 : (markS S5 k (seq + 1)).2.writes ≤ S5.writes + 1 := hmk.1
          have hmn : (markS S5 k (seq + 1)).2.n = S.n := hmk.2.trans hSn
          have HHM := Lib.hid (refHomes_any hR7 hrows7 (by rw [hmn]; exact HPK.out) (by rw [hpl]; omega) (by rw [hpl]; omega))
          have HK7 := Lib.hid (And.intro T6 (And.intro N6 (And.intro hq7 hG6q)))
          have hsz6 : (w6.setCell ⟨q, 1, none⟩ (.int .i64 (seq + 1))).heap.size = w6.heap.size := by simp
          have HCL := Lib.hid hcell
          clear T5 N5 hrows5 hq5 T6 N6 hrows6 hrows7 hq7 hR6 hR7 hT6 hG6 hq6 HMK HK5 hmk hcell hG6q
          go_wp2_with fail
          refine HHM.out.mono ?_
          rintro e w8 ⟨rfl, G8, hR8, hT8, hG8⟩
          obtain ⟨T6, N6, hq7, hG6q⟩ := HK7.out
          have hF := Lib.hid (show Committed w G ⟨gx, 0, none⟩ q ((homesS (markS S5 k (seq + 1)).2 (packs (seq + 1) l)).1, seq + 1, (homesS (markS S5 k (seq + 1)).2 (packs (seq + 1) l)).2) w8 from
            ⟨G8, hR8, hq7.keep (hT8.block q (by rw [hsz6]; exact hq6l) hG6q), fun hf => by
              rcases hG8 q hf with a | a
              · exact hG6q a
              · omega, ⟨hT8.os.trans T6.os, hT8.tape.trans T6.tape, hT8.output.trans T6.output, by have := T6.size; have := hT8.size; omega, fun j hj hn => (hT8.block j (by have := T6.size; omega) (fun hf => by
                rcases N6 j hf with a | a
                · exact hn (.inl a)
                · omega)).trans ((HCL.out j (fun e => hn (.inr e))).trans (T6.block j hj (fun hf => hn (.inl hf))))⟩, new_join T6.size N6 (fun j hj => (hG8 j hj).imp id (fun a => by omega))⟩)
          clear T6 N6 hq7 hR8 hT8 hG8
          go_wp2
          go_ret
          rw [HCB3.out]
          exact ⟨rfl, hF.out⟩
        · have HCB3 := Lib.hid (HCB2.out.trans (if_pos h1))
          have kne : ((markS S5 k (seq + 1)).1 != 0) = true := by simpa using h1
          have KN := Lib.hid kne
          clear h1 kne
          go_wp2_with fail
          refine HMK.out.mono ?_
          rintro e w6 ⟨rfl, hW6⟩
          have kne := KN.out
          have hF := Lib.hid (Committed.of (e := (markS S5 k (seq + 1)).1) HH.out.2.1 hqG (Wrote.join HK5.out.1 HK5.out.2.1 hW6))
          clear hW6
          go_wp2
          go_ret
          rw [HCB3.out]
          exact ⟨rfl, hF.out⟩
      · have HCB2 := Lib.hid (HCB.out.trans (show commitB S seq l (S1.flushE, S1.flush) = (S1.flushE, seq, S1.flush) from by
          unfold commitB
          rw [if_pos (show (S1.flushE, S1.flush).1 ≠ 0 from h0)]))
        have kne : (S1.flushE != 0) = true := by simpa using h0
        have KN := Lib.hid kne
        clear h0 kne
        go_wp2_with fail
        refine HF.out.mono ?_
        rintro e w5 ⟨rfl, hW5⟩
        have kne := KN.out
        have hF := Lib.hid (Committed.of (e := S1.flushE) HH.out.2.1 hqG (Wrote.join HK.out.1 HK.out.2.1 hW5))
        clear hW5
        go_wp2
        go_ret
        rw [HCB2.out]
        exact ⟨rfl, hF.out⟩
end

end Go.Proofs.YtkmlmbakgmafjaaDoor

/-
  Words for the statements' lists of calls: a slice of ints, a slice of calls (each with a slice of ints of its own), as they lie in memory; how the statements' opening gives them; what keeps them. Plain facts; no condition beyond what each says.
-/
namespace Go.Proofs.YtkmlmbakgmafjaaDoor
open Go.RowKit
set_option maxRecDepth 100000
set_option linter.unusedVariables false

/-- A call of a statement's list. -/
structure Do6 where
  op : Int
  i : Int
  b : Int
  pa : Option Addr
  pn : Nat
  pc : Nat
  pages : List Int
  ka : Option Addr
  kn : Nat
  kc : Nat
  keep : List Int

/-- How it lies in memory. -/
def Do6At (w : World) (B b off : Nat) (d : Do6) : Prop :=
  w.cell? ⟨b, off, none⟩ = some (.int .i64 d.op) ∧ w.cell? ⟨b, off + 1, none⟩ = some (.int .i64 d.i) ∧ w.cell? ⟨b, off + 2, none⟩ = some (.int .u8 d.b) ∧ w.cell? ⟨b, off + 3, none⟩ = some (.slice d.pa d.pn d.pc) ∧ w.cell? ⟨b, off + 4, none⟩ = some (.slice d.ka d.kn d.kc) ∧
  (-9223372036854775808 ≤ d.op ∧ d.op ≤ 9223372036854775807) ∧ (-9223372036854775808 ≤ d.i ∧ d.i ≤ 9223372036854775807) ∧ (0 ≤ d.b ∧ d.b < 256) ∧ (RI w B d.pa d.pn d.pages ∧ d.pn ≤ d.pc ∧ d.pn ≤ maxLen) ∧ RI w B d.ka d.kn d.keep ∧ d.kn ≤ d.kc ∧ d.kn ≤ maxLen
/-- The slice at A of n calls reads as the list ds in w, and lies below block B. -/
def RDos6 (w : World) (B : Nat) (A : Option Addr) (n : Nat) (ds : List Do6) : Prop :=
  ds.length = n ∧ (0 < n → ∃ b off, A = some ⟨b, off, none⟩ ∧ b < B ∧ ∀ j, j < n → ∃ d, ds[j]? = some d ∧ Do6At w B b (off + j * 5) d)

theorem Do6At.keep {w w' : World} {B b off : Nat} {d : Do6} (h : Do6At w B b off d) (hb : b < B) (hk : ∀ b o, b < B → w'.cell? ⟨b, o, none⟩ = w.cell? ⟨b, o, none⟩) : Do6At w' B b off d := by
  obtain ⟨h0, h1, h2, h3, h3', h4, h5, h6, ⟨p7, p8, p9⟩, h7, h8, h9⟩ := h
  exact ⟨(hk _ _ hb).trans h0, (hk _ _ hb).trans h1, (hk _ _ hb).trans h2, (hk _ _ hb).trans h3, (hk _ _ hb).trans h3', h4, h5, h6, ⟨p7.keep hk, p8, p9⟩, h7.keep hk, h8, h9⟩
theorem RDos6.nil_ {w : World} {B : Nat} {A : Option Addr} : RDos6 w B A 0 [] := ⟨rfl, fun h => absurd h (by omega)⟩
theorem RDos6.len {w : World} {B n : Nat} {A : Option Addr} {ds : List Do6} (h : RDos6 w B A n ds) : ds.length = n := h.1
theorem RDos6.keep {w w' : World} {B n : Nat} {A : Option Addr} {ds : List Do6} (h : RDos6 w B A n ds) (hk : ∀ b o, b < B → w'.cell? ⟨b, o, none⟩ = w.cell? ⟨b, o, none⟩) : RDos6 w' B A n ds :=
  ⟨h.1, fun hn => by
    obtain ⟨b, off, e, hb, hc⟩ := h.2 hn
    refine ⟨b, off, e, hb, fun j hj => ?_⟩
    obtain ⟨d, hd, hat⟩ := hc j hj
    exact ⟨d, hd, hat.keep hb hk⟩⟩
theorem RDos6.below {w w' : World} {B n : Nat} {A : Option Addr} {ds : List Do6} (h : RDos6 w B A n ds) (hb : Below B w w') : RDos6 w' B A n ds := h.keep fun b o hp => hb.cell (p := ⟨b, o, none⟩) hp

theorem cellInt : Tryd.prog.cellsOf 3 = 1 := by kernel_rfl
theorem cellU8 : Tryd.prog.cellsOf 5 = 1 := by kernel_rfl
theorem cellInts : Tryd.prog.cellsOf 40 = 1 := by kernel_rfl
theorem do6Cells : Tryd.prog.cellsOf 42 = 5 := by kernel_rfl
open Go.ChangeShapes Go.WideShapes Go.Deep in
theorem open_dos6 {H : Type} {enc : TypeId × Value → H} {w : World} {fuel : Nat} {cs : List Value} {x : DataW H × List MemPlace} (h : DataW.trod enc Tryd.prog w 0 (fun _ => true) true fuel 22 cs = some x) :
    cs = [.slice none 0 0] ∨ ∃ (a : Addr) (len cap : Nat) (ds : List Do6), cs = [.slice (some a) len cap] ∧ len ≤ cap ∧ cap ≤ maxLen ∧ RDos6 w w.heap.size (some a) len ds := by
  obtain ⟨fs, hfs⟩ : ∃ fs, Tryd.prog.underlying 42 = some (.struct fs) := ⟨_, Tryd.underlying42⟩
  rcases open_slice Tryd.underlying22 h with ⟨h0, _⟩ | ⟨a, len, cap, m, n, D, Pl, hcs, hb, hl, hm, hmm, hx, hi⟩
  · exact .inl h0
  · right
    have hmc : m = cap := by simpa using hmm
    have each : ∀ i, i < len → ∃ d, ∀ b off, a = ⟨b, off, none⟩ → Do6At w w.heap.size b (off + i * 5) d := by
      intro i hilen
      obtain ⟨cs', hc, ht'⟩ := hi i (by omega)
      rw [do6Cells] at hc
      obtain ⟨ys, n', hn', hy, hlen, hyl, hf⟩ := DataW.trod_struct Tryd.underlying42 ht'
      obtain ⟨_, hcl, hat⟩ := World.cells?_some hc
      match cs', hcl with
      | [c0, c1, c2, c3, c4], _ =>
        match ys, hyl with
        | [y0, y1, y2, y3, y4], _ =>
          have f0 : DataW.trod enc Tryd.prog w 0 (fun _ => true) true n' 3 (([c0, c1, c2, c3, c4].drop 0).take (Tryd.prog.cellsOf 3)) = [y0, y1, y2, y3, y4][0]? := hf 0 _ rfl
          rw [cellInt] at f0
          have f1 : DataW.trod enc Tryd.prog w 0 (fun _ => true) true n' 3 (([c0, c1, c2, c3, c4].drop 1).take (Tryd.prog.cellsOf 3)) = [y0, y1, y2, y3, y4][1]? := hf 1 _ rfl
          rw [cellInt] at f1
          have f2 : DataW.trod enc Tryd.prog w 0 (fun _ => true) true n' 5 (([c0, c1, c2, c3, c4].drop 2).take (Tryd.prog.cellsOf 5)) = [y0, y1, y2, y3, y4][2]? := hf 2 _ rfl
          rw [cellU8] at f2
          have f3 : DataW.trod enc Tryd.prog w 0 (fun _ => true) true n' 40 (([c0, c1, c2, c3, c4].drop 3).take (Tryd.prog.cellsOf 40)) = [y0, y1, y2, y3, y4][3]? := hf 3 _ rfl
          rw [cellInts] at f3
          have f4 : DataW.trod enc Tryd.prog w 0 (fun _ => true) true n' 40 (([c0, c1, c2, c3, c4].drop 4).take (Tryd.prog.cellsOf 40)) = [y0, y1, y2, y3, y4][4]? := hf 4 _ rfl
          rw [cellInts] at f4
          simp only [List.drop_zero, List.take_succ_cons, List.take_zero, List.drop_succ_cons, List.getElem?_cons_zero, List.getElem?_cons_succ] at f0 f1 f2 f3 f4
          obtain ⟨n0, e0, _, w0⟩ := DataW.trod_int Tryd.underlying3 f0
          obtain ⟨n1, e1, _, w1⟩ := DataW.trod_int Tryd.underlying3 f1
          obtain ⟨n2, e2, _, w2⟩ := DataW.trod_int Tryd.underlying5 f2
          simp only [List.cons.injEq, and_true] at e0 e1 e2
          subst e0 e1 e2
          have key : ∀ (pa : Option Addr) (pn pc : Nat) (pages : List Int) (ka : Option Addr) (kn kc : Nat) (keep : List Int), c3 = .slice pa pn pc → RI w w.heap.size pa pn pages → pn ≤ pc → pn ≤ maxLen → c4 = .slice ka kn kc → RI w w.heap.size ka kn keep → kn ≤ kc → kn ≤ maxLen → ∃ d, ∀ b off, a = ⟨b, off, none⟩ → Do6At w w.heap.size b (off + i * 5) d := by
            intro pa pn pc pages ka kn kc keep e3 hp hpc hpm e hri hkc hkm
            refine ⟨⟨n0, n1, n2, pa, pn, pc, pages, ka, kn, kc, keep⟩, fun b off ha => ?_⟩
            subst ha e e3
            have a0 := hat 0 (by decide)
            have a1 := hat 1 (by decide)
            have a2 := hat 2 (by decide)
            have a3 := hat 3 (by decide)
            have a4 := hat 4 (by decide)
            simp only [add_none, List.getElem?_cons_zero, List.getElem?_cons_succ, Nat.add_zero] at a0 a1 a2 a3 a4
            exact ⟨a0, a1, a2, a3, a4, int_bounds w0, int_bounds w1, byte_bounds w2, ⟨hp, hpc, hpm⟩, hri, hkc, hkm⟩
          have four : ∃ (ka : Option Addr) (kn kc : Nat) (keep : List Int), c4 = .slice ka kn kc ∧ RI w w.heap.size ka kn keep ∧ kn ≤ kc ∧ kn ≤ maxLen := by
            rcases open_ints Tryd.underlying40 Tryd.underlying3 (by kernel_rfl) f4 with ⟨hk, _⟩ | ⟨x', l', c', zs, hk, _, hl', hm', hz', _, hcell', hwz'⟩
            · simp only [List.cons.injEq, and_true] at hk
              exact ⟨none, 0, 0, [], hk, RI.nil_, Nat.le_refl _, Nat.zero_le _⟩
            · simp only [List.cons.injEq, and_true] at hk
              exact ⟨_, l', c', _, hk, RI.of_cells hl' (by simpa using hz') hcell' hwz', hl', Nat.le_trans hl' hm'⟩
          obtain ⟨ka, kn, kc, keep, ek, hk1, hk2, hk3⟩ := four
          rcases open_ints Tryd.underlying40 Tryd.underlying3 (by kernel_rfl) f3 with ⟨hk, _⟩ | ⟨x', l', c', zs, hk, _, hl', hm', hz', _, hcell', hwz'⟩
          · simp only [List.cons.injEq, and_true] at hk
            exact key none 0 0 [] ka kn kc keep hk RI.nil_ (Nat.le_refl _) (Nat.zero_le _) ek hk1 hk2 hk3
          · simp only [List.cons.injEq, and_true] at hk
            exact key _ l' c' _ ka kn kc keep hk (RI.of_cells hl' (by simpa using hz') hcell' hwz') hl' (Nat.le_trans hl' hm') ek hk1 hk2 hk3
    obtain ⟨f, hf⟩ : ∃ f : Nat → Do6, ∀ i, i < len → ∀ b off, a = ⟨b, off, none⟩ → Do6At w w.heap.size b (off + i * 5) (f i) := by
      refine ⟨fun i => if h : i < len then (each i h).choose else ⟨0, 0, 0, none, 0, 0, [], none, 0, 0, []⟩, fun i hil => ?_⟩
      simp only [hil, dif_pos]
      exact (each i hil).choose_spec
    refine ⟨a, len, cap, (List.range len).map f, hcs, hl, hm, by simp, fun hn => ?_⟩
    obtain ⟨cs', hc, _⟩ := hi 0 (by omega)
    rw [do6Cells] at hc
    obtain ⟨_, hcl, hat⟩ := World.cells?_some hc
    have h0 := hat 0 (by decide)
    have hlt0 : 0 < cs'.length := by omega
    rw [List.getElem?_eq_getElem hlt0] at h0
    obtain ⟨b, off, spot⟩ := a
    have hspot : spot = none := by simpa [Addr.add] using World.cell?_spot h0
    subst hspot
    refine ⟨b, off, rfl, ?_, fun j hj => ⟨f j, by simp [hj], hf j hj b off rfl⟩⟩
    have := World.block_lt_of_cell? _ _ h0
    simpa [Addr.add] using this
end Go.Proofs.YtkmlmbakgmafjaaDoor

/-
  The statements' own test of whether calls are few, by its contract. Nothing that was there is written. No condition.
-/
namespace Go.Proofs.YtkmlmbakgmafjaaDoor
open Go.RowKit
set_option maxRecDepth 100000
set_option linter.unusedVariables false

/-- A call as it lies in a block of its own. -/
def Do6Blk (w : World) (b : Nat) (d : Do6) : Prop := w.heap[b]? = some (.cells #[.int .i64 d.op, .int .i64 d.i, .int .u8 d.b, .slice d.pa d.pn d.pc, .slice d.ka d.kn d.kc] 42 (0, 0))
theorem Do6Blk.cells {w : World} {b : Nat} {d : Do6} (h : Do6Blk w b d) : w.cell? ⟨b, 0, none⟩ = some (.int .i64 d.op) ∧ w.cell? ⟨b, 1, none⟩ = some (.int .i64 d.i) ∧ w.cell? ⟨b, 2, none⟩ = some (.int .u8 d.b) ∧ w.cell? ⟨b, 3, none⟩ = some (.slice d.pa d.pn d.pc) ∧ w.cell? ⟨b, 4, none⟩ = some (.slice d.ka d.kn d.kc) ∧ b < w.heap.size := by
  refine ⟨?_, ?_, ?_, ?_, ?_, (Array.getElem?_eq_some_iff.1 h).1⟩ <;> (rw [cell_of_row w b _ _ _ (0, 0) h]; rfl)
/-- A call too big for the law. -/
def Do6.big (d : Do6) : Prop := 60 < d.kn ∨ 30 < d.pn
set_option maxHeartbeats 400000 in
theorem few1_any (w : World) (d : Do6) (hk : d.kn ≤ maxLen) (hp : d.pn ≤ maxLen) : Calls Tryd.prog 36 #[.agg #[.int .i64 d.op, .int .i64 d.i, .int .u8 d.b, .slice d.pa d.pn d.pc, .slice d.ka d.kn d.kc]] w fun e w' => e = .returned (.bool (decide (60 < d.kn ∨ 30 < d.pn))) ∧ Below w.heap.size w w' := by
  unfold maxLen at hk hp
  obtain ⟨q0, q1, q2, q3, q4, q5⟩ := (show Do6Blk (w.alloc (.cells #[.int .i64 d.op, .int .i64 d.i, .int .u8 d.b, .slice d.pa d.pn d.pc, .slice d.ka d.kn d.kc] 42)) w.heap.size d from heap_alloc_new _ _).cells
  by_cases h1 : 60 < d.kn
  · have k1 : decide ((d.kn : Int) > 60) = true := by simp; omega
    rw [decide_eq_true (Or.inl h1)]
    clear h1
    go_enter Tryd.func36, Tryd.ntmps36
    go_wp2
    go_ret
    exact ⟨rfl, (Below.refl _ _).alloc (Nat.le_refl _) _⟩
  · have k1 : decide ((d.kn : Int) > 60) = false := by simp; omega
    by_cases h2 : 30 < d.pn
    · have k2 : decide ((d.pn : Int) > 30) = true := by simp; omega
      rw [decide_eq_true (Or.inr h2)]
      clear h1 h2
      go_enter Tryd.func36, Tryd.ntmps36
      go_wp2
      go_ret
      exact ⟨rfl, (Below.refl _ _).alloc (Nat.le_refl _) _⟩
    · have k2 : decide ((d.pn : Int) > 30) = false := by simp; omega
      rw [decide_eq_false (fun h => h.elim h1 h2)]
      clear h1 h2
      go_enter Tryd.func36, Tryd.ntmps36
      go_wp2
      go_ret
      exact ⟨rfl, (Below.refl _ _).alloc (Nat.le_refl _) _⟩

set_option maxHeartbeats 800000 in
theorem fewIdx_any {w : World} {B n : Nat} {A : Option Addr} {ds : List Do6} (c : Nat) (hr : RDos6 w B A n ds) (hm : n ≤ maxLen) (hB : B ≤ w.heap.size) :
    Calls Tryd.prog 71 #[.slice A n c, .func (.func 36) #[] #[]] w fun e w' => ∃ i : Int, e = .returned (.int .i64 i) ∧ decide (0 ≤ i) = decide (∃ d ∈ ds, 60 < d.kn ∨ 30 < d.pn) ∧ Below w.heap.size w w' := by
  go_enter Tryd.func71, Tryd.ntmps71
  go_wp2_with fail
  go_loopw [8] (fun i wr => ∃ j : Nat, j ≤ n ∧ i = .int .i64 j ∧ Hid (∀ m, m < j → ∀ d, ds[m]? = some d → ¬ (60 < d.kn ∨ 30 < d.pn)) ∧ Below w.heap.size w wr) (fun i _ => n - (intOf i).toNat)
  case atStart => exact ⟨0, Nat.zero_le _, rfl, Lib.hid (fun m hm => absurd hm (by omega)), Below.refl _ _⟩
  case round =>
    obtain ⟨j, hj, rfl, hbef, hbw⟩ := hrel
    have hm' : n ≤ 9223372036854775807 := by unfold maxLen at hm; omega
    by_cases hlt : j < n
    · obtain ⟨b, off, rfl, hb, hat⟩ := hr.2 (by omega)
      obtain ⟨d, hd, hdo⟩ := hat j hlt
      have hdo' := hdo.keep hb (fun b o hbb => hbw.cell (p := ⟨b, o, none⟩) (Nat.lt_of_lt_of_le hbb hB))
      obtain ⟨d0, d1, d2, d3, d3', d4, d5, d6, ⟨p7, p8, p9⟩, d7, d8, d9⟩ := hdo'
      have HD := Lib.hid hd
      clear hat hdo hd d7 p7
      by_cases hk : 60 < d.kn ∨ 30 < d.pn
      · have hkd : decide (60 < d.kn ∨ 30 < d.pn) = true := decide_eq_true hk
        have HEX := Lib.hid (show ∃ d ∈ ds, 60 < d.kn ∨ 30 < d.pn from ⟨d, List.mem_of_getElem? HD.out, hk⟩)
        clear hk
        go_wp2_with fail
        refine (few1_any _ d d9 p9).mono ?_
        rw [hkd]
        rintro e w' ⟨rfl, hb'⟩
        go_wp2
        go_ret
        exact ⟨_, rfl, by rw [decide_eq_true (show (0 : Int) ≤ (j : Int) by omega), decide_eq_true HEX.out], hbw.trans (hb'.mono hbw.size)⟩
      · have hkd : decide (60 < d.kn ∨ 30 < d.pn) = false := decide_eq_false hk
        have hn := Lib.hid (fun m (hm : m < j + 1) => show ∀ d, ds[m]? = some d → ¬ (60 < d.kn ∨ 30 < d.pn) by
          intro d' hd'
          rcases Nat.lt_or_ge m j with h | h
          · exact hbef.out m h d' hd'
          · obtain rfl : m = j := by omega
            rw [HD.out] at hd'
            cases hd'
            exact hk)
        clear hk
        go_wp2_with fail
        refine (few1_any _ d d9 p9).mono ?_
        rw [hkd]
        rintro e w' ⟨rfl, hb'⟩
        go_wp2
        go_roundw
        case rel => exact ⟨j + 1, by omega, by go_num, hn, hbw.trans (hb'.mono hbw.size)⟩
        case measure => simp [intOf]; omega
    · obtain rfl : j = n := by omega
      have hn := Lib.hid (show ∀ d ∈ ds, ¬ (60 < d.kn ∨ 30 < d.pn) from fun d hd => by
        obtain ⟨m, hm1, rfl⟩ := List.getElem_of_mem hd
        exact hbef.out m (by rw [← hr.len]; exact hm1) _ (List.getElem?_eq_getElem hm1))
      clear hbef
      go_wp2
      go_ret
      refine ⟨-1, rfl, ?_, hbw⟩
      rw [decide_eq_false (show ¬ ∃ d ∈ ds, 60 < d.kn ∨ 30 < d.pn from fun ⟨d, h1, h2⟩ => hn.out d h1 h2)]
      rfl

theorem fewHas_any {w : World} {B n : Nat} {A : Option Addr} {ds : List Do6} (c : Nat) (hr : RDos6 w B A n ds) (hm : n ≤ maxLen) (hB : B ≤ w.heap.size) :
    Calls Tryd.prog 35 #[.slice A n c, .func (.func 36) #[] #[]] w fun e w' => e = .returned (.bool (decide (∃ d ∈ ds, 60 < d.kn ∨ 30 < d.pn))) ∧ Below w.heap.size w w' := by
  go_enter Tryd.func35, Tryd.ntmps35
  go_wp2_with fail
  refine (fewIdx_any c hr hm hB).mono ?_
  rintro e w' ⟨i, rfl, hi, hb⟩
  have HI := Lib.hid hi
  clear hi
  go_wp2
  go_ret
  exact ⟨by rw [← HI.out]; rfl, hb⟩

/-- Few calls, none too big. -/
def fewD (n : Nat) (ds : List Do6) : Bool := decide (n ≤ 30) && !decide (∃ d ∈ ds, 60 < d.kn ∨ 30 < d.pn)
theorem few_any {w : World} {B n : Nat} {A : Option Addr} {ds : List Do6} (c : Nat) (hr : RDos6 w B A n ds) (hm : n ≤ maxLen) (hB : B ≤ w.heap.size) :
    Calls Tryd.prog 9 #[.slice A n c] w fun e w' => e = .returned (.bool (fewD n ds)) ∧ Below w.heap.size w w' := by
  have hm' : n ≤ 9223372036854775807 := by unfold maxLen at hm; omega
  unfold fewD
  by_cases hn : n ≤ 30
  · have kn : decide ((n : Int) ≤ 30) = true := by simp; omega
    rw [decide_eq_true hn, Bool.true_and]
    have HH := Lib.hid (fewHas_any c hr hm hB)
    clear hn
    generalize decide (∃ d ∈ ds, 60 < d.kn ∨ 30 < d.pn) = b at HH
    go_enter Tryd.func9, Tryd.ntmps9
    go_wp2_with fail
    refine HH.out.mono ?_
    rintro e w' ⟨rfl, hb⟩
    go_wp2
    go_ret
    exact ⟨rfl, hb⟩
  · have kn : decide ((n : Int) ≤ 30) = false := by simp; omega
    rw [decide_eq_false hn, Bool.false_and]
    go_enter Tryd.func9, Tryd.ntmps9
    go_wp2
    go_ret
    exact ⟨rfl, Below.refl _ _⟩

end Go.Proofs.YtkmlmbakgmafjaaDoor

/-
  Contract of the statement package's own images of a call. Nothing that was there is written. Condition: at most 30 pages.
-/
namespace Go.Proofs.YtkmlmbakgmafjaaDoor
open Go.RowKit
set_option maxRecDepth 100000
set_option linter.unusedVariables false

/-- The images of a call. -/
def imgs6 (b : Int) (l : List Int) : List (Int × List Int) := l.map fun z => (z, reps 240 ((b + z) % 256))
theorem imgs6_bytes (b : Int) (l : List Int) : ∀ y ∈ imgs6 b l, AllBytes y.2 := fun y hy => by
  obtain ⟨z, _, rfl⟩ := List.mem_map.1 hy
  exact reps_bytes _ (by omega)

set_option maxHeartbeats 4000000 in
theorem images_any {w : World} {B : Nat} (d : Do6) (hr : RI w B d.pa d.pn d.pages) (hB : B ≤ w.heap.size) (hn : d.pn ≤ 30) :
    Calls Tryd.prog 26 #[.agg #[.int .i64 d.op, .int .i64 d.i, .int .u8 d.b, .slice d.pa d.pn d.pc, .slice d.ka d.kn d.kc]] w fun e w' => ∃ A' c', e = .returned (.slice A' d.pn c') ∧ RImgs w' (fun k => k < w.heap.size) A' d.pn (imgs6 d.b d.pages) ∧ Below w.heap.size w w' := by
  have hX : Below w.heap.size w (w.alloc (.cells #[.int .i64 d.op, .int .i64 d.i, .int .u8 d.b, .slice d.pa d.pn d.pc, .slice d.ka d.kn d.kc] 42)) := (Below.refl _ _).alloc (Nat.le_refl _) _
  obtain ⟨q0, q1, q2, q3, q4, q5⟩ := (show Do6Blk (w.alloc (.cells #[.int .i64 d.op, .int .i64 d.i, .int .u8 d.b, .slice d.pa d.pn d.pc, .slice d.ka d.kn d.kc] 42)) w.heap.size d from heap_alloc_new _ _).cells
  have HR := Lib.hid (fun (w1 : World) (hb : Below w.heap.size w w1) => hr.below (hb.mono hB))
  have HLN := Lib.hid hr.len
  have HK2 := Lib.hid (fun (w1 : World) (hb : Below (w.heap.size + 1) (w.alloc (.cells #[.int .i64 d.op, .int .i64 d.i, .int .u8 d.b, .slice d.pa d.pn d.pc, .slice d.ka d.kn d.kc] 42)) w1) => (hb.cell (p := ⟨w.heap.size, 2, none⟩) (Nat.lt_succ_self _)).trans q2)
  have HX := Lib.hid hX
  clear hr hX
  go_enter Tryd.func26, Tryd.ntmps26
  go_wp2_with fail
  have hX0s : (w.alloc (.cells #[.int .i64 d.op, .int .i64 d.i, .int .u8 d.b, .slice d.pa d.pn d.pc, .slice d.ka d.kn d.kc] 42)).heap.size = w.heap.size + 1 := by simp
  go_loopw [3, 9] (fun ov i wr => ∃ k : Nat, k ≤ d.pn ∧ i = .int .i64 k ∧ Hid (PRow 64 240 wr (fun j => j < w.heap.size) (w.heap.size + 1) ov (imgs6 d.b (d.pages.take k))) ∧ Hid (Below (w.heap.size + 1) (w.alloc (.cells #[.int .i64 d.op, .int .i64 d.i, .int .u8 d.b, .slice d.pa d.pn d.pc, .slice d.ka d.kn d.kc] 42)) wr)) (fun _ i _ => d.pn - (intOf i).toNat)
  case atStart => exact ⟨0, Nat.zero_le _, rfl, Lib.hid (PRow.start _ _ _ _ _), Lib.hid (Below.refl _ _)⟩
  case round =>
    obtain ⟨k, hk, rfl, hrow, hbX⟩ := hrel
    have hbw : Below w.heap.size w wr := HX.out.trans (hbX.out.mono (Nat.le_succ _))
    have hq2 := HK2.out wr hbX.out
    obtain ⟨A0, c0, rfl, hAc, him⟩ := hrow.out.imgs (by decide)
    have hll : (imgs6 d.b (d.pages.take k)).length = k := by
      unfold imgs6
      rw [List.length_map, List.length_take, HLN.out]; omega
    by_cases hlt2 : k < d.pn
    · have hlt' : (k : Int) < (d.pn : Int) := by omega
      have hm' : d.pn ≤ 9223372036854775807 := by omega
      obtain ⟨ab, ao, ea, hab, hcell⟩ := (HR.out wr hbw).2.2 (by omega)
      have hck := hcell k hlt2
      obtain ⟨z, hz⟩ : ∃ z, d.pages[k]? = some z := ⟨_, List.getElem?_eq_getElem (by rw [HLN.out]; exact hlt2)⟩
      rw [hz] at hck
      simp only [Option.getD_some] at hck
      have HSK := Lib.hid (show imgs6 d.b (d.pages.take (k + 1)) = imgs6 d.b (d.pages.take k) ++ [(z, reps 240 ((d.b + z) % 256))] from by
        rw [List.take_add_one, hz]
        simp [imgs6])
      have HPG := Lib.hid (page_any ((d.b + z) % 256) (by omega) wr)
      have hzz : (d.b + z % 256) % 256 = (d.b + z) % 256 := by omega
      have hbs := hbX.out.size
      have hll64 : (imgs6 d.b (d.pages.take k)).length ≤ 4294967296 := by omega
      have hbwr : w.heap.size + 1 ≤ wr.heap.size := by rw [← hX0s]; exact hbs
      clear hcell hab hz him hbw hll hX0s
      rw [ea]
      go_wp2_with fail
      refine HPG.out.mono ?_
      rintro e w2 ⟨g, rfl, hg, hr2, hb2⟩
      have hrow2 := hrow.out.below (by decide) hb2
      obtain ⟨vs, hvs, hvl⟩ := hrow2.row
      have hX3 : Below w2.heap.size w2 (w2.alloc (.cells #[.int .i64 z, .slice (some ⟨g, 0, none⟩) 240 240] 64)) := (Below.refl _ _).alloc (Nat.le_refl _) _
      have hvsX := own_stays hvs (fun r hr => hX3.block r (own_at hvs r hr).2)
      have hbk : (w2.alloc (.cells #[.int .i64 z, .slice (some ⟨g, 0, none⟩) 240 240] 64)).heap[w2.heap.size]? = some (.cells #[.int .i64 z, .slice (some ⟨g, 0, none⟩) 240 240] 64 (0, 0)) := heap_alloc_new _ _
      have hgl : g < w2.heap.size := by obtain ⟨bb, _, e, hbb, _⟩ := hr2.at_ (by decide); cases e; exact hbb
      have hs2 := hb2.size
      have hno : (Value.slice A0 (imgs6 d.b (d.pages.take k)).length c0).ownBlock ≠ some g := fun e => by
        obtain ⟨vs0, hv0, _⟩ := hrow.out.row
        have := (own_at hv0 g e).2
        omega
      have hfar : Far w2 (fun j => j < w.heap.size) (.slice A0 (imgs6 d.b (d.pages.take k)).length c0) (.slice (some ⟨g, 0, none⟩) 240 240) 240 (reps 240 ((d.b + z) % 256)) := ⟨g, 240, rfl, Nat.le_refl _, fun hf => by have : g < w.heap.size := hf; omega, hno, hgl, hr2⟩
      have HPU := Lib.hid (fun (w4 : World) (A' : Option Addr) (c' : Nat) h1 h2 h3 => hrow2.push (v' := .slice A' ((imgs6 d.b (d.pages.take k)).length + 1) c') (w1 := w4) (x := z) (by decide) (fun k hk => by have : k < w.heap.size := hk; omega) hfar hvs hvl hX3 h1 h2 h3)
      have HBX2 := Lib.hid (hbX.out.trans (hb2.mono hbwr))
      have hw2s : w.heap.size + 1 ≤ w2.heap.size := by omega
      have HOV := Lib.hid (fun r hr => (own_at hvs r hr).1)
      clear hr2 hb2 hrow2 hvs hvl hX3 hno hfar hs2 HPG hAc
      generalize imgs6 d.b (d.pages.take k) = LL at *
      go_wp2_with (at_builtin; refine wpList_append_two rfl _ _ 56 64 rfl Tryd.underlying56 info_image (w.heap.size + 1) (.slice A0 LL.length c0) LL.length vs rfl w2.heap.size (.int .i64 z) (.slice (some ⟨g, 0, none⟩) 240 240) 64 rfl hvsX hbk rfl rfl (by omega) (by simp; omega) ?_; intro A4 c4 w4 hown4 hg4 hl4; have HO4 := Lib.hid (And.intro hown4 (And.intro hg4 hl4)); clear hown4 hg4 hl4 hvsX hbk)
      obtain ⟨q1', _, _⟩ := HPU.out w4 A4 c4 HO4.out.1 HO4.out.2.1 (by
        rcases HO4.out.2.2 with a | a
        · exact .inl a
        · exact .inr ⟨_, a, by simp⟩)
      have hb4 := Lib.hid ((HBX2.out.alloc hw2s _).grown HO4.out.2.1 (by simp; omega) HOV.out)
      have hrow4 := Lib.hid q1'
      clear q1'
      go_roundw
      case rel => exact ⟨k + 1, by omega, by go_num, by rw [HSK.out]; exact hrow4, by rw [← ea]; exact hb4⟩
      case measure => simp [intOf]; omega
    · obtain rfl : k = d.pn := by omega
      have hfull : d.pages.take d.pn = d.pages := List.take_of_length_le (by rw [HLN.out]; exact Nat.le_refl _)
      rw [hfull] at him hll
      have HF := Lib.hid (And.intro him (And.intro hbw hll))
      have HFU := Lib.hid hfull
      clear him hrow hll hbw hfull
      go_wp2
      go_ret
      obtain ⟨q5, q6, q7⟩ := HF.out
      rw [HFU.out]
      rw [q7] at q5
      exact ⟨A0, c0, by rw [q7]; rfl, q5, q6⟩

end Go.Proofs.YtkmlmbakgmafjaaDoor

/-
  Both logs of the law: the program's on its disk, and the plain one; worked on call by call. Conditions: those of the contracts.
-/
namespace Go.Proofs.YtkmlmbakgmafjaaDoor
open Go.RowKit
set_option maxRecDepth 100000
set_option linter.unusedVariables false

/-- Both disks, S, apart from each other; what was there when the law began (w0) stands. -/
structure TwoL (D : World → (Nat → Prop) → Addr → DS → Prop) (w0 w : World) (F G : Nat → Prop) (p x : Addr) (S T : DS) : Prop where
  d : LawD D w0 w F p S
  r : RefAt w G x T
  gout : ∀ k, G k → w0.heap.size ≤ k
  apart : ∀ k, F k → ¬ G k

section
variable {D : World → (Nat → Prop) → Addr → DS → Prop} {w0 w w' : World} {F G : Nat → Prop} {p x : Addr} {S T : DS} {q q' : Nat} {seq : Int}

theorem TwoL.later (api : DiskApi D) (h : TwoL D w0 w F G p x S T) (hb : Below w.heap.size w w') : TwoL D w0 w' F G p x S T := ⟨h.d.later api hb, h.r.keep (fun k hk => hb.block k (h.r.lt k hk)), h.gout, h.apart⟩
theorem TwoL.nextD (h : TwoL D w0 w F G p x S T) {F' : Nat → Prop} {S' : DS} (hd : LawD D w0 w' F' p S') (ht : Touch F w w') (hF : ∀ k, F' k → F k ∨ w.heap.size ≤ k) : TwoL D w0 w' F' G p x S' T :=
  ⟨hd, h.r.keep (fun k hk => ht.block k (h.r.lt k hk) (fun hf => h.apart k hf hk)), h.gout, fun k hf hg => by
    rcases hF k hf with a | a
    · exact h.apart k a hg
    · have := h.r.lt k hg; omega⟩
theorem TwoL.nextR (api : DiskApi D) (h : TwoL D w0 w F G p x S T) {G' : Nat → Prop} {T' : DS} (hr : RefAt w' G' x T') (ht : Touch G w w') (hG : ∀ k, G' k → G k ∨ w.heap.size ≤ k) : TwoL D w0 w' F G' p x S T' := by
  have hlt := h.d.lt api
  refine ⟨⟨api.keep w w' F p S h.d.d (fun k hk => ht.block k (hlt k hk) (h.apart k hk)), h.d.out, h.d.bel.trans (ht.below h.gout h.d.bel.size), h.d.tab⟩, hr, fun k hk => ?_, fun k hf hg => ?_⟩
  · rcases hG k hk with a | a
    · exact h.gout k a
    · exact Nat.le_trans h.d.bel.size a
  · rcases hG k hg with a | a
    · exact h.apart k hf a
    · have := hlt k hf; omega

/-- .. and a log of each. -/
structure TwoQ (D : World → (Nat → Prop) → Addr → DS → Prop) (w0 w : World) (F G : Nat → Prop) (p x : Addr) (S T : DS) (q q' : Nat) (s t : Int) : Prop extends TwoL D w0 w F G p x S T where
  log : PLog w q p s
  ref : RLog w q' x t
  qF : ¬ F q
  qG : ¬ G q
  rF : ¬ F q'
  rG : ¬ G q'
  ne : q ≠ q'
  q0 : w0.heap.size ≤ q
  r0 : w0.heap.size ≤ q'

theorem TwoQ.law {t : Int} (h : TwoQ D w0 w F G p x S T q q' seq t) : LawL D w0 w F p S q seq := ⟨h.d, h.log, h.qF, h.q0⟩
theorem TwoQ.later (api : DiskApi D) {s t : Int} (h : TwoQ D w0 w F G p x S T q q' s t) (hb : Below w.heap.size w w') : TwoQ D w0 w' F G p x S T q q' s t :=
  ⟨h.toTwoL.later api hb, h.log.below hb, h.ref.keep (hb.block q' h.ref.cells.2.2.2), h.qF, h.qG, h.rF, h.rG, h.ne, h.q0, h.r0⟩
theorem TwoQ.nextD {s t : Int} (h : TwoQ D w0 w F G p x S T q q' s t) {F' : Nat → Prop} {S' : DS} (hd : LawD D w0 w' F' p S') (ht : Touch F w w') (hF : ∀ k, F' k → F k ∨ w.heap.size ≤ k) : TwoQ D w0 w' F' G p x S' T q q' s t := by
  have hq := h.log.cells.2.2.2
  have hr := h.ref.cells.2.2.2
  refine ⟨h.toTwoL.nextD hd ht hF, h.log.keep (ht.block q hq h.qF), h.ref.keep (ht.block q' hr h.rF), fun hf => ?_, h.qG, fun hf => ?_, h.rG, h.ne, h.q0, h.r0⟩
  · rcases hF q hf with a | a
    · exact h.qF a
    · omega
  · rcases hF q' hf with a | a
    · exact h.rF a
    · omega
theorem TwoQ.nextR (api : DiskApi D) {s t : Int} (h : TwoQ D w0 w F G p x S T q q' s t) {G' : Nat → Prop} {T' : DS} (hr : RefAt w' G' x T') (ht : Touch G w w') (hG : ∀ k, G' k → G k ∨ w.heap.size ≤ k) : TwoQ D w0 w' F G' p x S T' q q' s t := by
  have hq := h.log.cells.2.2.2
  have hr' := h.ref.cells.2.2.2
  refine ⟨h.toTwoL.nextR api hr ht hG, h.log.keep (ht.block q hq h.qG), h.ref.keep (ht.block q' hr' h.rG), h.qF, fun hf => ?_, h.rF, fun hf => ?_, h.ne, h.q0, h.r0⟩
  · rcases hG q hf with a | a
    · exact h.qG a
    · omega
  · rcases hG q' hf with a | a
    · exact h.rG a
    · omega
theorem TwoQ.commitD {s s' t : Int} (h : TwoQ D w0 w F G p x S T q q' s t) {F' : Nat → Prop} {S' : DS} (hl : LawL D w0 w' F' p S' q s') (ht : Touch (orAt F q) w w') (hF : ∀ k, F' k → F k ∨ w.heap.size ≤ k) : TwoQ D w0 w' F' G p x S' T q q' s' t := by
  have hr := h.ref.cells.2.2.2
  refine ⟨⟨hl.toLawD, h.r.keep (fun k hk => ht.block k (h.r.lt k hk) (fun hf => ?_)), h.gout, fun k hf hg => ?_⟩, hl.log, h.ref.keep (ht.block q' hr (fun hf => ?_)), hl.qF, h.qG, fun hf => ?_, h.rG, h.ne, h.q0, h.r0⟩
  · rcases hf with a | a
    · exact h.apart k a hk
    · exact h.qG (a ▸ hk)
  · rcases hF k hf with a | a
    · exact h.apart k a hg
    · have := h.r.lt k hg; omega
  · rcases hf with a | a
    · exact h.rF a
    · exact h.ne a.symm
  · rcases hF q' hf with a | a
    · exact h.rF a
    · omega
theorem TwoQ.commitR (api : DiskApi D) {s t : Int} (h : TwoQ D w0 w F G p x S T q q' s t) {r : Int × Int × DS} (hc : Committed w G x q' r w') : ∃ G', TwoQ D w0 w' F G' p x S r.2.2 q q' s r.2.1 := by
  obtain ⟨G', h1, h2, h3, ht, hG⟩ := hc
  have hlt := h.d.lt api
  have hq := h.log.cells.2.2.2
  have hX : ∀ k, F k → ¬ (G k ∨ k = q') := fun k hk hf => by
    rcases hf with a | a
    · exact h.apart k hk a
    · exact h.rF (a ▸ hk)
  refine ⟨G', ⟨⟨⟨api.keep w w' F p S h.d.d (fun k hk => ht.block k (hlt k hk) (hX k hk)), h.d.out, h.d.bel.trans (ht.below (fun k hk => ?_) h.d.bel.size), h.d.tab⟩, h1, fun k hk => ?_, fun k hf hg => ?_⟩, h.log.keep (ht.block q hq (fun hf => ?_)), h2, h.qF, fun hf => ?_, h.rF, h3, h.ne, h.q0, h.r0⟩⟩
  · rcases hk with a | a
    · exact h.gout k a
    · have := h.r0; omega
  · rcases hG k hk with a | a
    · exact h.gout k a
    · exact Nat.le_trans h.d.bel.size a
  · rcases hG k hg with a | a
    · exact h.apart k hf a
    · have := hlt k hf; omega
  · rcases hf with a | a
    · exact h.qG a
    · exact h.ne a
  · rcases hG q hf with a | a
    · exact h.qG a
    · omega

/-- The program's Open, the plain log not opened yet. -/
theorem two_openD (api : DiskApi D) (h : TwoL D w0 w F G p x S T) (hw : S.writes ≤ 9223372036854700000) : Calls Tryd.prog 13 #[.pointer (some p)] w fun e w' =>
    ((openS S).1 ≠ 0 ∧ e = .returned (.tuple #[.pointer none, .int .i64 (openS S).1]) ∧ ∃ F', TwoL D w0 w' F' G p x (openS S).2.2 T) ∨
    ((openS S).1 = 0 ∧ ∃ q F', e = .returned (.tuple #[.pointer (some ⟨q, 0, none⟩), .int .i64 0]) ∧ TwoL D w0 w' F' G p x (openS S).2.2 T ∧ PLog w' q p (openS S).2.1 ∧ ¬ F' q ∧ ¬ G q ∧ w0.heap.size ≤ q) := by
  refine (law_open api h.d hw).mono ?_
  rintro e w' (⟨h1, rfl, F', d, t, n⟩ | ⟨h1, q, F', rfl, hq, l, t, n⟩)
  · exact .inl ⟨h1, rfl, F', h.nextD d t n⟩
  · exact .inr ⟨h1, q, F', rfl, h.nextD l.toLawD t n, l.log, l.qF, fun hg => by have := h.r.lt q hg; omega, l.q0⟩
theorem two_openR_no (api : DiskApi D) (h : TwoL D w0 w F G p x S T) (hw : T.writes ≤ 9223372036854700000) (h0 : (openS T).1 ≠ 0) : Calls Tryd.prog 14 #[.pointer (some x)] w fun e w' => e = .returned (.tuple #[.pointer none, .int .i64 (openS T).1]) ∧ ∃ G', TwoL D w0 w' F G' p x S (openS T).2.2 := by
  refine (refOpen_any h.r hw).mono ?_
  rintro e w' (⟨_, rfl, G', r, t, n⟩ | ⟨h1, _⟩)
  · exact ⟨rfl, G', h.nextR api r t n⟩
  · exact absurd h1 h0
theorem two_openR (api : DiskApi D) (h : TwoL D w0 w F G p x S T) {s : Int} (hl : PLog w q p s) (hF : ¬ F q) (hG : ¬ G q) (hq0 : w0.heap.size ≤ q) (hw : T.writes ≤ 9223372036854700000) (h0 : (openS T).1 = 0) : Calls Tryd.prog 14 #[.pointer (some x)] w fun e w' => ∃ q' G', e = .returned (.tuple #[.pointer (some ⟨q', 0, none⟩), .int .i64 0]) ∧ TwoQ D w0 w' F G' p x S (openS T).2.2 q q' s (openS T).2.1 := by
  have hql := hl.cells.2.2.2
  have hlt := h.d.lt api
  refine (refOpen_any h.r hw).mono ?_
  rintro e w' (⟨h1, _⟩ | ⟨_, q', G', rfl, hq', rl, rg, r, t, n⟩)
  · exact absurd h0 h1
  · refine ⟨q', G', rfl, ⟨h.nextR api r t n, hl.keep (t.block q hql hG), rl, hF, fun hg => ?_, fun hf => by have := hlt q' hf; omega, rg, by omega, hq0, Nat.le_trans h.d.bel.size hq'⟩⟩
    rcases n q hg with a | a
    · exact hG a
    · omega

theorem RefAt.told {w : World} {G : Nat → Prop} {gx : Nat} {S : DS} (h : RefAt w G ⟨gx, 0, none⟩ S) : w.cell? ⟨gx, 2, none⟩ = some (.int .i64 (S.writes : Nat)) ∧ w.cell? ⟨gx, 5, none⟩ = some (.bool S.down) := by
  obtain ⟨gx', gl, e, h0, _⟩ := h
  cases e
  exact ⟨h0.cell (o := 2) (by decide), h0.cell (o := 5) (by decide)⟩
theorem RefAt.okay {w : World} {G : Nat → Prop} {x : Addr} {S : DS} (h : RefAt w G x S) : S.Ok := by
  obtain ⟨_, _, _, _, hok, _⟩ := h
  exact hok

/-- Both logs, or none. -/
def Lg (D : World → (Nat → Prop) → Addr → DS → Prop) (w0 w : World) (p x : Addr) (S : DS) (j : Nat) (av bv : Value) : Prop :=
  (av = .pointer none ∧ bv = .pointer none ∧ ∃ F G, TwoL D w0 w F G p x S S) ∨
  ∃ q q' s F G, av = .pointer (some ⟨q, 0, none⟩) ∧ bv = .pointer (some ⟨q', 0, none⟩) ∧ TwoQ D w0 w F G p x S S q q' s s ∧ 0 ≤ s ∧ s ≤ 1 + (j : Int)
theorem Lg.two {j : Nat} {av bv : Value} (h : Lg D w0 w p x S j av bv) : ∃ F G, TwoL D w0 w F G p x S S := by
  rcases h with ⟨_, _, h⟩ | ⟨q, q', s, F, G, _, _, h, _⟩
  · exact h
  · exact ⟨F, G, h.toTwoL⟩
end

end Go.Proofs.YtkmlmbakgmafjaaDoor
