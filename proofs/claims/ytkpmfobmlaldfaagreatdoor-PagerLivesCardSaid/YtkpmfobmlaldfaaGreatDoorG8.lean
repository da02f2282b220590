/-
  The texts RedoM, DiskDevB joined. Conditions: those that each part says at its head.
-/
import Derived.Test.YtkpmfobmlaldfaaGreatDoorG6
import Derived.Test.YtkpmfobmlaldfaaGreatDoorG4
import Derived.Test.YtkpmfobmlaldfaaGreatDoorG1

/-
  Plain: how large a log's seq can be, and how many sectors were written, behind any calls. No program.
-/
namespace Go.Proofs.YtkpmfobmlaldfaaGreatDoor
open Go.RowKit
set_option maxRecDepth 100000
set_option linter.unusedVariables false

/-- The marks that may be there have a seq of at most B. -/
def Mk (B : Int) (S : DS) : Prop := (unpackR (S.last 0)).2.1 ≤ B ∧ (unpackR (S.safe 0)).2.1 ≤ B
section
variable {S : DS} {B : Int}
theorem Mk.mono (h : Mk B S) {B' : Int} (hB : B ≤ B') : Mk B' S := ⟨by have := h.1; omega, by have := h.2; omega⟩
theorem Mk.write (h : Mk B S) {i : Int} {l : List Int} (hl : 0 < i ∨ (unpackR l).2.1 ≤ B) : Mk B (S.write i l) := by
  unfold DS.write
  split
  · exact h
  split
  · exact h
  split
  · exact h
  · refine ⟨?_, h.2⟩
    show (unpackR (if 0 = i.toNat then l else S.last 0)).2.1 ≤ B
    split
    · rename_i e
      rcases hl with a | a
      · omega
      · exact a
    · exact h.1
theorem Mk.flush (h : Mk B S) : Mk B S.flush := by
  unfold DS.flush
  split
  · exact h
  · exact ⟨h.1, h.1⟩
theorem Mk.fuse (h : Mk B S) (k : Int) : Mk B (S.fuse k) := h
open Classical in
theorem Mk.crash (h : Mk B S) (keep : List Int) : Mk B (S.crash keep) := by
  have e : (unpackR (if S.kept keep 0 then S.last 0 else S.safe 0)).2.1 ≤ B := by
    split
    · exact h.1
    · exact h.2
  exact ⟨e, e⟩
theorem Mk.put (l : List (Int × List Int)) : ∀ {S : DS}, Mk B S → (∀ y ∈ l, 0 < y.1 ∨ (unpackR y.2).2.1 ≤ B) → Mk B (putS S l).2 := by
  induction l with
  | nil => intro S h _; exact h.flush
  | cons y r ih =>
    intro S h hy
    rw [putS_cons]
    have h1 : Mk B (S.wr y.1 y.2).2 := h.write (hy y (List.mem_cons_self ..))
    by_cases h0 : (S.wr y.1 y.2).1 = 0
    · rw [thenS_ok h0]
      exact ih h1 (fun z hz => hy z (List.mem_cons_of_mem _ hz))
    · rw [thenS_no h0]; exact h1
theorem Mk.homes (l : List (Int × List Int)) (h : Mk B S) (hl : ∀ y ∈ l, 0 ≤ y.1) : Mk B (homesS S l).2 := by
  rw [← putS_homes]
  refine h.put _ (fun y hy => ?_)
  obtain ⟨z, hz, rfl⟩ := List.mem_map.1 hy
  left
  have := hl z hz
  have h2 := (pagesOf_nn (S.n : Int)).1
  show 0 < z.1 + 1 + pagesOf (S.n : Int)
  omega
theorem Mk.open_ (h : Mk B S) : Mk B (openS S).2.2 ∧ ((openS S).1 = 0 → 0 ≤ (openS S).2.1 ∧ (openS S).2.1 ≤ B) := by
  unfold openS
  split
  · exact ⟨h, fun e => by cases e⟩
  split
  · exact ⟨h, fun e => by cases e⟩
  rename_i he
  have he' : (unpackR (S.last 0)).2.2.2 = 0 := Classical.not_not.1 he
  have h0 := (unpack_page he').2.1
  split
  · exact ⟨h, fun _ => ⟨h0, h.1⟩⟩
  · rename_i l hl
    have hm := h.homes l (fun y hy => ((slotsOf_pages hl).1 y hy).1)
    split
    · rename_i h1
      exact ⟨hm, fun e => absurd e h1⟩
    · exact ⟨hm, fun _ => ⟨h0, h.1⟩⟩
theorem atSlots_pos (l : List (Int × List Int)) : ∀ i, ∀ y ∈ atSlots i l, 0 < y.1 := by
  induction l with
  | nil => intro i y hy; cases hy
  | cons z r ih =>
    intro i y hy
    rcases List.mem_cons.1 hy with rfl | hy
    · show (0 : Int) < (i : Int) + 1; omega
    · exact ih _ y hy
theorem Mk.commit (h : Mk B S) {seq : Int} {l : List (Int × List Int)} (hs : 0 ≤ seq ∧ seq ≤ B) (hB : B < 4611686018427387904) (hby : ∀ y ∈ l, AllBytes y.2) :
    Mk (B + 1) (commitS S seq l).2.2 ∧ (0 ≤ (commitS S seq l).2.1 ∧ (commitS S seq l).2.1 ≤ B + 1) ∧ (commitS S seq l).2.2.writes ≤ S.writes + (2 * l.length + 1) ∧ (commitS S seq l).2.2.n = S.n := by
  have hmono := h.mono (show B ≤ B + 1 by omega)
  by_cases hr : rightE S l = 0
  · by_cases hne : l = []
    · subst hne
      rw [commit_nil]
      exact ⟨hmono, ⟨hs.1, by show seq ≤ _; omega⟩, Nat.le_add_right _ _, rfl⟩
    obtain ⟨hrs, hnP⟩ := right_is hr
    have hI : Imgs S.n seq l := ⟨fun y hy => hrs.1 y hy, hby, hrs.2, hnP, hs.1, by omega⟩
    obtain ⟨c1, c2, c3, c4⟩ := commit_more rfl hI
    refine ⟨?_, ⟨by omega, by omega⟩, c1, c2⟩
    have hpn := (pagesOf_nn (S.n : Int)).2.2
    have hP : S.P = pagesOf S.n := rfl
    rw [commitS_is hr hne]
    have m1 : Mk (B + 1) (putS S (atSlots 0 (packs (seq + 1) l))).2 := hmono.put _ (fun y hy => .inl (atSlots_pos _ _ y hy))
    have hsec : secR l.length (seq + 1) = true := decide_eq_true ⟨by omega, by omega, by omega, by omega⟩
    unfold commitP
    split
    · exact m1
    generalize (putS S (atSlots 0 (packs (seq + 1) l))).2 = S3 at m1 ⊢
    have m2 : Mk (B + 1) (markS S3 l.length (seq + 1)).2 := by
      rw [← mark_put _ hsec]
      refine m1.put _ (fun y hy => ?_)
      obtain rfl := List.mem_singleton.1 hy
      right
      show (unpackR (secL l.length (seq + 1) zpage)).2.1 ≤ _
      rw [unpack_pack zpage_ok.2 hsec zpage_ok.1]
      show seq + 1 ≤ B + 1
      omega
    unfold commitM
    split
    · exact m2
    · exact m2.homes _ (fun y hy => (hI.mem hy).1.1)
  · rw [commitS_not (.inl hr)]
    exact ⟨hmono, ⟨hs.1, by show seq ≤ _; omega⟩, Nat.le_add_right _ _, rfl⟩
end

/-- What holds of the disk behind j calls. -/
structure LInv (n j : Nat) (S : DS) : Prop where
  n_ : S.n = n
  writes : S.writes ≤ 1 + 32767 * (j + 1)
  mark : Mk (1 + j) S
theorem LInv.start {n : Nat} (h : 3 ≤ n ∧ n ≤ 65536) : LInv n 0 (openS (markS (DS.new n) 0 1).2).2.2 ∧ (openS (markS (DS.new n) 0 1).2).2.1 = 1 ∧ (openS (markS (DS.new n) 0 1).2).1 = 0 ∧ (markS (DS.new n) 0 1).1 = 0 := by
  obtain ⟨r1, r2, r3, r4, r5, r6, r7⟩ := fresh_log h
  refine ⟨⟨r5, by rw [r6]; omega, ?_⟩, r3, r2, r1⟩
  have e : (unpackR (fresh1 0)).2.1 ≤ 1 + ((0 : Nat) : Int) := by rw [fresh1_mark]; decide
  exact ⟨by rw [r7.last]; exact e, by rw [r7.safe]; exact e⟩
theorem LInv.next {n j : Nat} {S S' : DS} (h : LInv n j S) (hn : S'.n = S.n) (hw : S'.writes ≤ S.writes + 32767) (hm : Mk (1 + j + 1) S') : LInv n (j + 1) S' :=
  ⟨hn.trans h.n_, by have := h.writes; omega, by
    have e : (1 : Int) + ((j + 1 : Nat) : Int) = 1 + j + 1 := by omega
    rw [e]; exact hm⟩
theorem LInv.fuse {n j : Nat} {S : DS} (h : LInv n j S) (k : Int) : LInv n (j + 1) (S.fuse k) := h.next rfl (Nat.le_add_right _ _) (h.mark.mono (by omega))
theorem LInv.same {n j : Nat} {S : DS} (h : LInv n j S) : LInv n (j + 1) S := h.next rfl (Nat.le_add_right _ _) (h.mark.mono (by omega))
theorem LInv.open_ {n j : Nat} {S : DS} (h : LInv n j S) : LInv n (j + 1) (openS S).2.2 ∧ ((openS S).1 = 0 → 0 ≤ (openS S).2.1 ∧ (openS S).2.1 ≤ 1 + ((j + 1 : Nat) : Int)) := by
  have hm := (h.mark.mono (show (1 : Int) + j ≤ 1 + j + 1 by omega)).open_
  have ho := open_more S
  exact ⟨h.next ho.2 ho.1 hm.1, fun e => by have := hm.2 e; omega⟩
theorem LInv.crash {n j : Nat} {S : DS} (h : LInv n j S) (keep : List Int) : LInv n j (S.crash keep) := ⟨h.n_, h.writes, h.mark.crash keep⟩
theorem LInv.commit {n j : Nat} {S : DS} (h : LInv n j S) {seq : Int} {l : List (Int × List Int)} (hs : 0 ≤ seq ∧ seq ≤ 1 + j) (hj : j ≤ 100) (hby : ∀ y ∈ l, AllBytes y.2) (hl : l.length ≤ 100) :
    LInv n (j + 1) (commitS S seq l).2.2 ∧ 0 ≤ (commitS S seq l).2.1 ∧ (commitS S seq l).2.1 ≤ 1 + ((j + 1 : Nat) : Int) := by
  obtain ⟨c1, c2, c3, c4⟩ := h.mark.commit hs (by omega) hby
  exact ⟨h.next c4 (by omega) c1, by omega, by omega⟩

end Go.Proofs.YtkpmfobmlaldfaaGreatDoor

/-
  The program's disk answers as it is to. Conditions: those of the contracts (a list of at most 2^63 - 1 places; fewer than 2^63 - 1 writes; a sector of at most 4,096 bytes).
-/
namespace Go.Proofs.YtkpmfobmlaldfaaGreatDoor
open Go.RowKit
set_option maxRecDepth 100000
set_option linter.unusedVariables false

theorem disk_said : ∃ D, DiskApi D := by
  refine ⟨DAt, ?_⟩
  exact {
    keep := fun w w' F p S h hk => h.keep hk
    lt := fun w F p S h => by
      obtain ⟨b, sb, fb, left, pv, sN, fN, sf, ff, rfl, hrow, hrest, harm, hok, hdom, hcnt, hFb, hlt⟩ := h
      exact hlt
    ok := fun w F p S h => by
      obtain ⟨b, sb, fb, left, pv, sN, fN, sf, ff, rfl, hrow, hrest, harm, hok, hdom, hcnt, hFb, hlt⟩ := h
      exact hok
    new := fun n w h1 h2 => by
      obtain ⟨k, rfl⟩ := Int.eq_ofNat_of_zero_le (show 0 ≤ n by omega)
      refine (new_yes k w (by omega) (by omega)).mono ?_
      rintro e w' ⟨p, rfl, F', hd, ht, hF⟩
      refine ⟨p, F', rfl, hd, ht.below (fun k h => absurd h id) (Nat.le_refl _), fun k hk => ?_⟩
      rcases hF k hk with a | a
      · exact absurd a id
      · exact a
    newNo := fun n w h => new_no n w h
    read := read_dev
    readAt := read_at
    write := fun i A n c B l w F p S h hr hc hn hw hA => write_dev i A n c B l w F p S h hr hc hn hw hA
    flush := flush_dev
    sizes := size_dev
    sizeSame := size_same }

end Go.Proofs.YtkpmfobmlaldfaaGreatDoor
