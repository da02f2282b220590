/-
  The texts LayP, RedoP, PgP, DiskSaidB joined. Conditions: those that each part says at its head.
-/
import Derived.Test.YtfbljmkjiaklfaaGreatDoorG1
import Derived.Test.YtfbljmkjiaklfaaGreatDoorG3
import Derived.Test.YtfbljmkjiaklfaaGreatDoorRows
import Derived.WalkKit
import Derived.WalkSpells
import Derived.WalkLawsBesides
import Derived.IntWalk
import Derived.Below
import Derived.Lib.Hide

/-
  Plain: where on a disk what stands, as the document says. No program.
-/
namespace Go.Proofs.YtfbljmkjiaklfaaGreatDoor
open Go.RowKit
set_option maxRecDepth 100000
set_option linter.unusedVariables false

/-- How many pages a disk of n sectors has. -/
def pagesOf (n : Int) : Int := if n < 3 ∨ n > 65536 then 0 else (n - 1) / 2
def slotOf (n i : Int) : Int × Bool := if i < 0 ∨ i ≥ pagesOf n then (0, false) else (i + 1, true)
def homeOf (n p : Int) : Int × Bool := if p < 0 ∨ p ≥ pagesOf n then (0, false) else (p + 1 + pagesOf n, true)

theorem pagesOf_bounds (n : Int) : 0 ≤ pagesOf n ∧ pagesOf n ≤ 32767 := by
  unfold pagesOf
  split <;> omega

theorem pagesOf_nn (n : Int) : 0 ≤ pagesOf n ∧ (3 ≤ n → 2 * pagesOf n < n) ∧ pagesOf n ≤ 32767 := by
  unfold pagesOf
  split <;> omega

theorem int_bounds' {n : Int} (h : (Lit.int .i64 n).wf = true) : -9223372036854775808 ≤ n ∧ n ≤ 9223372036854775807 := by
  simpa [Lit.wf, IntKind.min, IntKind.max, IntKind.signed, IntKind.bits] using h

end Go.Proofs.YtfbljmkjiaklfaaGreatDoor

/-
  Plain: what a log makes of a disk, as the document says: layout, Format, Open, Load, Commit over the plain state of a disk. No program.
-/
namespace Go.Proofs.YtfbljmkjiaklfaaGreatDoor
open Go.RowKit
set_option maxRecDepth 100000
set_option linter.unusedVariables false

/-- Noughts, a page. -/
def zpage : List Int := List.replicate 240 0
theorem zpage_ok : zpage.length = 240 ∧ AllBytes zpage := ⟨List.length_replicate .., fun x hx => by
  obtain rfl := (List.mem_replicate.1 hx).2
  decide⟩

def DS.P (S : DS) : Int := pagesOf S.n
/-- One step, unless the one ahead failed. -/
def thenS (r : Int × DS) (f : DS → Int × DS) : Int × DS := if r.1 = 0 then f r.2 else r
def DS.wr (S : DS) (i : Int) (l : List Int) : Int × DS := (S.writeE i l, S.write i l)
def DS.fl (S : DS) : Int × DS := (S.flushE, S.flush)
def markS (S : DS) (count seq : Int) : Int × DS := thenS (S.wr 0 (packR count seq zpage).1) DS.fl
/-- What an image of a disk has in its i-th slot: a page's number and the sector, if it is one of that seq. -/
def slotIn (n : Int) (f : Nat → List Int) (seq : Int) (i : Nat) : Option (Int × List Int) :=
  if (unpackR (f (i + 1))).2.2.2 = 0 ∧ (unpackR (f (i + 1))).2.1 = seq ∧ (unpackR (f (i + 1))).1 < pagesOf n then some ((unpackR (f (i + 1))).1, f (i + 1)) else none
/-- The first slots, if they are whole. -/
def slotsUp (n : Int) (f : Nat → List Int) (seq : Int) : Nat → Option (List (Int × List Int))
  | 0 => some []
  | k + 1 => match slotsUp n f seq k, slotIn n f seq k with | some l, some x => some (l ++ [x]) | _, _ => none
def slotsOf (n : Int) (f : Nat → List Int) (count seq : Int) : Option (List (Int × List Int)) := if count > pagesOf n then none else slotsUp n f seq count.toNat
def homesS (S : DS) : List (Int × List Int) → Int × DS
  | [] => S.fl
  | (p, b) :: r => thenS (S.wr (p + 1 + S.P) b) (fun S' => homesS S' r)
/-- What Open answers: an error or 0, the seq, and the disk. -/
def openS (S : DS) : Int × Int × DS :=
  if S.down = true then (5, 0, S) else
  if (unpackR (S.last 0)).2.2.2 ≠ 0 then (4, 0, S) else
  match slotsOf S.n S.last (unpackR (S.last 0)).1 (unpackR (S.last 0)).2.1 with
  | none => (0, (unpackR (S.last 0)).2.1, S)
  | some l => if (homesS S l).1 ≠ 0 then ((homesS S l).1, 0, (homesS S l).2) else (0, (unpackR (S.last 0)).2.1, (homesS S l).2)
def loadS (S : DS) (p : Int) : List Int × Int :=
  if p < 0 ∨ p ≥ S.P then ([], 1) else if S.down = true then ([], 5) else
  if (unpackR (S.last (p + 1 + S.P).toNat)).2.2.2 ≠ 0 ∨ (unpackR (S.last (p + 1 + S.P).toNat)).1 ≠ p then (zpage, 0) else ((unpackR (S.last (p + 1 + S.P).toNat)).2.2.1, 0)
/-- Images that may be committed. -/
def rightS (S : DS) (l : List (Int × List Int)) : Prop := (∀ x ∈ l, 0 ≤ x.1 ∧ x.1 < S.P ∧ x.2.length = 240) ∧ (l.map (·.1)).Nodup
instance (S : DS) (l : List (Int × List Int)) : Decidable (rightS S l) := by unfold rightS; infer_instance
/-- The sectors of images. -/
def packs (seq : Int) (l : List (Int × List Int)) : List (Int × List Int) := l.map fun x => (x.1, (packR x.1 seq x.2).1)
/-- Sectors are written one behind the other, from i on. -/
def slotsS (S : DS) (i : Int) : List (Int × List Int) → Int × DS
  | [] => (0, S)
  | (_, b) :: r => thenS (S.wr (i + 1) b) (fun S' => slotsS S' (i + 1) r)
def commitS (S : DS) (seq : Int) (l : List (Int × List Int)) : Int × Int × DS :=
  if (l.length : Int) > S.P then (6, seq, S) else if ¬ rightS S l then (1, seq, S) else if l = [] then (0, seq, S) else
  let a := thenS (slotsS S 0 (packs (seq + 1) l)) DS.fl
  if a.1 ≠ 0 then (a.1, seq, a.2) else
  let m := markS a.2 l.length (seq + 1)
  if m.1 ≠ 0 then (m.1, seq, m.2) else
  ((homesS m.2 (packs (seq + 1) l)).1, seq + 1, (homesS m.2 (packs (seq + 1) l)).2)

/-! ### images -/
/-- What a write of sectors makes of an image. -/
def putF (f : Nat → List Int) (i : Nat) (l : List Int) : Nat → List Int := fun j => if j = i then l else f j
def putH (n : Int) (f : Nat → List Int) (l : List (Int × List Int)) : Nat → List Int := l.foldl (fun g x => putF g (x.1 + 1 + pagesOf n).toNat x.2) f
/-- The image when it was opened. -/
def opened (n : Int) (f : Nat → List Int) : Nat → List Int :=
  match slotsOf n f (unpackR (f 0)).1 (unpackR (f 0)).2.1 with
  | none => f
  | some l => putH n f l
/-- A page of an image. -/
def pageIn (n : Int) (f : Nat → List Int) (p : Int) : List Int :=
  if (unpackR (f (p + 1 + pagesOf n).toNat)).2.2.2 ≠ 0 ∨ (unpackR (f (p + 1 + pagesOf n).toNat)).1 ≠ p then zpage else (unpackR (f (p + 1 + pagesOf n).toNat)).2.2.1

/-- The disk is an image, all of it safe. -/
structure Rests (S : DS) (f : Nat → List Int) : Prop where
  safe : S.safe = f
  last : S.last = f
  up : S.down = false

/-- Each sector has what f has, or what is in W. -/
def Within (f : Nat → List Int) (W : Nat → List Int → Prop) (g : Nat → List Int) : Prop := ∀ i, g i = f i ∨ W i (g i)

section
variable {S : DS} {f g : Nat → List Int} {W : Nat → List Int → Prop} {n : Int}

theorem Within.refl (f : Nat → List Int) (W : Nat → List Int → Prop) : Within f W f := fun i => .inl rfl
theorem Within.put (h : Within f W g) {i : Nat} {l : List Int} (hw : W i l) : Within f W (putF g i l) := fun j => by
  unfold putF
  by_cases e : j = i
  · subst e; rw [if_pos rfl]; exact .inr hw
  · rw [if_neg e]; exact h j

/-- Both what is safe and what was written last. -/
def Both (f : Nat → List Int) (W : Nat → List Int → Prop) (S : DS) : Prop := Within f W S.safe ∧ Within f W S.last

theorem Both.write (h : Both f W S) {i : Int} {l : List Int} (hw : W i.toNat l) : Both f W (S.write i l) := by
  unfold DS.write
  split
  · exact h
  split
  · exact h
  split
  · exact h
  · exact ⟨h.1, h.2.put hw⟩
theorem Both.flush (h : Both f W S) : Both f W S.flush := by
  unfold DS.flush
  split
  · exact h
  · exact ⟨h.2, h.2⟩
theorem Both.fuse (h : Both f W S) (k : Int) : Both f W (S.fuse k) := h
open Classical in
theorem Both.crash (h : Both f W S) (keep : List Int) : Within f W (S.crash keep).last ∧ Rests (S.crash keep) (S.crash keep).last := by
  refine ⟨fun i => ?_, rfl, rfl, rfl⟩
  show (if S.kept keep i then S.last i else S.safe i) = f i ∨ W i (if S.kept keep i then S.last i else S.safe i)
  split
  · exact h.2 i
  · exact h.1 i
theorem Rests.both (h : Rests S f) (W : Nat → List Int → Prop) : Both f W S := by
  obtain ⟨h1, h2, _⟩ := h
  exact ⟨by rw [h1]; exact Within.refl f W, by rw [h2]; exact Within.refl f W⟩

theorem Both.homes (l : List (Int × List Int)) : ∀ {S : DS}, Both f W S → (∀ x ∈ l, W (x.1 + 1 + S.P).toNat x.2) → Both f W (homesS S l).2 := by
  induction l with
  | nil => intro S h _; exact h.flush
  | cons x r ih =>
    obtain ⟨p, b⟩ := x
    intro S h hw
    unfold homesS thenS
    have h1 : Both f W (S.write (p + 1 + S.P) b) := h.write (hw _ (List.mem_cons_self ..))
    have hn : (S.write (p + 1 + S.P) b).P = S.P := by
      unfold DS.P DS.write
      split
      · rfl
      split
      · rfl
      split <;> rfl
    split
    · exact ih h1 fun x hx => by
        rw [show (S.wr (p + 1 + S.P) b).2 = S.write (p + 1 + S.P) b from rfl, hn]
        exact hw x (List.mem_cons_of_mem _ hx)
    · exact h1
theorem Both.slots (l : List (Int × List Int)) : ∀ {S : DS} (i : Int), Both f W S → (∀ (k : Nat) (x : Int × List Int), l[k]? = some x → W (i + k + 1).toNat x.2) → Both f W (slotsS S i l).2 := by
  induction l with
  | nil => intro S i h _; exact h
  | cons x r ih =>
    obtain ⟨p, b⟩ := x
    intro S i h hw
    unfold slotsS thenS
    have h1 : Both f W (S.write (i + 1) b) := h.write (by have := hw 0 _ rfl; simpa using this)
    split
    · exact ih (i + 1) h1 fun k x hx => by
        have := hw (k + 1) x hx
        rw [show i + 1 + (k : Int) + 1 = i + ((k + 1 : Nat) : Int) + 1 by omega]
        exact this
    · exact h1
end

end Go.Proofs.YtfbljmkjiaklfaaGreatDoor

/-
  Plain: what a pager has set, as a rising list of pages, and what it makes of a log; as the document says. No program.
-/
namespace Go.Proofs.YtfbljmkjiaklfaaGreatDoor
open Go.RowKit
set_option maxRecDepth 100000
set_option linter.unusedVariables false

/-- What page i was set to, if it was. -/
def atL : List (Int × List Int) → Int → Option (List Int)
  | [], _ => none
  | x :: r, i => if x.1 = i then some x.2 else atL r i
/-- Page i is set to l. -/
def setL : List (Int × List Int) → Int → List Int → List (Int × List Int)
  | [], i, l => [(i, l)]
  | x :: r, i, l => if x.1 < i then x :: setL r i l else if x.1 = i then (i, l) :: r else (i, l) :: x :: r
/-- Rising. -/
def Rising (L : List (Int × List Int)) : Prop := L.Pairwise fun a b => a.1 < b.1
/-- All of it may be committed, one by one. -/
def AllSet (S : DS) (L : List (Int × List Int)) : Prop := ∀ x ∈ L, 0 ≤ x.1 ∧ x.1 < S.P ∧ x.2.length = 240 ∧ AllBytes x.2
def getPg (S : DS) (L : List (Int × List Int)) (i : Int) : List Int × Int := match atL L i with | some l => (l, 0) | none => loadS S i
def setPgE (S : DS) (i : Int) (l : List Int) : Int := if i < 0 ∨ i ≥ S.P ∨ l.length ≠ 240 then 1 else 0
def setPg (S : DS) (L : List (Int × List Int)) (i : Int) (l : List Int) : List (Int × List Int) := if i < 0 ∨ i ≥ S.P ∨ l.length ≠ 240 then L else setL L i l
def leftPg (S : DS) (seq : Int) (L : List (Int × List Int)) : List (Int × List Int) := if (commitS S seq L).1 = 0 then [] else L

section
variable {S : DS} {L : List (Int × List Int)} {i j : Int} {l : List Int}

theorem atL_setL : ∀ L : List (Int × List Int), atL (setL L i l) j = if j = i then some l else atL L j
  | [] => by
    show (if i = j then some l else none) = _
    by_cases h : j = i
    · rw [if_pos h, if_pos h.symm]
    · rw [if_neg h, if_neg (fun e => h e.symm)]; rfl
  | x :: r => by
    unfold setL
    by_cases h1 : x.1 < i
    · rw [if_pos h1]
      show (if x.1 = j then some x.2 else atL (setL r i l) j) = if j = i then some l else if x.1 = j then some x.2 else atL r j
      rw [atL_setL r]
      by_cases h2 : x.1 = j
      · rw [if_pos h2, if_pos h2, if_neg (by omega)]
      · rw [if_neg h2, if_neg h2]
    · rw [if_neg h1]
      by_cases h2 : x.1 = i
      · rw [if_pos h2]
        show (if i = j then some l else atL r j) = if j = i then some l else if x.1 = j then some x.2 else atL r j
        by_cases h3 : j = i
        · rw [if_pos h3.symm, if_pos h3]
        · rw [if_neg (fun e => h3 e.symm), if_neg h3, if_neg (by omega)]
      · rw [if_neg h2]
        show (if i = j then some l else if x.1 = j then some x.2 else atL r j) = if j = i then some l else if x.1 = j then some x.2 else atL r j
        by_cases h3 : j = i
        · rw [if_pos h3.symm, if_pos h3]
        · rw [if_neg (fun e => h3 e.symm), if_neg h3]
theorem mem_setL {x : Int × List Int} : ∀ L : List (Int × List Int), x ∈ setL L i l → x = (i, l) ∨ x ∈ L
  | [], h => .inl (List.mem_singleton.1 h)
  | y :: r, h => by
    unfold setL at h
    by_cases h1 : y.1 < i
    · rw [if_pos h1] at h
      rcases List.mem_cons.1 h with rfl | h
      · exact .inr (List.mem_cons_self ..)
      · exact (mem_setL r h).imp id (List.mem_cons_of_mem _)
    · rw [if_neg h1] at h
      by_cases h2 : y.1 = i
      · rw [if_pos h2] at h
        rcases List.mem_cons.1 h with rfl | h
        · exact .inl rfl
        · exact .inr (List.mem_cons_of_mem _ h)
      · rw [if_neg h2] at h
        rcases List.mem_cons.1 h with rfl | h
        · exact .inl rfl
        · exact .inr h
theorem Rising.set : ∀ {L : List (Int × List Int)}, Rising L → Rising (setL L i l)
  | [], _ => List.pairwise_singleton ..
  | y :: r, h => by
    have h' := List.pairwise_cons.1 h
    unfold setL
    by_cases h1 : y.1 < i
    · rw [if_pos h1]
      refine List.pairwise_cons.2 ⟨fun z hz => ?_, Rising.set h'.2⟩
      rcases mem_setL r hz with rfl | hz
      · exact h1
      · exact h'.1 z hz
    · rw [if_neg h1]
      by_cases h2 : y.1 = i
      · rw [if_pos h2]
        exact List.pairwise_cons.2 ⟨fun z hz => by have := h'.1 z hz; show i < z.1; omega, h'.2⟩
      · rw [if_neg h2]
        refine List.pairwise_cons.2 ⟨fun z hz => ?_, h⟩
        rcases List.mem_cons.1 hz with rfl | hz
        · show i < z.1; omega
        · have := h'.1 z hz; show i < z.1; omega
theorem AllSet.set (h : AllSet S L) (hi : 0 ≤ i ∧ i < S.P) (hl : l.length = 240) (hb : AllBytes l) : AllSet S (setL L i l) := fun x hx => by
  rcases mem_setL L hx with rfl | hx
  · exact ⟨hi.1, hi.2, hl, hb⟩
  · exact h x hx
theorem setPg_ok (h : Rising L) (h2 : AllSet S L) (hb : AllBytes l) : Rising (setPg S L i l) ∧ AllSet S (setPg S L i l) := by
  unfold setPg
  by_cases hc : i < 0 ∨ i ≥ S.P ∨ l.length ≠ 240
  · rw [if_pos hc]; exact ⟨h, h2⟩
  · rw [if_neg hc]
    exact ⟨h.set, h2.set (by omega) (by omega) hb⟩
theorem atL_none : ∀ {L : List (Int × List Int)}, (∀ x ∈ L, x.1 ≠ i) → atL L i = none
  | [], _ => rfl
  | x :: r, h => by
    unfold atL
    rw [if_neg (h x (List.mem_cons_self ..))]
    exact atL_none fun y hy => h y (List.mem_cons_of_mem _ hy)
theorem atL_mem : ∀ {L : List (Int × List Int)}, atL L i = some l → (i, l) ∈ L
  | [], h => by cases h
  | x :: r, h => by
    unfold atL at h
    by_cases h1 : x.1 = i
    · rw [if_pos h1] at h
      cases h
      rw [← h1]
      exact List.mem_cons_self ..
    · rw [if_neg h1] at h
      exact List.mem_cons_of_mem _ (atL_mem h)
theorem Rising.at_ : ∀ {L : List (Int × List Int)}, Rising L → (i, l) ∈ L → atL L i = some l
  | [], _, h => by cases h
  | x :: r, hr, h => by
    have h' := List.pairwise_cons.1 hr
    unfold atL
    rcases List.mem_cons.1 h with e | h
    · rw [← e, if_pos rfl]
    · have : x.1 < i := h'.1 _ h
      rw [if_neg (by omega)]
      exact Rising.at_ h'.2 h
theorem Rising.nodup (h : Rising L) : (L.map (·.1)).Nodup := by
  rw [List.nodup_iff_pairwise_ne, List.pairwise_map]
  exact h.imp fun {a b} hab => by omega
theorem Rising.right (h : Rising L) (h2 : AllSet S L) : rightS S L := ⟨fun x hx => ⟨(h2 x hx).1, (h2 x hx).2.1, (h2 x hx).2.2.1⟩, h.nodup⟩
theorem nodup_between : ∀ (N : Nat) (l : List Int), l.Nodup → (∀ x ∈ l, 0 ≤ x ∧ x < N) → l.length ≤ N
  | 0, l, _, h => by
    cases l with
    | nil => exact Nat.le_refl _
    | cons x r => have := h x (List.mem_cons_self ..); omega
  | N + 1, l, hn, h => by
    have h1 : (l.erase (N : Int)).length ≤ N := nodup_between N _ (hn.erase _) fun x hx => by
      have hx' := (hn.mem_erase_iff).1 hx
      have := h x hx'.2
      have := hx'.1
      omega
    have h2 : l.length ≤ (l.erase (N : Int)).length + 1 := by
      rw [List.length_erase]
      split <;> omega
    omega
theorem few_set (h : Rising L) (h2 : AllSet S L) : (L.length : Int) ≤ S.P := by
  have hp := pagesOf_bounds (S.n : Int)
  rcases Int.lt_or_le S.P 0 with hneg | hpos
  · cases L with
    | nil => exfalso; have := (pagesOf_nn (S.n : Int)).1; unfold DS.P at hneg; omega
    | cons x r => have := h2 x (List.mem_cons_self ..); omega
  · obtain ⟨N, hN⟩ := Int.eq_ofNat_of_zero_le hpos
    have := nodup_between N (L.map (·.1)) h.nodup fun x hx => by
      obtain ⟨y, hy, rfl⟩ := List.mem_map.1 hx
      have := h2 y hy
      omega
    rw [List.length_map] at this
    omega
end

end Go.Proofs.YtfbljmkjiaklfaaGreatDoor

/-
  What the program's own disk is to answer (Pending is not asked: for seats that do not call it), as a statement over any way in which a disk lies in memory: proved in a text of its own, used by the laws' walks.
-/
namespace Go.Proofs.YtfbljmkjiaklfaaGreatDoor
open Go.RowKit
set_option maxRecDepth 100000
set_option linter.unusedVariables false

/-- D w F p S: in w a disk S lies at p, in the blocks of F. -/
structure DiskApi (D : World → (Nat → Prop) → Addr → DS → Prop) : Prop where
  keep : ∀ (w w' : World) (F : Nat → Prop) (p : Addr) (S : DS), D w F p S → (∀ k, F k → w'.heap[k]? = w.heap[k]?) → D w' F p S
  lt : ∀ (w : World) (F : Nat → Prop) (p : Addr) (S : DS), D w F p S → ∀ k, F k → k < w.heap.size
  ok : ∀ (w : World) (F : Nat → Prop) (p : Addr) (S : DS), D w F p S → S.Ok
  new : ∀ (n : Int) (w : World), 3 ≤ n → n ≤ 65536 → Calls Tryz.prog 21 #[.int .i64 n] w fun e w' => ∃ (p : Addr) (F : Nat → Prop), e = .returned (.tuple #[.pointer (some p), .int .i64 0]) ∧ D w' F p (DS.new n.toNat) ∧ Below w.heap.size w w' ∧ ∀ k, F k → w.heap.size ≤ k
  newNo : ∀ (n : Int) (w : World), ¬ (3 ≤ n ∧ n ≤ 65536) → Calls Tryz.prog 21 #[.int .i64 n] w fun e w' => e = .returned (.tuple #[.pointer none, .int .i64 1]) ∧ w = w'
  read : ∀ (i : Int) (w : World) (F : Nat → Prop) (p : Addr) (S : DS), D w F p S → Calls Tryz.prog 61 #[.pointer (some p), .int .i64 i] w fun e w' => ∃ (A : Option Addr) (n c : Nat), e = .returned (.tuple #[.slice A n c, .int .i64 (S.readE i)]) ∧ n ≤ c ∧ RB w' w'.heap.size A n (S.readL i) ∧ Below w.heap.size w w'
  readAt : ∀ (i : Int) (w : World) (F : Nat → Prop) (p : Addr) (S : DS), D w F p S → S.readE i = 0 → Calls Tryz.prog 61 #[.pointer (some p), .int .i64 i] w fun e w' => ∃ g c, e = .returned (.tuple #[.slice (some ⟨g, 0, none⟩) 256 c, .int .i64 0]) ∧ 256 ≤ c ∧ w.heap.size ≤ g ∧ RB w' w'.heap.size (some ⟨g, 0, none⟩) 256 (S.last i.toNat) ∧ Below w.heap.size w w'
  write : ∀ (i : Int) (A : Option Addr) (n c B : Nat) (l : List Int) (w : World) (F : Nat → Prop) (p : Addr) (S : DS), D w F p S → RB w B A n l → n ≤ c → n ≤ 4096 → S.writes ≤ 9223372036854775806 → (∀ a, A = some a → ¬ F a.block) →
    Calls Tryz.prog 111 #[.pointer (some p), .int .i64 i, .slice A n c] w fun e w' => e = .returned (.int .i64 (S.writeE i l)) ∧ ∃ F' : Nat → Prop, D w' F' p (S.write i l) ∧ Touch F w w' ∧ ∀ k, F' k → F k ∨ w.heap.size ≤ k
  flush : ∀ (w : World) (F : Nat → Prop) (p : Addr) (S : DS), D w F p S → Calls Tryz.prog 112 #[.pointer (some p)] w fun e w' => e = .returned (.int .i64 S.flushE) ∧ ∃ F' : Nat → Prop, D w' F' p S.flush ∧ Touch F w w' ∧ ∀ k, F' k → F k ∨ w.heap.size ≤ k
  sizes : ∀ (w : World) (F : Nat → Prop) (p : Addr) (S : DS), D w F p S → Calls Tryz.prog 122 #[.pointer (some p)] w fun e w' => e = .returned (.int .i64 (S.n : Int)) ∧ Below w.heap.size w w'
  sizeSame : ∀ (w : World) (F : Nat → Prop) (p : Addr) (S : DS), D w F p S → Calls Tryz.prog 122 #[.pointer (some p)] w fun e w' => e = .returned (.int .i64 (S.n : Int)) ∧ w' = w

theorem DiskApi.below {D : World → (Nat → Prop) → Addr → DS → Prop} (api : DiskApi D) {w w' : World} {F : Nat → Prop} {p : Addr} {S : DS} (h : D w F p S) (hb : Below w.heap.size w w') : D w' F p S :=
  api.keep w w' F p S h fun k hk => hb.block k (api.lt w F p S h k hk)

/-- A disk in a law's memory: in blocks of the law's own. -/
def Own (D : World → (Nat → Prop) → Addr → DS → Prop) (B : Nat) (w : World) (p : Addr) (S : DS) : Prop := ∃ F : Nat → Prop, D w F p S ∧ ∀ k, F k → B ≤ k

end Go.Proofs.YtfbljmkjiaklfaaGreatDoor
