/-
  Plain: what a disk is and what each of its calls makes of it, as the document says. No program.
-/
import Derived.Test.YtombdkebjbhacaaInts
namespace Go.Proofs.Ytombdkebjbhacaa
open Go.RowKit
set_option maxRecDepth 100000
set_option linter.unusedVariables false

/-- A disk: sectors; what is safe, and what was written last; which were written since, in order; its fuse; whether it is down; how many writes were done. -/
structure DS where
  n : Nat
  safe : Nat → List Int
  last : Nat → List Int
  pend : List Nat
  arm : Option Nat
  down : Bool
  writes : Nat

/-- A sector of noughts. -/
def nought : List Int := List.replicate 256 0
def DS.new (n : Nat) : DS := ⟨n, fun _ => nought, fun _ => nought, [], none, false, 0⟩

/-- What holds of every disk. -/
structure DS.Ok (S : DS) : Prop where
  size : 3 ≤ S.n ∧ S.n ≤ 65536
  safeBytes : ∀ i, (S.safe i).length = 256 ∧ AllBytes (S.safe i)
  lastBytes : ∀ i, (S.last i).length = 256 ∧ AllBytes (S.last i)
  pendLt : ∀ i ∈ S.pend, i < S.n
  pendNodup : S.pend.Nodup
  same : ∀ i, i ∉ S.pend → S.last i = S.safe i

def DS.has (S : DS) (i : Int) : Prop := 0 ≤ i ∧ i < S.n
instance (S : DS) (i : Int) : Decidable (S.has i) := by unfold DS.has; infer_instance

def DS.readE (S : DS) (i : Int) : Int := if S.down = true then 5 else if S.has i then 0 else 1
def DS.readL (S : DS) (i : Int) : List Int := if S.readE i = 0 then S.last i.toNat else []
def DS.put (S : DS) (i : Nat) (l : List Int) : DS :=
  { S with last := fun j => if j = i then l else S.last j, pend := if i ∈ S.pend then S.pend else S.pend ++ [i], arm := S.arm.map (· - 1), writes := S.writes + 1 }
def DS.writeE (S : DS) (i : Int) (l : List Int) : Int := if S.down = true then 5 else if ¬ (S.has i ∧ l.length = 256) then 1 else if S.arm = some 0 then 5 else 0
def DS.write (S : DS) (i : Int) (l : List Int) : DS :=
  if S.down = true then S else if ¬ (S.has i ∧ l.length = 256) then S else if S.arm = some 0 then { S with down := true } else S.put i.toNat l
def DS.flushE (S : DS) : Int := if S.down = true then 5 else 0
def DS.flush (S : DS) : DS := if S.down = true then S else { S with safe := S.last, pend := [] }
def DS.fuse (S : DS) (k : Int) : DS := { S with arm := if k < 0 then none else some k.toNat }
/-- Whether what was written to a sector is kept. -/
def DS.kept (S : DS) (keep : List Int) (i : Nat) : Prop := ∃ at_ : Nat, S.pend[at_]? = some i ∧ (at_ : Int) ∈ keep
open Classical in
noncomputable def DS.crash (S : DS) (keep : List Int) : DS :=
  { S with safe := fun i => if S.kept keep i then S.last i else S.safe i, last := fun i => if S.kept keep i then S.last i else S.safe i, pend := [], arm := none, down := false }
def DS.pending (S : DS) : List Int := S.pend.map Int.ofNat

theorem nought_ok : nought.length = 256 ∧ AllBytes nought := ⟨List.length_replicate .., fun x hx => by
  obtain rfl := (List.mem_replicate.1 hx).2
  decide⟩
theorem DS.new_ok {n : Nat} (h : 3 ≤ n ∧ n ≤ 65536) : (DS.new n).Ok := ⟨h, fun _ => nought_ok, fun _ => nought_ok, (fun _ h => by cases h), List.nodup_nil, fun _ _ => rfl⟩
theorem DS.put_ok {S : DS} (h : S.Ok) {i : Nat} {l : List Int} (hi : i < S.n) (hl : l.length = 256 ∧ AllBytes l) : (S.put i l).Ok := by
  refine ⟨h.size, h.safeBytes, fun j => ?_, fun j hj => ?_, ?_, fun j hj => ?_⟩
  · show (if j = i then l else S.last j).length = 256 ∧ AllBytes (if j = i then l else S.last j)
    split
    · exact hl
    · exact h.lastBytes j
  · have hj' : j ∈ (if i ∈ S.pend then S.pend else S.pend ++ [i]) := hj
    split at hj'
    · exact h.pendLt j hj'
    · rcases List.mem_append.1 hj' with a | a
      · exact h.pendLt j a
      · obtain rfl := List.mem_singleton.1 a
        exact hi
  · show (if i ∈ S.pend then S.pend else S.pend ++ [i]).Nodup
    split
    · exact h.pendNodup
    · rename_i hn
      refine List.nodup_append.2 ⟨h.pendNodup, by simp, fun a ha b hb => ?_⟩
      obtain rfl := List.mem_singleton.1 hb
      intro e
      subst e
      exact hn ha
  · have hj' : j ∉ (if i ∈ S.pend then S.pend else S.pend ++ [i]) := hj
    have hne : j ≠ i := by
      rintro rfl
      split at hj'
      · rename_i hm; exact hj' hm
      · exact hj' (by simp)
    have hjp : j ∉ S.pend := by
      split at hj'
      · exact hj'
      · intro hm; exact hj' (by simp [hm])
    show (if j = i then l else S.last j) = S.safe j
    rw [if_neg hne]
    exact h.same j hjp
theorem DS.write_ok {S : DS} (h : S.Ok) {i : Int} {l : List Int} (hl : AllBytes l) : (S.write i l).Ok := by
  unfold DS.write
  split
  · exact h
  split
  · exact h
  rename_i hn
  have hn' : S.has i ∧ l.length = 256 := by
    by_cases e : S.has i ∧ l.length = 256
    · exact e
    · exact absurd e hn
  split
  · exact ⟨h.size, h.safeBytes, h.lastBytes, h.pendLt, h.pendNodup, h.same⟩
  · exact DS.put_ok h (by have := hn'.1; unfold DS.has at this; omega) ⟨hn'.2, hl⟩
theorem DS.flush_ok {S : DS} (h : S.Ok) : S.flush.Ok := by
  unfold DS.flush
  split
  · exact h
  · exact ⟨h.size, h.lastBytes, h.lastBytes, (fun _ hm => by cases hm), List.nodup_nil, fun _ _ => rfl⟩
theorem DS.fuse_ok {S : DS} (h : S.Ok) (k : Int) : (S.fuse k).Ok := ⟨h.size, h.safeBytes, h.lastBytes, h.pendLt, h.pendNodup, h.same⟩
open Classical in
theorem DS.crash_ok {S : DS} (h : S.Ok) (keep : List Int) : (S.crash keep).Ok := by
  have each : ∀ i, ((S.crash keep).safe i).length = 256 ∧ AllBytes ((S.crash keep).safe i) := by
    intro i
    unfold DS.crash
    show (if S.kept keep i then S.last i else S.safe i).length = 256 ∧ AllBytes (if S.kept keep i then S.last i else S.safe i)
    split
    · exact h.lastBytes i
    · exact h.safeBytes i
  exact ⟨h.size, each, each, (fun _ hm => by cases hm), List.nodup_nil, fun _ _ => rfl⟩

/-! What changes when an object is worked on: its own blocks, and new ones. -/
/-- w' is w with new blocks, and with writes to blocks of F alone. -/
structure Touch (F : Nat → Prop) (w w' : World) : Prop where
  os : w'.os = w.os
  tape : w'.tape = w.tape
  output : w'.output = w.output
  size : w.heap.size ≤ w'.heap.size
  block : ∀ k, k < w.heap.size → ¬ F k → w'.heap[k]? = w.heap[k]?

theorem Touch.refl (F : Nat → Prop) (w : World) : Touch F w w := ⟨rfl, rfl, rfl, Nat.le_refl _, fun _ _ _ => rfl⟩
theorem Touch.below {F : Nat → Prop} {B : Nat} {w w' : World} (h : Touch F w w') (hF : ∀ k, F k → B ≤ k) (hB : B ≤ w.heap.size) : Below B w w' :=
  ⟨h.os, h.tape, h.output, h.size, fun k hk => h.block k (by omega) (fun hf => by have := hF k hf; omega)⟩
theorem Touch.of_below {F : Nat → Prop} {w w' : World} (h : Below w.heap.size w w') : Touch F w w' := ⟨h.os, h.tape, h.output, h.size, fun k hk _ => h.block k hk⟩

theorem nodup_lt : ∀ (N : Nat) (l : List Nat), l.Nodup → (∀ x ∈ l, x < N) → l.length ≤ N := by
  intro N
  induction N with
  | zero =>
    intro l _ h
    cases l with
    | nil => exact Nat.le_refl _
    | cons a l => exact absurd (h a (by simp)) (by omega)
  | succ N ih =>
    intro l hn h
    by_cases hm : N ∈ l
    · have h1 := ih (l.erase N) (hn.erase N) (fun x hx => by
        have := h x (List.mem_of_mem_erase hx)
        have hne : x ≠ N := fun e => by subst e; exact (List.Nodup.not_mem_erase hn) hx
        omega)
      have h2 := List.length_erase_of_mem hm
      omega
    · have := ih l hn (fun x hx => by
        have := h x hx
        have hne : x ≠ N := fun e => by subst e; exact hm hx
        omega)
      omega

/-- What a call that changes a disk leaves of a slice of ints that lies apart. -/
theorem RI.touch {w w' : World} {B n : Nat} {A : Option Addr} {l : List Int} {F : Nat → Prop} (h : RI w B A n l) (ht : Touch F w w') (hB : B ≤ w.heap.size) (hA : 0 < n → ∀ a, A = some a → ¬ F a.block) : RI w' B A n l :=
  ⟨h.1, h.2.1, fun hn => by
    obtain ⟨b, off, e, hb, hc⟩ := h.2.2 hn
    refine ⟨b, off, e, hb, fun j hj => ?_⟩
    rw [World.cell?_of_block (w := w) (ht.block b (by omega) (hA hn _ e))]
    exact hc j hj⟩

end Go.Proofs.Ytombdkebjbhacaa
