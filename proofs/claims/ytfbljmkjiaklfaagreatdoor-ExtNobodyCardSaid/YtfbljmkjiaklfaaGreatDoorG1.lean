/-
  The texts Base, Ints, DiskP, NumP joined. Conditions: those that each part says at its head.
-/
import Derived.Test.YtfbljmkjiaklfaaGreatDoorRows
import Derived.WalkKit
import Derived.WalkSpells
import Derived.WalkLawsBesides
import Derived.Below
import Derived.Laws.OwnMore
import Derived.IntWalk
import Derived.Lib.Hide
import Derived.Deep.Slices
import Derived.Deep.Fields
import Derived.ChangeSame
import Derived.ProofKit
import Derived.Laws.BitsLemmas
import Derived.RowKit

/-
  Words for memory: a slice that reads as a list of bytes, nil let in; what keeps it. Plain facts about any world; no condition beyond what each says.
-/
namespace Go.Proofs.YtfbljmkjiaklfaaGreatDoor
open Go.RowKit
set_option maxRecDepth 100000

/-- A byte. -/
def IsByte (x : Int) : Prop := 0 ≤ x ∧ x < 256
/-- All of a list are bytes. -/
def AllBytes (l : List Int) : Prop := ∀ x ∈ l, 0 ≤ x ∧ x < 256

theorem AllBytes.getD {l : List Int} (h : AllBytes l) (i : Nat) : 0 ≤ l[i]?.getD 0 ∧ l[i]?.getD 0 < 256 := by
  rcases Nat.lt_or_ge i l.length with hi | hi
  · have e : l[i]?.getD 0 = l[i] := by simp [List.getElem?_eq_getElem hi]
    rw [e]; exact h _ (List.getElem_mem hi)
  · have e : l[i]?.getD 0 = 0 := by simp [List.getElem?_eq_none hi]
    rw [e]; decide
theorem AllBytes.take {l : List Int} (h : AllBytes l) (n : Nat) : AllBytes (l.take n) := fun x hx => h x (List.mem_of_mem_take hx)
theorem AllBytes.drop {l : List Int} (h : AllBytes l) (n : Nat) : AllBytes (l.drop n) := fun x hx => h x (List.mem_of_mem_drop hx)
theorem AllBytes.append {l m : List Int} (h : AllBytes l) (g : AllBytes m) : AllBytes (l ++ m) := fun x hx => by
  rcases List.mem_append.1 hx with a | a
  · exact h x a
  · exact g x a
theorem AllBytes.nil : AllBytes [] := fun _ h => by cases h

theorem one_byte {x : Nat} (h : x < 256) : AllBytes [(x : Int)] := by
  intro y hy
  obtain rfl : y = (x : Int) := by simpa using hy
  omega

/-- The slice at A of n bytes reads as the list l in w, and lies below block B. -/
def RB (w : World) (B : Nat) (A : Option Addr) (n : Nat) (l : List Int) : Prop :=
  l.length = n ∧ AllBytes l ∧ (0 < n → ∃ b off, A = some ⟨b, off, none⟩ ∧ b < B ∧ ∀ j, j < n → w.cell? ⟨b, off + j, none⟩ = some (.int .u8 (l[j]?.getD 0)))

section
variable {w w' : World} {B B' n : Nat} {A : Option Addr} {l : List Int}
theorem RB.nil_ : RB w B A 0 [] := ⟨rfl, AllBytes.nil, fun h => absurd h (by omega)⟩
theorem RB.len (h : RB w B A n l) : l.length = n := h.1
theorem RB.bytes (h : RB w B A n l) : AllBytes l := h.2.1
theorem RB.at_ (h : RB w B A n l) (hn : 0 < n) : ∃ b off, A = some ⟨b, off, none⟩ ∧ b < B ∧ ∀ j, j < n → w.cell? ⟨b, off + j, none⟩ = some (.int .u8 (l[j]?.getD 0)) := h.2.2 hn
theorem RB.keep (h : RB w B A n l) (hk : ∀ b o, b < B → w'.cell? ⟨b, o, none⟩ = w.cell? ⟨b, o, none⟩) : RB w' B A n l :=
  ⟨h.1, h.2.1, fun hn => by
    obtain ⟨b, off, e, hb, hc⟩ := h.2.2 hn
    exact ⟨b, off, e, hb, fun j hj => (hk _ _ hb).trans (hc j hj)⟩⟩
theorem RB.more (h : RB w B A n l) (hB : B ≤ B') : RB w B' A n l :=
  ⟨h.1, h.2.1, fun hn => by
    obtain ⟨b, off, e, hb, hc⟩ := h.2.2 hn
    exact ⟨b, off, e, by omega, hc⟩⟩
theorem RB.below (h : RB w B A n l) (hb : Below B w w') : RB w' B A n l := h.keep fun b o hp => hb.cell (p := ⟨b, o, none⟩) hp
theorem RB.drew (h : RB w B A n l) : RB w.drew B A n l := h.keep fun _ _ _ => rfl
theorem RB.alloc (h : RB w B A n l) (hB : B ≤ w.heap.size) (o : Obj) : RB (w.alloc o) B A n l := h.keep fun b o' hp => World.cell?_alloc_lt w o ⟨b, o', none⟩ (by simp; omega)
theorem RB.setCell (h : RB w B A n l) {p : Addr} (hB : B ≤ p.block) (u : Value) : RB (w.setCell p u) B A n l :=
  h.keep fun b o hp => World.cell?_setCell_other w p ⟨b, o, none⟩ u (fun e => by subst e; simp at hB; omega)
theorem RB.of_own {base e c : Nat} (h : w.ownsRow base e 1 (.slice A n c) n (l.map (Value.int .u8))) (hl : AllBytes l) : RB w w.heap.size A n l := by
  have hlen : l.length = n := by simpa using h.1
  refine ⟨hlen, hl, fun hn => ?_⟩
  rcases h.2 with ⟨_, h0⟩ | ⟨g, cap, cur, hv, _, hg, _, _, _, htake⟩
  · omega
  · have hA : A = some ⟨g, 0, none⟩ := by injection hv
    subst hA
    have hlt : g < w.heap.size := by
      rcases Nat.lt_or_ge g w.heap.size with h' | h'
      · exact h'
      · rw [Array.getElem?_eq_none h'] at hg; cases hg
    refine ⟨g, 0, rfl, hlt, fun j hj => ?_⟩
    have e1 : (l.map (Value.int .u8))[j]? = some (.int .u8 (l[j]?.getD 0)) := by simp [List.getElem?_eq_getElem (show j < l.length by omega)]
    rw [Nat.zero_add, cell_of_row w g j cur e (0, 0) hg, ← e1, ← htake, List.getElem?_take, if_pos (by omega)]
    simp
theorem RB.cut {b off : Nat} (h : RB w B A n l) (hc : ∀ j, j < n → w.cell? ⟨b, off + j, none⟩ = some (.int .u8 (l[j]?.getD 0))) (k : Nat) (hk : k ≤ n) (hb : b < B) : RB w B (some ⟨b, off + k, none⟩) (n - k) (l.drop k) := by
  refine ⟨by rw [List.length_drop, h.len], h.bytes.drop k, fun _ => ⟨b, off + k, rfl, hb, fun j hj => ?_⟩⟩
  rw [Nat.add_assoc, hc (k + j) (by omega), List.getElem?_drop]
/-- What a copy or an append reads of such a slice. -/
theorem RB.src (h : RB w B A n l) : ∀ j v, (l.map (Value.int .u8))[j]? = some v → ∃ ad, A = some ad ∧ w.cell? (ad.add j) = some v := by
  intro j v hv
  have hj : j < n := by
    rcases Nat.lt_or_ge j n with h' | h'
    · exact h'
    · rw [List.getElem?_eq_none (by simp [h.len]; omega)] at hv; cases hv
  obtain ⟨b, off, rfl, _, hc⟩ := h.at_ (by omega)
  refine ⟨_, rfl, ?_⟩
  have ea : Addr.add ⟨b, off, none⟩ j = ⟨b, off + j, none⟩ := by unfold Addr.add; split <;> simp_all
  rw [ea, hc j hj, ← hv, List.getElem?_map, List.getElem?_eq_getElem (show j < l.length by rw [h.len]; exact hj)]
  simp
theorem oneCell_bytes (l : List Int) : ∀ v ∈ l.map (Value.int .u8), v.oneCell' = true := by
  intro v hv
  obtain ⟨x, _, rfl⟩ := List.mem_map.1 hv
  rfl
end

/-- One byte in a new block. -/
theorem RB.one (w : World) {u : Int} (e : TypeId) (h : 0 ≤ u ∧ u < 256) : RB (w.alloc (.cells #[.int .u8 u] e)) (w.heap.size + 1) (some ⟨w.heap.size, 0, none⟩) 1 [u] := by
  refine ⟨rfl, fun x hx => ?_, fun _ => ⟨w.heap.size, 0, rfl, Nat.lt_succ_self _, fun j hj => ?_⟩⟩
  · obtain rfl : x = u := by simpa using hx
    exact h
  · obtain rfl : j = 0 := by omega
    rw [cell_of_row (w.alloc (.cells #[.int .u8 u] e)) w.heap.size 0 #[.int .u8 u] e (0, 0) (heap_alloc_new w _)]
    rfl

/-- Some bytes in a new block. -/
theorem RB.lit (w : World) (e : TypeId) (l : List Int) (cs : Array Value) (hcs : cs = (l.map (Value.int .u8)).toArray) (h : AllBytes l) : RB (w.alloc (.cells cs e)) (w.heap.size + 1) (some ⟨w.heap.size, 0, none⟩) l.length l := by
  subst hcs
  refine ⟨rfl, h, fun _ => ⟨w.heap.size, 0, rfl, Nat.lt_succ_self _, fun j hj => ?_⟩⟩
  rw [Nat.zero_add, cell_of_row (w.alloc (.cells _ e)) w.heap.size j _ e (0, 0) (heap_alloc_new w _)]
  simp [List.getElem?_eq_getElem hj]

/-- Some bytes of a constant text, in a new block with its mark. -/
theorem RB.mark (w : World) (e : TypeId) (l : List Int) (cs : Array Value) (fr : Nat × Nat) (hcs : cs = (l.map (Value.int .u8)).toArray) (h : AllBytes l) : RB (w.alloc (.cells cs e fr)) (w.heap.size + 1) (some ⟨w.heap.size, 0, none⟩) l.length l := by
  subst hcs
  refine ⟨rfl, h, fun _ => ⟨w.heap.size, 0, rfl, Nat.lt_succ_self _, fun j hj => ?_⟩⟩
  rw [Nat.zero_add, cell_of_row (w.alloc (.cells _ e fr)) w.heap.size j _ e fr (heap_alloc_new w _)]
  simp [List.getElem?_eq_getElem hj]

/-- A slice's reading as the given statements open it: the numbers up to the capacity. -/
theorem RB.of_cells {w : World} {x : Addr} {len cap : Nat} {zs : List Int} (hl : len ≤ cap) (hz : zs.length = cap) (hcell : ∀ i, i < zs.length → w.cell? (x.add i) = some (.int .u8 (zs.getD i 0))) (hw : ∀ n ∈ zs, (Lit.int .u8 n).wf = true) : RB w w.heap.size (some x) len (zs.take len) := by
  refine ⟨by simp; omega, fun y hy => ?_, fun hn => ?_⟩
  · have := hw y (List.mem_of_mem_take hy)
    simp [Lit.wf, IntKind.min, IntKind.max, IntKind.signed, IntKind.bits] at this
    omega
  · obtain ⟨b, off, spot⟩ := x
    have hc := hcell 0 (by omega)
    have hspot : spot = none := by simpa [Addr.add] using World.cell?_spot hc
    subst hspot
    refine ⟨b, off, rfl, ?_, fun j hj => ?_⟩
    · have hc' : w.cell? ⟨b, off, none⟩ = some (.int .u8 (zs.getD 0 0)) := by simpa [Addr.add] using hc
      exact World.block_lt_of_cell? _ _ hc'
    · have := hcell j (by omega)
      have e : (zs.take len)[j]?.getD 0 = zs.getD j 0 := by simp [hj]
      have ea : Addr.add ⟨b, off, none⟩ j = ⟨b, off + j, none⟩ := by unfold Addr.add; split <;> simp_all
      rw [e, ← ea]
      exact this
end Go.Proofs.YtfbljmkjiaklfaaGreatDoor

/-
  Words for a slice of ints as it lies in memory; what keeps it. Plain facts; no condition beyond what each says.
-/
namespace Go.Proofs.YtfbljmkjiaklfaaGreatDoor
open Go.RowKit
set_option maxRecDepth 100000
set_option linter.unusedVariables false

/-- The slice at A of n ints reads as the list l in w, and lies below block B. -/
def RI (w : World) (B : Nat) (A : Option Addr) (n : Nat) (l : List Int) : Prop :=
  l.length = n ∧ (∀ x ∈ l, -9223372036854775808 ≤ x ∧ x ≤ 9223372036854775807) ∧ (0 < n → ∃ b off, A = some ⟨b, off, none⟩ ∧ b < B ∧ ∀ j, j < n → w.cell? ⟨b, off + j, none⟩ = some (.int .i64 (l[j]?.getD 0)))

theorem RI.nil_ {w : World} {B : Nat} {A : Option Addr} : RI w B A 0 [] := ⟨rfl, (fun _ h => by cases h), fun h => absurd h (by omega)⟩
theorem RI.len {w : World} {B n : Nat} {A : Option Addr} {l : List Int} (h : RI w B A n l) : l.length = n := h.1
theorem RI.keep {w w' : World} {B n : Nat} {A : Option Addr} {l : List Int} (h : RI w B A n l) (hk : ∀ b o, b < B → w'.cell? ⟨b, o, none⟩ = w.cell? ⟨b, o, none⟩) : RI w' B A n l :=
  ⟨h.1, h.2.1, fun hn => by
    obtain ⟨b, off, e, hb, hc⟩ := h.2.2 hn
    exact ⟨b, off, e, hb, fun j hj => (hk _ _ hb).trans (hc j hj)⟩⟩
theorem RI.below {w w' : World} {B n : Nat} {A : Option Addr} {l : List Int} (h : RI w B A n l) (hb : Below B w w') : RI w' B A n l := h.keep fun b o hp => hb.cell (p := ⟨b, o, none⟩) hp
theorem RI.more {w : World} {B B' n : Nat} {A : Option Addr} {l : List Int} (h : RI w B A n l) (hB : B ≤ B') : RI w B' A n l :=
  ⟨h.1, h.2.1, fun hn => by
    obtain ⟨b, off, e, hb, hc⟩ := h.2.2 hn
    exact ⟨b, off, e, by omega, hc⟩⟩
theorem int_bounds {n : Int} (h : (Lit.int .i64 n).wf = true) : -9223372036854775808 ≤ n ∧ n ≤ 9223372036854775807 := by
  simp [Lit.wf, IntKind.min, IntKind.max, IntKind.signed, IntKind.bits] at h
  omega
theorem byte_bounds {n : Int} (h : (Lit.int .u8 n).wf = true) : 0 ≤ n ∧ n < 256 := by
  simp [Lit.wf, IntKind.min, IntKind.max, IntKind.signed, IntKind.bits] at h
  omega
theorem add_none (b off j : Nat) : Addr.add ⟨b, off, none⟩ j = ⟨b, off + j, none⟩ := by unfold Addr.add; split <;> simp_all

/-- A slice of ints as the statements open it. -/
theorem RI.of_cells {w : World} {x : Addr} {len cap : Nat} {zs : List Int} (hl : len ≤ cap) (hz : zs.length = cap) (hcell : ∀ i, i < zs.length → w.cell? (x.add i) = some (.int .i64 (zs.getD i 0))) (hw : ∀ n ∈ zs, (Lit.int .i64 n).wf = true) : RI w w.heap.size (some x) len (zs.take len) := by
  refine ⟨by simp; omega, fun y hy => int_bounds (hw y (List.mem_of_mem_take hy)), fun hn => ?_⟩
  obtain ⟨b, off, spot⟩ := x
  have hc := hcell 0 (by omega)
  have hspot : spot = none := by simpa [Addr.add] using World.cell?_spot hc
  subst hspot
  refine ⟨b, off, rfl, ?_, fun j hj => ?_⟩
  · rw [add_none] at hc
    exact World.block_lt_of_cell? _ _ hc
  · have := hcell j (by omega)
    have e : (zs.take len)[j]?.getD 0 = zs.getD j 0 := by simp [hj]
    rw [e, ← add_none]
    exact this

/-- n times the same byte. -/
def reps (n : Nat) (c : Int) : List Int := List.replicate n c
theorem reps_length (n : Nat) (c : Int) : (reps n c).length = n := List.length_replicate ..
theorem reps_bytes (n : Nat) {c : Int} (h : 0 ≤ c ∧ c < 256) : AllBytes (reps n c) := fun x hx => by
  obtain rfl := (List.mem_replicate.1 hx).2
  exact h
theorem reps_getD {n : Nat} {c : Int} {j : Nat} (h : j < n) : (reps n c)[j]?.getD 0 = c := by simp [reps, h]

theorem size_u8' : (Tryz.prog.info? 5).map (·.size) = some 1 := by kernel_rfl

end Go.Proofs.YtfbljmkjiaklfaaGreatDoor

/-
  Plain: what a disk is and what each of its calls makes of it, as the document says. No program.
-/
namespace Go.Proofs.YtfbljmkjiaklfaaGreatDoor
open Go.RowKit
set_option maxRecDepth 100000
set_option linter.unusedVariables false

/-- A disk: sectors; what is safe, and what was written last; which were written since, in order; its fuse; whether it is down; how many writes were done. -/
structure DS where
  n : Nat
  safe : Nat → List Int
  last : Nat → List Int
  pend : List Nat
  arm : Option Nat
  down : Bool
  writes : Nat

/-- A sector of noughts. -/
def nought : List Int := List.replicate 256 0
def DS.new (n : Nat) : DS := ⟨n, fun _ => nought, fun _ => nought, [], none, false, 0⟩

/-- What holds of every disk. -/
structure DS.Ok (S : DS) : Prop where
  size : 3 ≤ S.n ∧ S.n ≤ 65536
  safeBytes : ∀ i, (S.safe i).length = 256 ∧ AllBytes (S.safe i)
  lastBytes : ∀ i, (S.last i).length = 256 ∧ AllBytes (S.last i)
  pendLt : ∀ i ∈ S.pend, i < S.n
  pendNodup : S.pend.Nodup
  same : ∀ i, i ∉ S.pend → S.last i = S.safe i

def DS.has (S : DS) (i : Int) : Prop := 0 ≤ i ∧ i < S.n
instance (S : DS) (i : Int) : Decidable (S.has i) := by unfold DS.has; infer_instance

def DS.readE (S : DS) (i : Int) : Int := if S.down = true then 5 else if S.has i then 0 else 1
def DS.readL (S : DS) (i : Int) : List Int := if S.readE i = 0 then S.last i.toNat else []
def DS.put (S : DS) (i : Nat) (l : List Int) : DS :=
  { S with last := fun j => if j = i then l else S.last j, pend := if i ∈ S.pend then S.pend else S.pend ++ [i], arm := S.arm.map (· - 1), writes := S.writes + 1 }
def DS.writeE (S : DS) (i : Int) (l : List Int) : Int := if S.down = true then 5 else if ¬ (S.has i ∧ l.length = 256) then 1 else if S.arm = some 0 then 5 else 0
def DS.write (S : DS) (i : Int) (l : List Int) : DS :=
  if S.down = true then S else if ¬ (S.has i ∧ l.length = 256) then S else if S.arm = some 0 then { S with down := true } else S.put i.toNat l
def DS.flushE (S : DS) : Int := if S.down = true then 5 else 0
def DS.flush (S : DS) : DS := if S.down = true then S else { S with safe := S.last, pend := [] }
def DS.fuse (S : DS) (k : Int) : DS := { S with arm := if k < 0 then none else some k.toNat }
/-- Whether what was written to a sector is kept. -/
def DS.kept (S : DS) (keep : List Int) (i : Nat) : Prop := ∃ at_ : Nat, S.pend[at_]? = some i ∧ (at_ : Int) ∈ keep
open Classical in
noncomputable def DS.crash (S : DS) (keep : List Int) : DS :=
  { S with safe := fun i => if S.kept keep i then S.last i else S.safe i, last := fun i => if S.kept keep i then S.last i else S.safe i, pend := [], arm := none, down := false }
def DS.pending (S : DS) : List Int := S.pend.map Int.ofNat

theorem nought_ok : nought.length = 256 ∧ AllBytes nought := ⟨List.length_replicate .., fun x hx => by
  obtain rfl := (List.mem_replicate.1 hx).2
  decide⟩
theorem DS.new_ok {n : Nat} (h : 3 ≤ n ∧ n ≤ 65536) : (DS.new n).Ok := ⟨h, fun _ => nought_ok, fun _ => nought_ok, (fun _ h => by cases h), List.nodup_nil, fun _ _ => rfl⟩
theorem DS.put_ok {S : DS} (h : S.Ok) {i : Nat} {l : List Int} (hi : i < S.n) (hl : l.length = 256 ∧ AllBytes l) : (S.put i l).Ok := by
  refine ⟨h.size, h.safeBytes, fun j => ?_, fun j hj => ?_, ?_, fun j hj => ?_⟩
  · show (if j = i then l else S.last j).length = 256 ∧ AllBytes (if j = i then l else S.last j)
    split
    · exact hl
    · exact h.lastBytes j
  · have hj' : j ∈ (if i ∈ S.pend then S.pend else S.pend ++ [i]) := hj
    split at hj'
    · exact h.pendLt j hj'
    · rcases List.mem_append.1 hj' with a | a
      · exact h.pendLt j a
      · obtain rfl := List.mem_singleton.1 a
        exact hi
  · show (if i ∈ S.pend then S.pend else S.pend ++ [i]).Nodup
    split
    · exact h.pendNodup
    · rename_i hn
      refine List.nodup_append.2 ⟨h.pendNodup, by simp, fun a ha b hb => ?_⟩
      obtain rfl := List.mem_singleton.1 hb
      intro e
      subst e
      exact hn ha
  · have hj' : j ∉ (if i ∈ S.pend then S.pend else S.pend ++ [i]) := hj
    have hne : j ≠ i := by
      rintro rfl
      split at hj'
      · rename_i hm; exact hj' hm
      · exact hj' (by simp)
    have hjp : j ∉ S.pend := by
      split at hj'
      · exact hj'
      · intro hm; exact hj' (by simp [hm])
    show (if j = i then l else S.last j) = S.safe j
    rw [if_neg hne]
    exact h.same j hjp
theorem DS.write_ok {S : DS} (h : S.Ok) {i : Int} {l : List Int} (hl : AllBytes l) : (S.write i l).Ok := by
  unfold DS.write
  split
  · exact h
  split
  · exact h
  rename_i hn
  have hn' : S.has i ∧ l.length = 256 := by
    by_cases e : S.has i ∧ l.length = 256
    · exact e
    · exact absurd e hn
  split
  · exact ⟨h.size, h.safeBytes, h.lastBytes, h.pendLt, h.pendNodup, h.same⟩
  · exact DS.put_ok h (by have := hn'.1; unfold DS.has at this; omega) ⟨hn'.2, hl⟩
theorem DS.flush_ok {S : DS} (h : S.Ok) : S.flush.Ok := by
  unfold DS.flush
  split
  · exact h
  · exact ⟨h.size, h.lastBytes, h.lastBytes, (fun _ hm => by cases hm), List.nodup_nil, fun _ _ => rfl⟩
theorem DS.fuse_ok {S : DS} (h : S.Ok) (k : Int) : (S.fuse k).Ok := ⟨h.size, h.safeBytes, h.lastBytes, h.pendLt, h.pendNodup, h.same⟩
open Classical in
theorem DS.crash_ok {S : DS} (h : S.Ok) (keep : List Int) : (S.crash keep).Ok := by
  have each : ∀ i, ((S.crash keep).safe i).length = 256 ∧ AllBytes ((S.crash keep).safe i) := by
    intro i
    unfold DS.crash
    show (if S.kept keep i then S.last i else S.safe i).length = 256 ∧ AllBytes (if S.kept keep i then S.last i else S.safe i)
    split
    · exact h.lastBytes i
    · exact h.safeBytes i
  exact ⟨h.size, each, each, (fun _ hm => by cases hm), List.nodup_nil, fun _ _ => rfl⟩

/-! What changes when an object is worked on: its own blocks, and new ones. -/
/-- w' is w with new blocks, and with writes to blocks of F alone. -/
structure Touch (F : Nat → Prop) (w w' : World) : Prop where
  os : w'.os = w.os
  tape : w'.tape = w.tape
  output : w'.output = w.output
  size : w.heap.size ≤ w'.heap.size
  block : ∀ k, k < w.heap.size → ¬ F k → w'.heap[k]? = w.heap[k]?

theorem Touch.refl (F : Nat → Prop) (w : World) : Touch F w w := ⟨rfl, rfl, rfl, Nat.le_refl _, fun _ _ _ => rfl⟩
theorem Touch.below {F : Nat → Prop} {B : Nat} {w w' : World} (h : Touch F w w') (hF : ∀ k, F k → B ≤ k) (hB : B ≤ w.heap.size) : Below B w w' :=
  ⟨h.os, h.tape, h.output, h.size, fun k hk => h.block k (by omega) (fun hf => by have := hF k hf; omega)⟩
theorem Touch.of_below {F : Nat → Prop} {w w' : World} (h : Below w.heap.size w w') : Touch F w w' := ⟨h.os, h.tape, h.output, h.size, fun k hk _ => h.block k hk⟩

theorem nodup_lt : ∀ (N : Nat) (l : List Nat), l.Nodup → (∀ x ∈ l, x < N) → l.length ≤ N := by
  intro N
  induction N with
  | zero =>
    intro l _ h
    cases l with
    | nil => exact Nat.le_refl _
    | cons a l => exact absurd (h a (by simp)) (by omega)
  | succ N ih =>
    intro l hn h
    by_cases hm : N ∈ l
    · have h1 := ih (l.erase N) (hn.erase N) (fun x hx => by
        have := h x (List.mem_of_mem_erase hx)
        have hne : x ≠ N := fun e => by subst e; exact (List.Nodup.not_mem_erase hn) hx
        omega)
      have h2 := List.length_erase_of_mem hm
      omega
    · have := ih l hn (fun x hx => by
        have := h x hx
        have hne : x ≠ N := fun e => by subst e; exact hm hx
        omega)
      omega

/-- What a call that changes a disk leaves of a slice of ints that lies apart. -/
theorem RI.touch {w w' : World} {B n : Nat} {A : Option Addr} {l : List Int} {F : Nat → Prop} (h : RI w B A n l) (ht : Touch F w w') (hB : B ≤ w.heap.size) (hA : 0 < n → ∀ a, A = some a → ¬ F a.block) : RI w' B A n l :=
  ⟨h.1, h.2.1, fun hn => by
    obtain ⟨b, off, e, hb, hc⟩ := h.2.2 hn
    refine ⟨b, off, e, hb, fun j hj => ?_⟩
    rw [World.cell?_of_block (w := w) (ht.block b (by omega) (hA hn _ e))]
    exact hc j hj⟩

end Go.Proofs.YtfbljmkjiaklfaaGreatDoor

/-
  Plain arithmetic of numbers as bytes, the highest first: what some bytes are as a number, what bytes a number has, and that the one undoes the other. No program, no condition.
-/
namespace Go.Proofs.YtfbljmkjiaklfaaGreatDoor
open Go.RowKit
set_option maxRecDepth 100000

/-- One byte more behind a number. -/
def stepN (n c : Int) : Int := bits .or .i64 (wrap64 (n * 256)) c
/-- The number of some bytes. -/
def numOf (l : List Int) : Int := l.foldl stepN 0
/-- The same, not wrapped. -/
def beOf (l : List Int) : Int := l.foldl (fun n c => n * 256 + c) 0
/-- The last k bytes of a number, the highest first. -/
def putB (n : Int) : Nat → List Int | 0 => [] | k + 1 => putB (n / 256) k ++ [n % 256]

theorem numOf_snoc (l : List Int) (x : Int) : numOf (l ++ [x]) = stepN (numOf l) x := by simp [numOf]
theorem beOf_snoc (l : List Int) (x : Int) : beOf (l ++ [x]) = beOf l * 256 + x := by simp [beOf]
theorem numOf_step (l : List Int) (a k : Nat) (h : a + k < l.length) : numOf ((l.drop a).take (k + 1)) = stepN (numOf ((l.drop a).take k)) (l[a + k]?.getD 0) := by
  have e : (l.drop a).take (k + 1) = (l.drop a).take k ++ [l[a + k]?.getD 0] := by
    rw [List.take_succ_eq_append_getElem (by simp; omega)]
    simp [List.getElem?_eq_getElem h]
  rw [e, numOf_snoc]

theorem bits_or_nat64 (x y : Int) : bits .or .i64 x y = wrap64 (((x % 18446744073709551616).toNat ||| (y % 18446744073709551616).toNat : Nat) : Int) := by
  have e : ∀ z : Int, IntKind.i64.wrap z = wrap64 z := fun z => by rw [IntKind.wrap_i64]; first | rfl | (unfold wrap64; rfl) | unfold wrap64
  simp only [bits]
  rw [e, BitVec.toNat_or, BitVec.toNat_ofInt, BitVec.toNat_ofInt]
  rfl

theorem stepN_eq (n c : Int) (h0 : 0 ≤ c) (h1 : c < 256) : stepN n c = wrap64 (n * 256 + c) := by
  unfold stepN
  rw [bits_or_nat64]
  obtain ⟨q, hq⟩ : ∃ q : Nat, (wrap64 (n * 256) % 18446744073709551616).toNat = 256 * q := by
    refine ⟨(wrap64 (n * 256) % 18446744073709551616).toNat / 256, ?_⟩
    unfold wrap64
    omega
  obtain ⟨d, rfl⟩ := Int.eq_ofNat_of_zero_le h0
  have hd : ((d : Int) % 18446744073709551616).toNat = d := by omega
  rw [hq, hd]
  have hor : 256 * q ||| d = 256 * q + d := (Nat.two_pow_add_eq_or_of_lt (i := 8) (by omega) q).symm
  rw [hor]
  unfold wrap64 at hq ⊢
  omega

theorem numOf_eq (l : List Int) (h : ∀ x ∈ l, 0 ≤ x ∧ x < 256) : numOf l = wrap64 (beOf l) := by
  suffices H : ∀ k, k ≤ l.length → numOf (l.take k) = wrap64 (beOf (l.take k)) by
    have := H l.length (Nat.le_refl _); rwa [List.take_length] at this
  intro k
  induction k with
  | zero => intro _; simp [numOf, beOf, wrap64]
  | succ k ih =>
    intro hk
    rw [List.take_succ_eq_append_getElem (by omega), numOf_snoc, beOf_snoc, ih (by omega)]
    obtain ⟨a, b⟩ := h _ (List.getElem_mem (by omega : k < l.length))
    rw [stepN_eq _ _ a b]
    generalize beOf (List.take k l) = z
    unfold wrap64
    omega

theorem putB_length (n : Int) (k : Nat) : (putB n k).length = k := by
  induction k generalizing n with
  | zero => rfl
  | succ k ih => simp [putB, ih]
theorem putB_bytes (n : Int) (k : Nat) : ∀ x ∈ putB n k, 0 ≤ x ∧ x < 256 := by
  induction k generalizing n with
  | zero => intro x hx; cases hx
  | succ k ih =>
    intro x hx
    simp only [putB, List.mem_append, List.mem_singleton] at hx
    rcases hx with h | h
    · exact ih _ x h
    · subst h; omega
theorem beOf_putB (n : Int) (k : Nat) : beOf (putB n k) = n % 256 ^ k := by
  induction k generalizing n with
  | zero => simp [putB, beOf]
  | succ k ih =>
    rw [putB, beOf_snoc, ih, Int.pow_succ]
    have h1 := Int.emod_add_mul_ediv n 256
    have h2 := Int.emod_add_mul_ediv (n / 256) (256 ^ k)
    have hp : (0 : Int) < 256 ^ k := Int.pow_pos (by decide)
    have h3 : 0 ≤ n / 256 % 256 ^ k := Int.emod_nonneg _ (by omega)
    have h4 : n / 256 % 256 ^ k < 256 ^ k := Int.emod_lt_of_pos _ hp
    have h5 : n = (n / 256 % 256 ^ k * 256 + n % 256) + (256 ^ k * 256) * (n / 256 / 256 ^ k) := by
      have : 256 ^ k * 256 * (n / 256 / 256 ^ k) = 256 * (256 ^ k * (n / 256 / 256 ^ k)) := by
        rw [Int.mul_comm (256 ^ k) 256, Int.mul_assoc]
      rw [this]; omega
    have h6 : (n / 256 % 256 ^ k * 256 + n % 256) % (256 ^ k * 256) = n / 256 % 256 ^ k * 256 + n % 256 :=
      Int.emod_eq_of_lt (by omega) (by omega)
    rw [← h6]
    conv => rhs; rw [h5]
    rw [Int.add_mul_emod_self_left]

/-- n shifted j bytes down. -/
def shN (n : Int) : Nat → Int | 0 => n | j + 1 => shN n j / 256
theorem shN_front (n : Int) (j : Nat) : shN n (j + 1) = shN (n / 256) j := by
  induction j with
  | zero => rfl
  | succ j ih => rw [shN, ih]; rfl
theorem putB_front (n : Int) (j : Nat) : putB n (j + 1) = (shN n j % 256) :: putB n j := by
  induction j generalizing n with
  | zero => simp [putB, shN]
  | succ j ih =>
    rw [putB, ih, shN_front]
    conv => rhs; rw [putB]
    simp
theorem shN_bounds (n : Int) (h0 : -9223372036854775808 ≤ n) (h1 : n ≤ 9223372036854775807) (j : Nat) : -9223372036854775808 ≤ shN n j ∧ shN n j ≤ 9223372036854775807 := by
  induction j with
  | zero => exact ⟨h0, h1⟩
  | succ j ih => rw [shN]; omega

end Go.Proofs.YtfbljmkjiaklfaaGreatDoor
