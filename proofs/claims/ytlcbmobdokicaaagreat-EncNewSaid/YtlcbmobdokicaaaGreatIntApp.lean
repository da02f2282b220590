/-
  The texts Ints, DiskP, IntApp joined. Conditions: those that each part says at its head.
-/
import Derived.Test.YtlcbmobdokicaaaGreatBase
import Derived.Deep.Slices
import Derived.Deep.Fields
import Derived.ChangeSame
import Derived.ProofKit
import Derived.Laws.AppendOwnNone
import Derived.Deep.AppendLies

/-
  Words for a slice of ints as it lies in memory; what keeps it. Plain facts; no condition beyond what each says.
-/
namespace Go.Proofs.YtlcbmobdokicaaaGreat
open Go.RowKit
set_option maxRecDepth 100000
set_option linter.unusedVariables false

/-- The slice at A of n ints reads as the list l in w, and lies below block B. -/
def RI (w : World) (B : Nat) (A : Option Addr) (n : Nat) (l : List Int) : Prop :=
  l.length = n ∧ (∀ x ∈ l, -9223372036854775808 ≤ x ∧ x ≤ 9223372036854775807) ∧ (0 < n → ∃ b off, A = some ⟨b, off, none⟩ ∧ b < B ∧ ∀ j, j < n → w.cell? ⟨b, off + j, none⟩ = some (.int .i64 (l[j]?.getD 0)))

theorem RI.nil_ {w : World} {B : Nat} {A : Option Addr} : RI w B A 0 [] := ⟨rfl, (fun _ h => by cases h), fun h => absurd h (by omega)⟩
theorem RI.len {w : World} {B n : Nat} {A : Option Addr} {l : List Int} (h : RI w B A n l) : l.length = n := h.1
theorem RI.keep {w w' : World} {B n : Nat} {A : Option Addr} {l : List Int} (h : RI w B A n l) (hk : ∀ b o, b < B → w'.cell? ⟨b, o, none⟩ = w.cell? ⟨b, o, none⟩) : RI w' B A n l :=
  ⟨h.1, h.2.1, fun hn => by
    obtain ⟨b, off, e, hb, hc⟩ := h.2.2 hn
    exact ⟨b, off, e, hb, fun j hj => (hk _ _ hb).trans (hc j hj)⟩⟩
theorem RI.below {w w' : World} {B n : Nat} {A : Option Addr} {l : List Int} (h : RI w B A n l) (hb : Below B w w') : RI w' B A n l := h.keep fun b o hp => hb.cell (p := ⟨b, o, none⟩) hp
theorem RI.more {w : World} {B B' n : Nat} {A : Option Addr} {l : List Int} (h : RI w B A n l) (hB : B ≤ B') : RI w B' A n l :=
  ⟨h.1, h.2.1, fun hn => by
    obtain ⟨b, off, e, hb, hc⟩ := h.2.2 hn
    exact ⟨b, off, e, by omega, hc⟩⟩
theorem int_bounds {n : Int} (h : (Lit.int .i64 n).wf = true) : -9223372036854775808 ≤ n ∧ n ≤ 9223372036854775807 := by
  simp [Lit.wf, IntKind.min, IntKind.max, IntKind.signed, IntKind.bits] at h
  omega
theorem byte_bounds {n : Int} (h : (Lit.int .u8 n).wf = true) : 0 ≤ n ∧ n < 256 := by
  simp [Lit.wf, IntKind.min, IntKind.max, IntKind.signed, IntKind.bits] at h
  omega
theorem add_none (b off j : Nat) : Addr.add ⟨b, off, none⟩ j = ⟨b, off + j, none⟩ := by unfold Addr.add; split <;> simp_all

/-- A slice of ints as the statements open it. -/
theorem RI.of_cells {w : World} {x : Addr} {len cap : Nat} {zs : List Int} (hl : len ≤ cap) (hz : zs.length = cap) (hcell : ∀ i, i < zs.length → w.cell? (x.add i) = some (.int .i64 (zs.getD i 0))) (hw : ∀ n ∈ zs, (Lit.int .i64 n).wf = true) : RI w w.heap.size (some x) len (zs.take len) := by
  refine ⟨by simp; omega, fun y hy => int_bounds (hw y (List.mem_of_mem_take hy)), fun hn => ?_⟩
  obtain ⟨b, off, spot⟩ := x
  have hc := hcell 0 (by omega)
  have hspot : spot = none := by simpa [Addr.add] using World.cell?_spot hc
  subst hspot
  refine ⟨b, off, rfl, ?_, fun j hj => ?_⟩
  · rw [add_none] at hc
    exact World.block_lt_of_cell? _ _ hc
  · have := hcell j (by omega)
    have e : (zs.take len)[j]?.getD 0 = zs.getD j 0 := by simp [hj]
    rw [e, ← add_none]
    exact this

/-- n times the same byte. -/
def reps (n : Nat) (c : Int) : List Int := List.replicate n c
theorem reps_length (n : Nat) (c : Int) : (reps n c).length = n := List.length_replicate ..
theorem reps_bytes (n : Nat) {c : Int} (h : 0 ≤ c ∧ c < 256) : AllBytes (reps n c) := fun x hx => by
  obtain rfl := (List.mem_replicate.1 hx).2
  exact h
theorem reps_getD {n : Nat} {c : Int} {j : Nat} (h : j < n) : (reps n c)[j]?.getD 0 = c := by simp [reps, h]

theorem size_u8' : (Tryz.prog.info? 5).map (·.size) = some 1 := by kernel_rfl

end Go.Proofs.YtlcbmobdokicaaaGreat

/-
  Plain: what a disk is and what each of its calls makes of it, as the document says. No program.
-/
namespace Go.Proofs.YtlcbmobdokicaaaGreat
open Go.RowKit
set_option maxRecDepth 100000
set_option linter.unusedVariables false

/-- A disk: sectors; what is safe, and what was written last; which were written since, in order; its fuse; whether it is down; how many writes were done. -/
structure DS where
  n : Nat
  safe : Nat → List Int
  last : Nat → List Int
  pend : List Nat
  arm : Option Nat
  down : Bool
  writes : Nat

/-- A sector of noughts. -/
def nought : List Int := List.replicate 256 0
def DS.new (n : Nat) : DS := ⟨n, fun _ => nought, fun _ => nought, [], none, false, 0⟩

/-- What holds of every disk. -/
structure DS.Ok (S : DS) : Prop where
  size : 3 ≤ S.n ∧ S.n ≤ 65536
  safeBytes : ∀ i, (S.safe i).length = 256 ∧ AllBytes (S.safe i)
  lastBytes : ∀ i, (S.last i).length = 256 ∧ AllBytes (S.last i)
  pendLt : ∀ i ∈ S.pend, i < S.n
  pendNodup : S.pend.Nodup
  same : ∀ i, i ∉ S.pend → S.last i = S.safe i

def DS.has (S : DS) (i : Int) : Prop := 0 ≤ i ∧ i < S.n
instance (S : DS) (i : Int) : Decidable (S.has i) := by unfold DS.has; infer_instance

def DS.readE (S : DS) (i : Int) : Int := if S.down = true then 5 else if S.has i then 0 else 1
def DS.readL (S : DS) (i : Int) : List Int := if S.readE i = 0 then S.last i.toNat else []
def DS.put (S : DS) (i : Nat) (l : List Int) : DS :=
  { S with last := fun j => if j = i then l else S.last j, pend := if i ∈ S.pend then S.pend else S.pend ++ [i], arm := S.arm.map (· - 1), writes := S.writes + 1 }
def DS.writeE (S : DS) (i : Int) (l : List Int) : Int := if S.down = true then 5 else if ¬ (S.has i ∧ l.length = 256) then 1 else if S.arm = some 0 then 5 else 0
def DS.write (S : DS) (i : Int) (l : List Int) : DS :=
  if S.down = true then S else if ¬ (S.has i ∧ l.length = 256) then S else if S.arm = some 0 then { S with down := true } else S.put i.toNat l
def DS.flushE (S : DS) : Int := if S.down = true then 5 else 0
def DS.flush (S : DS) : DS := if S.down = true then S else { S with safe := S.last, pend := [] }
def DS.fuse (S : DS) (k : Int) : DS := { S with arm := if k < 0 then none else some k.toNat }
/-- Whether what was written to a sector is kept. -/
def DS.kept (S : DS) (keep : List Int) (i : Nat) : Prop := ∃ at_ : Nat, S.pend[at_]? = some i ∧ (at_ : Int) ∈ keep
open Classical in
noncomputable def DS.crash (S : DS) (keep : List Int) : DS :=
  { S with safe := fun i => if S.kept keep i then S.last i else S.safe i, last := fun i => if S.kept keep i then S.last i else S.safe i, pend := [], arm := none, down := false }
def DS.pending (S : DS) : List Int := S.pend.map Int.ofNat

theorem nought_ok : nought.length = 256 ∧ AllBytes nought := ⟨List.length_replicate .., fun x hx => by
  obtain rfl := (List.mem_replicate.1 hx).2
  decide⟩
theorem DS.new_ok {n : Nat} (h : 3 ≤ n ∧ n ≤ 65536) : (DS.new n).Ok := ⟨h, fun _ => nought_ok, fun _ => nought_ok, (fun _ h => by cases h), List.nodup_nil, fun _ _ => rfl⟩
theorem DS.put_ok {S : DS} (h : S.Ok) {i : Nat} {l : List Int} (hi : i < S.n) (hl : l.length = 256 ∧ AllBytes l) : (S.put i l).Ok := by
  refine ⟨h.size, h.safeBytes, fun j => ?_, fun j hj => ?_, ?_, fun j hj => ?_⟩
  · show (if j = i then l else S.last j).length = 256 ∧ AllBytes (if j = i then l else S.last j)
    split
    · exact hl
    · exact h.lastBytes j
  · have hj' : j ∈ (if i ∈ S.pend then S.pend else S.pend ++ [i]) := hj
    split at hj'
    · exact h.pendLt j hj'
    · rcases List.mem_append.1 hj' with a | a
      · exact h.pendLt j a
      · obtain rfl := List.mem_singleton.1 a
        exact hi
  · show (if i ∈ S.pend then S.pend else S.pend ++ [i]).Nodup
    split
    · exact h.pendNodup
    · rename_i hn
      refine List.nodup_append.2 ⟨h.pendNodup, by simp, fun a ha b hb => ?_⟩
      obtain rfl := List.mem_singleton.1 hb
      intro e
      subst e
      exact hn ha
  · have hj' : j ∉ (if i ∈ S.pend then S.pend else S.pend ++ [i]) := hj
    have hne : j ≠ i := by
      rintro rfl
      split at hj'
      · rename_i hm; exact hj' hm
      · exact hj' (by simp)
    have hjp : j ∉ S.pend := by
      split at hj'
      · exact hj'
      · intro hm; exact hj' (by simp [hm])
    show (if j = i then l else S.last j) = S.safe j
    rw [if_neg hne]
    exact h.same j hjp
theorem DS.write_ok {S : DS} (h : S.Ok) {i : Int} {l : List Int} (hl : AllBytes l) : (S.write i l).Ok := by
  unfold DS.write
  split
  · exact h
  split
  · exact h
  rename_i hn
  have hn' : S.has i ∧ l.length = 256 := by
    by_cases e : S.has i ∧ l.length = 256
    · exact e
    · exact absurd e hn
  split
  · exact ⟨h.size, h.safeBytes, h.lastBytes, h.pendLt, h.pendNodup, h.same⟩
  · exact DS.put_ok h (by have := hn'.1; unfold DS.has at this; omega) ⟨hn'.2, hl⟩
theorem DS.flush_ok {S : DS} (h : S.Ok) : S.flush.Ok := by
  unfold DS.flush
  split
  · exact h
  · exact ⟨h.size, h.lastBytes, h.lastBytes, (fun _ hm => by cases hm), List.nodup_nil, fun _ _ => rfl⟩
theorem DS.fuse_ok {S : DS} (h : S.Ok) (k : Int) : (S.fuse k).Ok := ⟨h.size, h.safeBytes, h.lastBytes, h.pendLt, h.pendNodup, h.same⟩
open Classical in
theorem DS.crash_ok {S : DS} (h : S.Ok) (keep : List Int) : (S.crash keep).Ok := by
  have each : ∀ i, ((S.crash keep).safe i).length = 256 ∧ AllBytes ((S.crash keep).safe i) := by
    intro i
    unfold DS.crash
    show (if S.kept keep i then S.last i else S.safe i).length = 256 ∧ AllBytes (if S.kept keep i then S.last i else S.safe i)
    split
    · exact h.lastBytes i
    · exact h.safeBytes i
  exact ⟨h.size, each, each, (fun _ hm => by cases hm), List.nodup_nil, fun _ _ => rfl⟩

/-! What changes when an object is worked on: its own blocks, and new ones. -/
/-- w' is w with new blocks, and with writes to blocks of F alone. -/
structure Touch (F : Nat → Prop) (w w' : World) : Prop where
  os : w'.os = w.os
  tape : w'.tape = w.tape
  output : w'.output = w.output
  size : w.heap.size ≤ w'.heap.size
  block : ∀ k, k < w.heap.size → ¬ F k → w'.heap[k]? = w.heap[k]?

theorem Touch.refl (F : Nat → Prop) (w : World) : Touch F w w := ⟨rfl, rfl, rfl, Nat.le_refl _, fun _ _ _ => rfl⟩
theorem Touch.below {F : Nat → Prop} {B : Nat} {w w' : World} (h : Touch F w w') (hF : ∀ k, F k → B ≤ k) (hB : B ≤ w.heap.size) : Below B w w' :=
  ⟨h.os, h.tape, h.output, h.size, fun k hk => h.block k (by omega) (fun hf => by have := hF k hf; omega)⟩
theorem Touch.of_below {F : Nat → Prop} {w w' : World} (h : Below w.heap.size w w') : Touch F w w' := ⟨h.os, h.tape, h.output, h.size, fun k hk _ => h.block k hk⟩

theorem nodup_lt : ∀ (N : Nat) (l : List Nat), l.Nodup → (∀ x ∈ l, x < N) → l.length ≤ N := by
  intro N
  induction N with
  | zero =>
    intro l _ h
    cases l with
    | nil => exact Nat.le_refl _
    | cons a l => exact absurd (h a (by simp)) (by omega)
  | succ N ih =>
    intro l hn h
    by_cases hm : N ∈ l
    · have h1 := ih (l.erase N) (hn.erase N) (fun x hx => by
        have := h x (List.mem_of_mem_erase hx)
        have hne : x ≠ N := fun e => by subst e; exact (List.Nodup.not_mem_erase hn) hx
        omega)
      have h2 := List.length_erase_of_mem hm
      omega
    · have := ih l hn (fun x hx => by
        have := h x hx
        have hne : x ≠ N := fun e => by subst e; exact hm hx
        omega)
      omega

/-- What a call that changes a disk leaves of a slice of ints that lies apart. -/
theorem RI.touch {w w' : World} {B n : Nat} {A : Option Addr} {l : List Int} {F : Nat → Prop} (h : RI w B A n l) (ht : Touch F w w') (hB : B ≤ w.heap.size) (hA : 0 < n → ∀ a, A = some a → ¬ F a.block) : RI w' B A n l :=
  ⟨h.1, h.2.1, fun hn => by
    obtain ⟨b, off, e, hb, hc⟩ := h.2.2 hn
    refine ⟨b, off, e, hb, fun j hj => ?_⟩
    rw [World.cell?_of_block (w := w) (ht.block b (by omega) (hA hn _ e))]
    exact hc j hj⟩

end Go.Proofs.YtlcbmobdokicaaaGreat

/-
  append of one int onto a row of the call's own, for the walk; what such a row reads as. Condition: fewer than 2^43 ints.
-/
namespace Go.Proofs.YtlcbmobdokicaaaGreat
open Go.RowKit
set_option maxRecDepth 100000
set_option linter.unusedVariables false

theorem info_int : (Tryz.prog.info? 3).map (fun i => (i.zero, i.size, i.bytes)) = some (some (.int .i64 0), 1, 8) := by kernel_rfl

theorem RI.of_own {w : World} {base e c n : Nat} {A : Option Addr} {l : List Int} (h : w.ownsRow base e 1 (.slice A n c) n (l.map (Value.int .i64))) (hl : ∀ x ∈ l, -9223372036854775808 ≤ x ∧ x ≤ 9223372036854775807) : RI w w.heap.size A n l ∧ (0 < n → ∀ a, A = some a → base ≤ a.block) := by
  have hlen : l.length = n := by simpa using h.1
  rcases h.2 with ⟨_, h0⟩ | ⟨g, cap, cur, hv, hbg, hg, _, _, _, htake⟩
  · exact ⟨⟨hlen, hl, fun hn => by omega⟩, fun hn => by omega⟩
  · have hA : A = some ⟨g, 0, none⟩ := by injection hv
    subst hA
    have hlt : g < w.heap.size := by
      rcases Nat.lt_or_ge g w.heap.size with h' | h'
      · exact h'
      · rw [Array.getElem?_eq_none h'] at hg; cases hg
    refine ⟨⟨hlen, hl, fun _ => ⟨g, 0, rfl, hlt, fun j hj => ?_⟩⟩, fun _ a ha => by cases ha; exact hbg⟩
    have e1 : (l.map (Value.int .i64))[j]? = some (.int .i64 (l[j]?.getD 0)) := by simp [List.getElem?_eq_getElem (show j < l.length by omega)]
    rw [Nat.zero_add, cell_of_row w g j cur e (0, 0) hg, ← e1, ← htake, List.getElem?_take, if_pos (by omega)]
    simp
theorem int_own_ge {w : World} {base e size n : Nat} {v : Value} {xs : List Value} (h : w.ownsRow base e size v n xs) : ∀ k, v.ownBlock = some k → base ≤ k := by
  intro k hk
  rcases h.2 with ⟨rfl, _⟩ | ⟨g, cap, cur, rfl, hb, _⟩
  · simp [Value.ownBlock] at hk
  · simp [Value.ownBlock] at hk; omega
theorem int_own_shape {w : World} {base e n : Nat} {v : Value} {xs : List Value} (h : w.ownsRow base e 1 v n xs) : ∃ A c, v = .slice A n c ∧ n ≤ c := by
  rcases h.2 with ⟨rfl, rfl⟩ | ⟨g, cap, cur, rfl, hb, _, hnc, _⟩
  · exact ⟨none, 0, rfl, Nat.le_refl _⟩
  · exact ⟨_, cap, rfl, hnc⟩

theorem wpList_append_int {w : World} {ops : Array Oper} {rest : List Oper} {o : Oper} {a : Act} {Q : Exit → Act → World → Prop} (hgd : o.guard = none) (s x : Operand)
    (ho : o.op = .call { callee := .builtin .append, args := #[s, x], argTypes := #[162, 162] })
    (base : Nat) (v : Value) (n : Nat) (xs : List Int) (hs : a.eval s = v) (b : Nat) (z : Int) (T : TypeId) (hx : a.eval x = .slice (some ⟨b, 0, none⟩) 1 1)
    (hown : w.ownsRow base 3 1 v n (xs.map (Value.int .i64))) (hb : w.heap[b]? = some (.cells #[.int .i64 z] T))
    (h63 : n ≤ 8796093022208) (hbase : base ≤ w.heap.size)
    (h : ∀ v' w', w'.ownsRow base 3 1 v' (n + 1) ((xs ++ [z]).map (Value.int .i64)) → Below base w w' → wpList Tryz.prog ops Q rest (a.put o.dst v') w') : wpList Tryz.prog ops Q (o :: rest) a w := by
  obtain ⟨i0, hi, hz0, hz1, hz2⟩ := info_parts info_int
  refine wpList_append_own w hgd s x 162 ho base 3 i0 (.int .i64 0) 1 8 Tryz.underlying162 hi hz0 hz1 hz2 rfl (by decide) v n _ hs hown ⟨b, 0, none⟩ 1 1 [.int .i64 z] hx rfl (World.news_of_block (cs := #[.int .i64 z]) hb) (fun u hu => by obtain rfl := List.mem_singleton.1 hu; rfl) (by unfold maxLen; omega) (by omega) hbase ?_
  intro v' w' h1 h2 _
  exact h v' w' (by simpa using h1) ((Below.refl base w).grown h2 hbase (int_own_ge hown))

end Go.Proofs.YtlcbmobdokicaaaGreat
