/-
  The texts RefDiskF, RefDiskG, RefDiskH, RefDiskI joined. Conditions: those that each part says at its head.
-/
import Derived.Test.YtfbljmkjiaklfaaGreatDoorG5
import Derived.Test.YtfbljmkjiaklfaaGreatDoorG2
import Derived.Laws.CopyOwn
import Derived.Deep.RegionLaw
import Derived.Deep.AppendLies
import Derived.BigRegion
import Derived.Deep.RegionHeld3

/-
  The plain disk's calls by contract: New, Read, Fuse. No condition beyond the numbers' bounds.
-/
namespace Go.Proofs.YtfbljmkjiaklfaaGreatDoor
open Go.RowKit
set_option maxRecDepth 100000
set_option linter.unusedVariables false

theorem infoU8 : (Tryz.prog.info? 5).map (fun i => (i.zero, i.size, i.bytes)) = some (some (.int .u8 0), 1, 1) := by kernel_rfl

/-- A row of n noughts of the call's own. -/
def Blank (w : World) (g N : Nat) (cur : List Value) : Prop := w.heap[g]? = some (.cells cur.toArray 5 (0, 0)) ∧ cur = List.replicate N (Value.int .u8 0)
theorem blank_new (w : World) (N : Nat) : Blank (w.alloc (.cells (madeCells #[.int .u8 0] N) 5)) w.heap.size N (madeCells #[.int .u8 0] N).toList := by
  refine ⟨by simpa using heap_alloc_new w _, ?_⟩
  apply List.ext_getElem?
  intro i
  by_cases hi : i < N
  · simp [madeCells, hi, Nat.mod_one]
  · simp [madeCells, hi]
theorem blank_get {w : World} {g N n : Nat} {cur : List Value} {l : List Int} (hcur : cur = List.replicate N (Value.int .u8 0)) (hl : l.length = n) (hn : n ≤ N)
    (hh : w.heap[g]? = some (.cells (splice cur 0 (l.map (Value.int .u8))).toArray 5 (0, 0))) (j : Nat) (hj : j < N) : w.cell? ⟨g, j, none⟩ = some (.int .u8 (l[j]?.getD 0)) := by
  subst hcur
  rw [cell_of_row w g j _ _ _ hh]
  by_cases h : j < n
  · simp [splice, List.getElem?_append, hl, h]
  · have e1 : l[j]? = none := List.getElem?_eq_none (by omega)
    rw [e1]
    have hj2 : j - n < N - n := by omega
    simp [splice, List.getElem?_append, hl, h, hj2]
theorem blank_read {w : World} {g : Nat} {cur : List Value} {l m : List Int} {n : Nat} (hcur : cur = List.replicate 256 (Value.int .u8 0)) (hl : l.length = n) (hb : AllBytes l) (h : (n = 0 ∧ m = nought) ∨ (n = 256 ∧ l = m))
    (hh : w.heap[g]? = some (.cells (splice cur 0 (l.map (Value.int .u8))).toArray 5 (0, 0))) : RB w w.heap.size (some ⟨g, 0, none⟩) 256 m := by
  have hlt : g < w.heap.size := by
    rcases Nat.lt_or_ge g w.heap.size with h' | h'
    · exact h'
    · rw [Array.getElem?_eq_none h'] at hh; cases hh
  have hget := blank_get hcur hl (by omega) hh
  have hm : m.length = 256 ∧ AllBytes m := by
    rcases h with ⟨rfl, rfl⟩ | ⟨rfl, rfl⟩
    · exact nought_ok
    · exact ⟨hl, hb⟩
  refine ⟨hm.1, hm.2, fun _ => ⟨g, 0, rfl, hlt, fun j hj => ?_⟩⟩
  rw [Nat.zero_add, hget j hj]
  rcases h with ⟨rfl, rfl⟩ | ⟨rfl, rfl⟩
  · obtain rfl : l = [] := List.eq_nil_of_length_eq_zero hl
    have : nought[j]?.getD 0 = 0 := reps_getD (n := 256) (c := 0) hj
    rw [this]; rfl
  · rfl

section
variable {w : World} {G : Nat → Prop} {x : Addr} {S : DS}

/-- What a sector's value reads as, for full. -/
theorem SecV.read {gx gl : Nat} {v : Value} {l : List Int} (hl : l.length = 256 ∧ AllBytes l) (h : SecV w G gx gl v l) (hG : ∀ k, G k → k < w.heap.size) : ∃ (A : Option Addr) (n c : Nat) (l' : List Int), v = .slice A n c ∧ n ≤ c ∧ RB w w.heap.size A n l' ∧ ((n = 0 ∧ l = nought) ∨ (n = 256 ∧ l' = l)) := by
  rcases h with ⟨e, hn⟩ | ⟨b, off, c, e, hc, hb, _, _, hcell⟩
  · exact ⟨none, 0, 0, [], e, Nat.le_refl _, RB.nil_, .inl ⟨rfl, hn⟩⟩
  · exact ⟨_, 256, c, l, e, hc, ⟨hl.1, hl.2, fun _ => ⟨b, off, rfl, hG b hb, hcell⟩⟩, .inr ⟨rfl, rfl⟩⟩

end

def oneZero : Array Value := #[.slice none 0 0, .slice none 0 0, .int .i64 0]
theorem Touch.set {F : Nat → Prop} {w w' : World} (h : Touch F w w') {b : Nat} (hb : F b) (o : Nat) (v : Value) : Touch F w (w'.setCell ⟨b, o, none⟩ v) :=
  ⟨h.os, h.tape, h.output, by simpa using h.size, fun k hk hF => (Below.heap_setCell w' ⟨b, o, none⟩ v k (fun e => hF (by rw [show k = b from e]; exact hb))).trans (h.block k hk hF)⟩
theorem Touch.drew {F : Nat → Prop} {w w' : World} (h : Touch F w w') : Touch F w w'.drew := ⟨h.os, h.tape, h.output, h.size, h.block⟩
theorem Touch.trans {F : Nat → Prop} {w w' w'' : World} (h : Touch F w w') (h' : Touch F w' w'') : Touch F w w'' :=
  ⟨h'.os.trans h.os, h'.tape.trans h.tape, h'.output.trans h.output, Nat.le_trans h.size h'.size, fun k hk hF => (h'.block k (Nat.lt_of_lt_of_le hk h.size) hF).trans (h.block k hk hF)⟩
theorem Touch.mono {F F' : Nat → Prop} {w w' : World} (h : Touch F w w') (hF : ∀ k, k < w.heap.size → F k → F' k) : Touch F' w w' := ⟨h.os, h.tape, h.output, h.size, fun k hk hf => h.block k hk (fun hh => hf (hF k hk hh))⟩

end Go.Proofs.YtfbljmkjiaklfaaGreatDoor

/-
  The plain disk's Write by contract. Conditions: fewer than 2^46 bytes, fewer than 2^63 - 1 writes, bytes of a block apart.
-/
namespace Go.Proofs.YtfbljmkjiaklfaaGreatDoor
open Go.RowKit
set_option maxRecDepth 100000
set_option linter.unusedVariables false

theorem RB.touch {w w' : World} {B n : Nat} {A : Option Addr} {l : List Int} {F : Nat → Prop} (h : RB w B A n l) (ht : Touch F w w') (hB : B ≤ w.heap.size) (hA : 0 < n → ∀ a, A = some a → ¬ F a.block) : RB w' B A n l :=
  ⟨h.1, h.2.1, fun hn => by
    obtain ⟨b, off, e, hb, hc⟩ := h.2.2 hn
    refine ⟨b, off, e, hb, fun j hj => ?_⟩
    rw [World.cell?_of_block (w := w) (ht.block b (by omega) (hA hn _ e))]
    exact hc j hj⟩

/-- append of bytes onto nil: a new block, as one step of a region that draws. -/
theorem step_append_fresh {ops : Array Oper} {o : Oper} {a : Act} {w : World} {K : Act → World → Prop} {Q : Exit → Act → World → Prop} {E : Prop} (hgd : o.guard = none) (s x : Operand)
    (ho : o.op = .call { callee := .builtin .append, args := #[s, x], argTypes := #[46, 46] })
    (hs : a.eval s = .slice none 0 0) (B b off m c : Nat) (l : List Int) (hx : a.eval x = .slice (some ⟨b, off, none⟩) m c) (hr : RB w B (some ⟨b, off, none⟩) m l) (hm : 0 < m) (h63 : m ≤ 140737488355328)
    (h : ∀ g cap w', g = w.heap.size → RB w' w'.heap.size (some ⟨g, 0, none⟩) m l → m ≤ cap → Below w.heap.size w w' → K (a.put o.dst (.slice (some ⟨g, 0, none⟩) m cap)) w') :
    if Region.wanted o (yielded ops a.tmps) = true then Oper.wp Tryz.prog o a w K Q else E := by
  obtain ⟨i0, hi, hz0, hz1, hz2⟩ := info_parts info_u8
  refine step_append_lies w hgd s x 46 ho w.heap.size 5 i0 (.int .u8 0) 1 1 Tryz.underlying46 hi hz0 hz1 hz2 rfl (by decide) (.slice none 0 0) 0 [] hs (World.ownsRow_nil _ _ _ _) ⟨b, off, none⟩ m c (l.map (Value.int .u8)) hx (by simp [hr.len]) ?_ (oneCell_bytes l) hm (by unfold maxLen; omega) (by omega) (Nat.le_refl _) w.heap.size rfl ?_
  · intro j u hj
    obtain ⟨ad', e, hc⟩ := hr.src j u hj
    cases e
    exact hc
  · intro g cap w' h1 h2 h3 _
    have hg : g = w.heap.size := by
      rcases h3 with h3 | h3
      · simp [Value.ownBlock] at h3
      · exact h3
    simp only [Nat.zero_add, List.nil_append] at h1
    obtain ⟨A', c', e, hc', hr'⟩ := read_own h1 hr.bytes
    simp only [Value.slice.injEq] at e
    obtain ⟨rfl, _, rfl⟩ := e
    have := h g cap w' hg hr' hc' ((Below.refl _ w).grown h2 (Nat.le_refl _) (own_ge (World.ownsRow_nil w w.heap.size 5 1)))
    simpa using this

section
variable {w : World} {G : Nat → Prop} {x : Addr} {S : DS}

theorem far_cell {w : World} {gx b : Nat} (h : b ≠ gx) (o : Nat) (v : Value) (o' : Nat) : (w.setCell ⟨gx, o, none⟩ v).cell? ⟨b, o', none⟩ = w.cell? ⟨b, o', none⟩ := World.cell?_of_block (w := w) (Below.heap_setCell w ⟨gx, o, none⟩ v b h)
theorem below_undrew {W w' : World} (h : Below W.drew.heap.size W.drew w') : Below W.heap.size W w' := (Below.refl W.heap.size W).drew.trans h
end

end Go.Proofs.YtfbljmkjiaklfaaGreatDoor

/-
  The plain disk's Flush by contract. No condition.
-/
namespace Go.Proofs.YtfbljmkjiaklfaaGreatDoor
open Go.RowKit
set_option maxRecDepth 100000
set_option linter.unusedVariables false

section
variable {w : World} {G : Nat → Prop} {x : Addr} {S : DS}

end
end Go.Proofs.YtfbljmkjiaklfaaGreatDoor

/-
  The plain disk's Crash by contract. Condition: the list of what is kept lies apart.
-/
namespace Go.Proofs.YtfbljmkjiaklfaaGreatDoor
open Go.RowKit
set_option maxRecDepth 100000
set_option linter.unusedVariables false

theorem kept_turn {S : DS} (hok : S.Ok) (keep : List Int) (i : Nat) : S.kept keep i ↔ (0 < turnOf S.pend i ∧ ((turnOf S.pend i : Nat) : Int) - 1 ∈ keep) := by
  constructor
  · rintro ⟨a, ha, hm⟩
    have := (turnOf_get hok.pendNodup a i).1 ha
    rw [this]
    refine ⟨by omega, ?_⟩
    have e : ((a + 1 : Nat) : Int) - 1 = a := by omega
    rwa [e]
  · rintro ⟨h0, hm⟩
    obtain ⟨a, ha⟩ : ∃ a, turnOf S.pend i = a + 1 := ⟨turnOf S.pend i - 1, by omega⟩
    refine ⟨a, (turnOf_get hok.pendNodup a i).2 ha, ?_⟩
    rw [ha] at hm
    have e : ((a + 1 : Nat) : Int) - 1 = a := by omega
    rwa [e] at hm

open Classical in
theorem crash_parts (S : DS) (l : List Int) : ∃ cs : Nat → List Int, (∀ i, S.kept l i → cs i = S.last i) ∧ (∀ i, ¬ S.kept l i → cs i = S.safe i) ∧ (S.crash l).safe = cs ∧ (S.crash l).last = cs := by
  refine ⟨(S.crash l).safe, fun i hk => ?_, fun i hk => ?_, rfl, rfl⟩
  · show (if S.kept l i then S.last i else S.safe i) = _
    rw [if_pos hk]
  · show (if S.kept l i then S.last i else S.safe i) = _
    rw [if_neg hk]

section
variable {w : World} {G : Nat → Prop} {x : Addr} {S : DS}

end
end Go.Proofs.YtfbljmkjiaklfaaGreatDoor
