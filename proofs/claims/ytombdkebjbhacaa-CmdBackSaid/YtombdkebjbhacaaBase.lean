/-
  Words for memory: a slice that reads as a list of bytes, nil let in; what keeps it. Plain facts about any world; no condition beyond what each says.
-/
import Derived.Test.YtombdkebjbhacaaRows
import Derived.WalkKit
import Derived.WalkSpells
import Derived.WalkLawsBesides
import Derived.Below
import Derived.Laws.OwnMore
import Derived.IntWalk
import Derived.Lib.Hide
namespace Go.Proofs.Ytombdkebjbhacaa
open Go.RowKit
set_option maxRecDepth 100000

/-- A byte. -/
def IsByte (x : Int) : Prop := 0 ≤ x ∧ x < 256
/-- All of a list are bytes. -/
def AllBytes (l : List Int) : Prop := ∀ x ∈ l, 0 ≤ x ∧ x < 256

theorem AllBytes.getD {l : List Int} (h : AllBytes l) (i : Nat) : 0 ≤ l[i]?.getD 0 ∧ l[i]?.getD 0 < 256 := by
  rcases Nat.lt_or_ge i l.length with hi | hi
  · have e : l[i]?.getD 0 = l[i] := by simp [List.getElem?_eq_getElem hi]
    rw [e]; exact h _ (List.getElem_mem hi)
  · have e : l[i]?.getD 0 = 0 := by simp [List.getElem?_eq_none hi]
    rw [e]; decide
theorem AllBytes.take {l : List Int} (h : AllBytes l) (n : Nat) : AllBytes (l.take n) := fun x hx => h x (List.mem_of_mem_take hx)
theorem AllBytes.drop {l : List Int} (h : AllBytes l) (n : Nat) : AllBytes (l.drop n) := fun x hx => h x (List.mem_of_mem_drop hx)
theorem AllBytes.append {l m : List Int} (h : AllBytes l) (g : AllBytes m) : AllBytes (l ++ m) := fun x hx => by
  rcases List.mem_append.1 hx with a | a
  · exact h x a
  · exact g x a
theorem AllBytes.nil : AllBytes [] := fun _ h => by cases h

theorem one_byte {x : Nat} (h : x < 256) : AllBytes [(x : Int)] := by
  intro y hy
  obtain rfl : y = (x : Int) := by simpa using hy
  omega

/-- The slice at A of n bytes reads as the list l in w, and lies below block B. -/
def RB (w : World) (B : Nat) (A : Option Addr) (n : Nat) (l : List Int) : Prop :=
  l.length = n ∧ AllBytes l ∧ (0 < n → ∃ b off, A = some ⟨b, off, none⟩ ∧ b < B ∧ ∀ j, j < n → w.cell? ⟨b, off + j, none⟩ = some (.int .u8 (l[j]?.getD 0)))

section
variable {w w' : World} {B B' n : Nat} {A : Option Addr} {l : List Int}
theorem RB.nil_ : RB w B A 0 [] := ⟨rfl, AllBytes.nil, fun h => absurd h (by omega)⟩
theorem RB.len (h : RB w B A n l) : l.length = n := h.1
theorem RB.bytes (h : RB w B A n l) : AllBytes l := h.2.1
theorem RB.at_ (h : RB w B A n l) (hn : 0 < n) : ∃ b off, A = some ⟨b, off, none⟩ ∧ b < B ∧ ∀ j, j < n → w.cell? ⟨b, off + j, none⟩ = some (.int .u8 (l[j]?.getD 0)) := h.2.2 hn
theorem RB.keep (h : RB w B A n l) (hk : ∀ b o, b < B → w'.cell? ⟨b, o, none⟩ = w.cell? ⟨b, o, none⟩) : RB w' B A n l :=
  ⟨h.1, h.2.1, fun hn => by
    obtain ⟨b, off, e, hb, hc⟩ := h.2.2 hn
    exact ⟨b, off, e, hb, fun j hj => (hk _ _ hb).trans (hc j hj)⟩⟩
theorem RB.more (h : RB w B A n l) (hB : B ≤ B') : RB w B' A n l :=
  ⟨h.1, h.2.1, fun hn => by
    obtain ⟨b, off, e, hb, hc⟩ := h.2.2 hn
    exact ⟨b, off, e, by omega, hc⟩⟩
theorem RB.below (h : RB w B A n l) (hb : Below B w w') : RB w' B A n l := h.keep fun b o hp => hb.cell (p := ⟨b, o, none⟩) hp
theorem RB.drew (h : RB w B A n l) : RB w.drew B A n l := h.keep fun _ _ _ => rfl
theorem RB.alloc (h : RB w B A n l) (hB : B ≤ w.heap.size) (o : Obj) : RB (w.alloc o) B A n l := h.keep fun b o' hp => World.cell?_alloc_lt w o ⟨b, o', none⟩ (by simp; omega)
theorem RB.setCell (h : RB w B A n l) {p : Addr} (hB : B ≤ p.block) (u : Value) : RB (w.setCell p u) B A n l :=
  h.keep fun b o hp => World.cell?_setCell_other w p ⟨b, o, none⟩ u (fun e => by subst e; simp at hB; omega)
theorem RB.of_own {base e c : Nat} (h : w.ownsRow base e 1 (.slice A n c) n (l.map (Value.int .u8))) (hl : AllBytes l) : RB w w.heap.size A n l := by
  have hlen : l.length = n := by simpa using h.1
  refine ⟨hlen, hl, fun hn => ?_⟩
  rcases h.2 with ⟨_, h0⟩ | ⟨g, cap, cur, hv, _, hg, _, _, _, htake⟩
  · omega
  · have hA : A = some ⟨g, 0, none⟩ := by injection hv
    subst hA
    have hlt : g < w.heap.size := by
      rcases Nat.lt_or_ge g w.heap.size with h' | h'
      · exact h'
      · rw [Array.getElem?_eq_none h'] at hg; cases hg
    refine ⟨g, 0, rfl, hlt, fun j hj => ?_⟩
    have e1 : (l.map (Value.int .u8))[j]? = some (.int .u8 (l[j]?.getD 0)) := by simp [List.getElem?_eq_getElem (show j < l.length by omega)]
    rw [Nat.zero_add, cell_of_row w g j cur e (0, 0) hg, ← e1, ← htake, List.getElem?_take, if_pos (by omega)]
    simp
theorem RB.cut {b off : Nat} (h : RB w B A n l) (hc : ∀ j, j < n → w.cell? ⟨b, off + j, none⟩ = some (.int .u8 (l[j]?.getD 0))) (k : Nat) (hk : k ≤ n) (hb : b < B) : RB w B (some ⟨b, off + k, none⟩) (n - k) (l.drop k) := by
  refine ⟨by rw [List.length_drop, h.len], h.bytes.drop k, fun _ => ⟨b, off + k, rfl, hb, fun j hj => ?_⟩⟩
  rw [Nat.add_assoc, hc (k + j) (by omega), List.getElem?_drop]
/-- What a copy or an append reads of such a slice. -/
theorem RB.src (h : RB w B A n l) : ∀ j v, (l.map (Value.int .u8))[j]? = some v → ∃ ad, A = some ad ∧ w.cell? (ad.add j) = some v := by
  intro j v hv
  have hj : j < n := by
    rcases Nat.lt_or_ge j n with h' | h'
    · exact h'
    · rw [List.getElem?_eq_none (by simp [h.len]; omega)] at hv; cases hv
  obtain ⟨b, off, rfl, _, hc⟩ := h.at_ (by omega)
  refine ⟨_, rfl, ?_⟩
  have ea : Addr.add ⟨b, off, none⟩ j = ⟨b, off + j, none⟩ := by unfold Addr.add; split <;> simp_all
  rw [ea, hc j hj, ← hv, List.getElem?_map, List.getElem?_eq_getElem (show j < l.length by rw [h.len]; exact hj)]
  simp
theorem oneCell_bytes (l : List Int) : ∀ v ∈ l.map (Value.int .u8), v.oneCell' = true := by
  intro v hv
  obtain ⟨x, _, rfl⟩ := List.mem_map.1 hv
  rfl
end

/-- One byte in a new block. -/
theorem RB.one (w : World) {u : Int} (e : TypeId) (h : 0 ≤ u ∧ u < 256) : RB (w.alloc (.cells #[.int .u8 u] e)) (w.heap.size + 1) (some ⟨w.heap.size, 0, none⟩) 1 [u] := by
  refine ⟨rfl, fun x hx => ?_, fun _ => ⟨w.heap.size, 0, rfl, Nat.lt_succ_self _, fun j hj => ?_⟩⟩
  · obtain rfl : x = u := by simpa using hx
    exact h
  · obtain rfl : j = 0 := by omega
    rw [cell_of_row (w.alloc (.cells #[.int .u8 u] e)) w.heap.size 0 #[.int .u8 u] e (0, 0) (heap_alloc_new w _)]
    rfl

/-- Some bytes in a new block. -/
theorem RB.lit (w : World) (e : TypeId) (l : List Int) (cs : Array Value) (hcs : cs = (l.map (Value.int .u8)).toArray) (h : AllBytes l) : RB (w.alloc (.cells cs e)) (w.heap.size + 1) (some ⟨w.heap.size, 0, none⟩) l.length l := by
  subst hcs
  refine ⟨rfl, h, fun _ => ⟨w.heap.size, 0, rfl, Nat.lt_succ_self _, fun j hj => ?_⟩⟩
  rw [Nat.zero_add, cell_of_row (w.alloc (.cells _ e)) w.heap.size j _ e (0, 0) (heap_alloc_new w _)]
  simp [List.getElem?_eq_getElem hj]

/-- Some bytes of a constant text, in a new block with its mark. -/
theorem RB.mark (w : World) (e : TypeId) (l : List Int) (cs : Array Value) (fr : Nat × Nat) (hcs : cs = (l.map (Value.int .u8)).toArray) (h : AllBytes l) : RB (w.alloc (.cells cs e fr)) (w.heap.size + 1) (some ⟨w.heap.size, 0, none⟩) l.length l := by
  subst hcs
  refine ⟨rfl, h, fun _ => ⟨w.heap.size, 0, rfl, Nat.lt_succ_self _, fun j hj => ?_⟩⟩
  rw [Nat.zero_add, cell_of_row (w.alloc (.cells _ e fr)) w.heap.size j _ e fr (heap_alloc_new w _)]
  simp [List.getElem?_eq_getElem hj]

/-- A slice's reading as the given statements open it: the numbers up to the capacity. -/
theorem RB.of_cells {w : World} {x : Addr} {len cap : Nat} {zs : List Int} (hl : len ≤ cap) (hz : zs.length = cap) (hcell : ∀ i, i < zs.length → w.cell? (x.add i) = some (.int .u8 (zs.getD i 0))) (hw : ∀ n ∈ zs, (Lit.int .u8 n).wf = true) : RB w w.heap.size (some x) len (zs.take len) := by
  refine ⟨by simp; omega, fun y hy => ?_, fun hn => ?_⟩
  · have := hw y (List.mem_of_mem_take hy)
    simp [Lit.wf, IntKind.min, IntKind.max, IntKind.signed, IntKind.bits] at this
    omega
  · obtain ⟨b, off, spot⟩ := x
    have hc := hcell 0 (by omega)
    have hspot : spot = none := by simpa [Addr.add] using World.cell?_spot hc
    subst hspot
    refine ⟨b, off, rfl, ?_, fun j hj => ?_⟩
    · have hc' : w.cell? ⟨b, off, none⟩ = some (.int .u8 (zs.getD 0 0)) := by simpa [Addr.add] using hc
      exact World.block_lt_of_cell? _ _ hc'
    · have := hcell j (by omega)
      have e : (zs.take len)[j]?.getD 0 = zs.getD j 0 := by simp [hj]
      have ea : Addr.add ⟨b, off, none⟩ j = ⟨b, off + j, none⟩ := by unfold Addr.add; split <;> simp_all
      rw [e, ← ea]
      exact this
end Go.Proofs.Ytombdkebjbhacaa
