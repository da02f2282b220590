/-
  The texts Base, NumA, DirA, Ints, DiskP, NumP, Get, App, Put, NumBackP, CrcP, CrcW, SecP, LayP, RedoP, RedoC joined. Conditions: those that each part says at its head.
-/
import Derived.Test.YtkpmfobmlaldfaaDoorRows
import Derived.WalkKit
import Derived.WalkSpells
import Derived.WalkLawsBesides
import Derived.Below
import Derived.Laws.OwnMore
import Derived.IntWalk
import Derived.Lib.Hide
import Derived.Deep.QuietTactic
import Derived.BigQuiet
import Derived.Deep.Slices
import Derived.Deep.Fields
import Derived.ChangeSame
import Derived.ProofKit
import Derived.Laws.BitsLemmas
import Derived.RowKit
import Derived.Laws.AppendOwnNone
import Derived.Laws.CopyOwn
import Derived.OwnWalk

/-
  Words for memory: a slice that reads as a list of bytes, nil let in; what keeps it. Plain facts about any world; no condition beyond what each says.
-/
namespace Go.Proofs.YtkpmfobmlaldfaaDoor
open Go.RowKit
set_option maxRecDepth 100000

/-- A byte. -/
def IsByte (x : Int) : Prop := 0 ≤ x ∧ x < 256
/-- All of a list are bytes. -/
def AllBytes (l : List Int) : Prop := ∀ x ∈ l, 0 ≤ x ∧ x < 256

theorem AllBytes.getD {l : List Int} (h : AllBytes l) (i : Nat) : 0 ≤ l[i]?.getD 0 ∧ l[i]?.getD 0 < 256 := by
  rcases Nat.lt_or_ge i l.length with hi | hi
  · have e : l[i]?.getD 0 = l[i] := by simp [List.getElem?_eq_getElem hi]
    rw [e]; exact h _ (List.getElem_mem hi)
  · have e : l[i]?.getD 0 = 0 := by simp [List.getElem?_eq_none hi]
    rw [e]; decide
theorem AllBytes.take {l : List Int} (h : AllBytes l) (n : Nat) : AllBytes (l.take n) := fun x hx => h x (List.mem_of_mem_take hx)
theorem AllBytes.drop {l : List Int} (h : AllBytes l) (n : Nat) : AllBytes (l.drop n) := fun x hx => h x (List.mem_of_mem_drop hx)
theorem AllBytes.append {l m : List Int} (h : AllBytes l) (g : AllBytes m) : AllBytes (l ++ m) := fun x hx => by
  rcases List.mem_append.1 hx with a | a
  · exact h x a
  · exact g x a
theorem AllBytes.nil : AllBytes [] := fun _ h => by cases h

theorem one_byte {x : Nat} (h : x < 256) : AllBytes [(x : Int)] := by
  intro y hy
  obtain rfl : y = (x : Int) := by simpa using hy
  omega

/-- The slice at A of n bytes reads as the list l in w, and lies below block B. -/
def RB (w : World) (B : Nat) (A : Option Addr) (n : Nat) (l : List Int) : Prop :=
  l.length = n ∧ AllBytes l ∧ (0 < n → ∃ b off, A = some ⟨b, off, none⟩ ∧ b < B ∧ ∀ j, j < n → w.cell? ⟨b, off + j, none⟩ = some (.int .u8 (l[j]?.getD 0)))

section
variable {w w' : World} {B B' n : Nat} {A : Option Addr} {l : List Int}
theorem RB.nil_ : RB w B A 0 [] := ⟨rfl, AllBytes.nil, fun h => absurd h (by omega)⟩
theorem RB.len (h : RB w B A n l) : l.length = n := h.1
theorem RB.bytes (h : RB w B A n l) : AllBytes l := h.2.1
theorem RB.at_ (h : RB w B A n l) (hn : 0 < n) : ∃ b off, A = some ⟨b, off, none⟩ ∧ b < B ∧ ∀ j, j < n → w.cell? ⟨b, off + j, none⟩ = some (.int .u8 (l[j]?.getD 0)) := h.2.2 hn
theorem RB.keep (h : RB w B A n l) (hk : ∀ b o, b < B → w'.cell? ⟨b, o, none⟩ = w.cell? ⟨b, o, none⟩) : RB w' B A n l :=
  ⟨h.1, h.2.1, fun hn => by
    obtain ⟨b, off, e, hb, hc⟩ := h.2.2 hn
    exact ⟨b, off, e, hb, fun j hj => (hk _ _ hb).trans (hc j hj)⟩⟩
theorem RB.more (h : RB w B A n l) (hB : B ≤ B') : RB w B' A n l :=
  ⟨h.1, h.2.1, fun hn => by
    obtain ⟨b, off, e, hb, hc⟩ := h.2.2 hn
    exact ⟨b, off, e, by omega, hc⟩⟩
theorem RB.below (h : RB w B A n l) (hb : Below B w w') : RB w' B A n l := h.keep fun b o hp => hb.cell (p := ⟨b, o, none⟩) hp
theorem RB.drew (h : RB w B A n l) : RB w.drew B A n l := h.keep fun _ _ _ => rfl
theorem RB.alloc (h : RB w B A n l) (hB : B ≤ w.heap.size) (o : Obj) : RB (w.alloc o) B A n l := h.keep fun b o' hp => World.cell?_alloc_lt w o ⟨b, o', none⟩ (by simp; omega)
theorem RB.setCell (h : RB w B A n l) {p : Addr} (hB : B ≤ p.block) (u : Value) : RB (w.setCell p u) B A n l :=
  h.keep fun b o hp => World.cell?_setCell_other w p ⟨b, o, none⟩ u (fun e => by subst e; simp at hB; omega)
theorem RB.of_own {base e c : Nat} (h : w.ownsRow base e 1 (.slice A n c) n (l.map (Value.int .u8))) (hl : AllBytes l) : RB w w.heap.size A n l := by
  have hlen : l.length = n := by simpa using h.1
  refine ⟨hlen, hl, fun hn => ?_⟩
  rcases h.2 with ⟨_, h0⟩ | ⟨g, cap, cur, hv, _, hg, _, _, _, htake⟩
  · omega
  · have hA : A = some ⟨g, 0, none⟩ := by injection hv
    subst hA
    have hlt : g < w.heap.size := by
      rcases Nat.lt_or_ge g w.heap.size with h' | h'
      · exact h'
      · rw [Array.getElem?_eq_none h'] at hg; cases hg
    refine ⟨g, 0, rfl, hlt, fun j hj => ?_⟩
    have e1 : (l.map (Value.int .u8))[j]? = some (.int .u8 (l[j]?.getD 0)) := by simp [List.getElem?_eq_getElem (show j < l.length by omega)]
    rw [Nat.zero_add, cell_of_row w g j cur e (0, 0) hg, ← e1, ← htake, List.getElem?_take, if_pos (by omega)]
    simp
theorem RB.cut {b off : Nat} (h : RB w B A n l) (hc : ∀ j, j < n → w.cell? ⟨b, off + j, none⟩ = some (.int .u8 (l[j]?.getD 0))) (k : Nat) (hk : k ≤ n) (hb : b < B) : RB w B (some ⟨b, off + k, none⟩) (n - k) (l.drop k) := by
  refine ⟨by rw [List.length_drop, h.len], h.bytes.drop k, fun _ => ⟨b, off + k, rfl, hb, fun j hj => ?_⟩⟩
  rw [Nat.add_assoc, hc (k + j) (by omega), List.getElem?_drop]
/-- What a copy or an append reads of such a slice. -/
theorem RB.src (h : RB w B A n l) : ∀ j v, (l.map (Value.int .u8))[j]? = some v → ∃ ad, A = some ad ∧ w.cell? (ad.add j) = some v := by
  intro j v hv
  have hj : j < n := by
    rcases Nat.lt_or_ge j n with h' | h'
    · exact h'
    · rw [List.getElem?_eq_none (by simp [h.len]; omega)] at hv; cases hv
  obtain ⟨b, off, rfl, _, hc⟩ := h.at_ (by omega)
  refine ⟨_, rfl, ?_⟩
  have ea : Addr.add ⟨b, off, none⟩ j = ⟨b, off + j, none⟩ := by unfold Addr.add; split <;> simp_all
  rw [ea, hc j hj, ← hv, List.getElem?_map, List.getElem?_eq_getElem (show j < l.length by rw [h.len]; exact hj)]
  simp
theorem oneCell_bytes (l : List Int) : ∀ v ∈ l.map (Value.int .u8), v.oneCell' = true := by
  intro v hv
  obtain ⟨x, _, rfl⟩ := List.mem_map.1 hv
  rfl
end

/-- One byte in a new block. -/
theorem RB.one (w : World) {u : Int} (e : TypeId) (h : 0 ≤ u ∧ u < 256) : RB (w.alloc (.cells #[.int .u8 u] e)) (w.heap.size + 1) (some ⟨w.heap.size, 0, none⟩) 1 [u] := by
  refine ⟨rfl, fun x hx => ?_, fun _ => ⟨w.heap.size, 0, rfl, Nat.lt_succ_self _, fun j hj => ?_⟩⟩
  · obtain rfl : x = u := by simpa using hx
    exact h
  · obtain rfl : j = 0 := by omega
    rw [cell_of_row (w.alloc (.cells #[.int .u8 u] e)) w.heap.size 0 #[.int .u8 u] e (0, 0) (heap_alloc_new w _)]
    rfl

/-- Some bytes in a new block. -/
theorem RB.lit (w : World) (e : TypeId) (l : List Int) (cs : Array Value) (hcs : cs = (l.map (Value.int .u8)).toArray) (h : AllBytes l) : RB (w.alloc (.cells cs e)) (w.heap.size + 1) (some ⟨w.heap.size, 0, none⟩) l.length l := by
  subst hcs
  refine ⟨rfl, h, fun _ => ⟨w.heap.size, 0, rfl, Nat.lt_succ_self _, fun j hj => ?_⟩⟩
  rw [Nat.zero_add, cell_of_row (w.alloc (.cells _ e)) w.heap.size j _ e (0, 0) (heap_alloc_new w _)]
  simp [List.getElem?_eq_getElem hj]

/-- Some bytes of a constant text, in a new block with its mark. -/
theorem RB.mark (w : World) (e : TypeId) (l : List Int) (cs : Array Value) (fr : Nat × Nat) (hcs : cs = (l.map (Value.int .u8)).toArray) (h : AllBytes l) : RB (w.alloc (.cells cs e fr)) (w.heap.size + 1) (some ⟨w.heap.size, 0, none⟩) l.length l := by
  subst hcs
  refine ⟨rfl, h, fun _ => ⟨w.heap.size, 0, rfl, Nat.lt_succ_self _, fun j hj => ?_⟩⟩
  rw [Nat.zero_add, cell_of_row (w.alloc (.cells _ e fr)) w.heap.size j _ e fr (heap_alloc_new w _)]
  simp [List.getElem?_eq_getElem hj]

/-- A slice's reading as the given statements open it: the numbers up to the capacity. -/
theorem RB.of_cells {w : World} {x : Addr} {len cap : Nat} {zs : List Int} (hl : len ≤ cap) (hz : zs.length = cap) (hcell : ∀ i, i < zs.length → w.cell? (x.add i) = some (.int .u8 (zs.getD i 0))) (hw : ∀ n ∈ zs, (Lit.int .u8 n).wf = true) : RB w w.heap.size (some x) len (zs.take len) := by
  refine ⟨by simp; omega, fun y hy => ?_, fun hn => ?_⟩
  · have := hw y (List.mem_of_mem_take hy)
    simp [Lit.wf, IntKind.min, IntKind.max, IntKind.signed, IntKind.bits] at this
    omega
  · obtain ⟨b, off, spot⟩ := x
    have hc := hcell 0 (by omega)
    have hspot : spot = none := by simpa [Addr.add] using World.cell?_spot hc
    subst hspot
    refine ⟨b, off, rfl, ?_, fun j hj => ?_⟩
    · have hc' : w.cell? ⟨b, off, none⟩ = some (.int .u8 (zs.getD 0 0)) := by simpa [Addr.add] using hc
      exact World.block_lt_of_cell? _ _ hc'
    · have := hcell j (by omega)
      have e : (zs.take len)[j]?.getD 0 = zs.getD j 0 := by simp [hj]
      have ea : Addr.add ⟨b, off, none⟩ j = ⟨b, off + j, none⟩ := by unfold Addr.add; split <;> simp_all
      rw [e, ← ea]
      exact this
end Go.Proofs.YtkpmfobmlaldfaaDoor

/-
  Contracts of the small functions over sizes: what num.isSize, num.Right and the plain answers sized, pow, Right return, for every argument; none of them touches the memory. No condition.
-/
namespace Go.Proofs.YtkpmfobmlaldfaaDoor
open Go.RowKit
set_option maxRecDepth 100000

/-- A size that numbers have. -/
def sizeB (s : Int) : Bool := decide (s = 1 ∨ s = 2 ∨ s = 4 ∨ s = 8)

/-- A number that may stand in so many bytes. -/
def rightB (n s : Int) : Bool := decide (s = 8) || (decide (s = 1) && decide (0 ≤ n ∧ n < 256)) || (decide (s = 2) && decide (0 ≤ n ∧ n < 65536)) || (decide (s = 4) && decide (0 ≤ n ∧ n < 4294967296))

theorem size_cases {s : Int} (h : sizeB s = true) : s = 1 ∨ s = 2 ∨ s = 4 ∨ s = 8 := of_decide_eq_true h

set_option maxHeartbeats 400000 in
theorem isSize_any (s : Int) (w : World) :
    Calls Tryd.prog 45 #[.int .i64 s] w fun e w' => e = .returned (.bool (sizeB s)) ∧ w = w' := by
  by_cases h1 : s = 1
  · subst h1
    go_enter Tryd.func45, Tryd.ntmps45
    go_wp2; go_ret; exact ⟨rfl, rfl⟩
  by_cases h2 : s = 2
  · subst h2
    go_enter Tryd.func45, Tryd.ntmps45
    go_wp2; go_ret; exact ⟨rfl, rfl⟩
  by_cases h4 : s = 4
  · subst h4
    go_enter Tryd.func45, Tryd.ntmps45
    go_wp2; go_ret; exact ⟨rfl, rfl⟩
  by_cases h8 : s = 8
  · subst h8
    go_enter Tryd.func45, Tryd.ntmps45
    go_wp2; go_ret; exact ⟨rfl, rfl⟩
  have e : sizeB s = false := by simp [sizeB, h1, h2, h4, h8]
  have k1 : (s == 1) = false := by simpa using h1
  have k2 : (s == 2) = false := by simpa using h2
  have k4 : (s == 4) = false := by simpa using h4
  have k8 : (s == 8) = false := by simpa using h8
  rw [e]; clear e h1 h2 h4 h8
  go_enter Tryd.func45, Tryd.ntmps45
  go_wp2; go_ret; exact ⟨rfl, rfl⟩

set_option maxHeartbeats 400000 in
theorem sized_any (s : Int) (w : World) :
    Calls Tryd.prog 53 #[.int .i64 s] w fun e w' => e = .returned (.bool (sizeB s)) ∧ w = w' := by
  by_cases h1 : s = 1
  · subst h1
    go_enter Tryd.func53, Tryd.ntmps53
    go_wp2; go_ret; exact ⟨rfl, rfl⟩
  by_cases h2 : s = 2
  · subst h2
    go_enter Tryd.func53, Tryd.ntmps53
    go_wp2; go_ret; exact ⟨rfl, rfl⟩
  by_cases h4 : s = 4
  · subst h4
    go_enter Tryd.func53, Tryd.ntmps53
    go_wp2; go_ret; exact ⟨rfl, rfl⟩
  by_cases h8 : s = 8
  · subst h8
    go_enter Tryd.func53, Tryd.ntmps53
    go_wp2; go_ret; exact ⟨rfl, rfl⟩
  have e : sizeB s = false := by simp [sizeB, h1, h2, h4, h8]
  have k1 : (s == 1) = false := by simpa using h1
  have k2 : (s == 2) = false := by simpa using h2
  have k4 : (s == 4) = false := by simpa using h4
  have k8 : (s == 8) = false := by simpa using h8
  rw [e]; clear e h1 h2 h4 h8
  go_enter Tryd.func53, Tryd.ntmps53
  go_wp2; go_ret; exact ⟨rfl, rfl⟩

theorem rightB_none {n s : Int} (h : sizeB s = false) : rightB n s = false := by
  simp only [sizeB, decide_eq_false_iff_not, not_or] at h
  obtain ⟨a, b, c, d⟩ := h
  simp [rightB, a, b, c, d]

/-- 256 to the power of a size. -/
def powN : Nat → Int | 0 => 1 | k + 1 => powN k * 256

set_option maxHeartbeats 400000 in
theorem pow_any (k : Nat) (hk : k ≤ 7) (w : World) :
    Calls Tryd.prog 76 #[.int .i64 (k : Int)] w fun e w' => e = .returned (.int .i64 (powN k)) ∧ w = w' := by
  have hall : k = 0 ∨ k = 1 ∨ k = 2 ∨ k = 3 ∨ k = 4 ∨ k = 5 ∨ k = 6 ∨ k = 7 := by omega
  have hlt : ∀ j, j < 7 → 0 ≤ powN j ∧ powN j < 10000000000000000 := by
    intro j hj
    have : j = 0 ∨ j = 1 ∨ j = 2 ∨ j = 3 ∨ j = 4 ∨ j = 5 ∨ j = 6 := by omega
    rcases this with rfl | rfl | rfl | rfl | rfl | rfl | rfl <;> decide
  have HL := Lib.hid hlt
  clear hlt hall
  go_enter Tryd.func76, Tryd.ntmps76
  go_wp2
  go_loop [3, 4] (fun n i => ∃ j : Nat, j ≤ k ∧ i = .int .i64 j ∧ n = .int .i64 (powN j)) (fun _ i => k - (intOf i).toNat)
  case atStart => exact ⟨0, Nat.zero_le _, rfl, rfl⟩
  case round =>
    obtain ⟨j, hj, rfl, rfl⟩ := hrel
    by_cases hlt : j < k
    · obtain ⟨b0, b1⟩ := HL.out j (by omega)
      have H2 := Lib.hid (show powN (j + 1) = powN j * 256 from rfl)
      go_wp2
      go_round
      case rel => exact ⟨j + 1, by omega, by go_num, by rw [H2.out]⟩
      case measure => simp [intOf]; omega
    · go_wp2
      go_ret
      obtain rfl : j = k := by omega
      exact ⟨rfl, rfl⟩

theorem pow1 (w : World) : Calls Tryd.prog 76 #[.int .i64 1] w fun e w' => e = .returned (.int .i64 256) ∧ w = w' := pow_any 1 (by decide) w
theorem pow2 (w : World) : Calls Tryd.prog 76 #[.int .i64 2] w fun e w' => e = .returned (.int .i64 65536) ∧ w = w' := pow_any 2 (by decide) w
theorem pow4 (w : World) : Calls Tryd.prog 76 #[.int .i64 4] w fun e w' => e = .returned (.int .i64 4294967296) ∧ w = w' := pow_any 4 (by decide) w
theorem isSize_no (s : Int) (w : World) (h : sizeB s = false) :
    Calls Tryd.prog 45 #[.int .i64 s] w fun e w' => e = .returned (.bool false) ∧ w = w' := by
  have := isSize_any s w; rwa [h] at this
theorem isSize_yes (s : Int) (w : World) (h : sizeB s = true) :
    Calls Tryd.prog 45 #[.int .i64 s] w fun e w' => e = .returned (.bool true) ∧ w = w' := by
  have := isSize_any s w; rwa [h] at this
theorem sized_no (s : Int) (w : World) (h : sizeB s = false) :
    Calls Tryd.prog 53 #[.int .i64 s] w fun e w' => e = .returned (.bool false) ∧ w = w' := by
  have := sized_any s w; rwa [h] at this
theorem sized_yes (s : Int) (w : World) (h : sizeB s = true) :
    Calls Tryd.prog 53 #[.int .i64 s] w fun e w' => e = .returned (.bool true) ∧ w = w' := by
  have := sized_any s w; rwa [h] at this

set_option maxHeartbeats 1600000 in
theorem Right_any (n s : Int) (w : World) :
    Calls Tryd.prog 22 #[.int .i64 n, .int .i64 s] w fun e w' => e = .returned (.bool (rightB n s)) ∧ w = w' := by
  by_cases hs : sizeB s = true
  · rcases size_cases hs with rfl | rfl | rfl | rfl
    · clear hs
      by_cases h0 : 0 ≤ n
      · by_cases h1 : n < 256
        · have e : rightB n 1 = true := by simp [rightB, h0, h1]
          have k0 : decide (0 ≤ n) = true := by simp [h0]
          have k1 : decide (n < 256) = true := by simp [h1]
          rw [e]; clear e h0 h1
          go_enter Tryd.func22, Tryd.ntmps22; go_wp2_with (go_at_call 45; refine (isSize_any _ _).mono ?_; rintro e w' ⟨rfl, rfl⟩); go_ret; exact ⟨rfl, rfl⟩
        · have e : rightB n 1 = false := by simp [rightB, h1]
          have k0 : decide (0 ≤ n) = true := by simp [h0]
          have k1 : decide (n < 256) = false := by simp; omega
          rw [e]; clear e h0 h1
          go_enter Tryd.func22, Tryd.ntmps22; go_wp2_with (go_at_call 45; refine (isSize_any _ _).mono ?_; rintro e w' ⟨rfl, rfl⟩); go_ret; exact ⟨rfl, rfl⟩
      · have e : rightB n 1 = false := by simp [rightB, h0]
        have k0 : decide (0 ≤ n) = false := by simp; omega
        rw [e]; clear e h0
        go_enter Tryd.func22, Tryd.ntmps22; go_wp2_with (go_at_call 45; refine (isSize_any _ _).mono ?_; rintro e w' ⟨rfl, rfl⟩); go_ret; exact ⟨rfl, rfl⟩
    · clear hs
      by_cases h0 : 0 ≤ n
      · by_cases h1 : n < 65536
        · have e : rightB n 2 = true := by simp [rightB, h0, h1]
          have k0 : decide (0 ≤ n) = true := by simp [h0]
          have k1 : decide (n < 65536) = true := by simp [h1]
          rw [e]; clear e h0 h1
          go_enter Tryd.func22, Tryd.ntmps22; go_wp2_with (go_at_call 45; refine (isSize_any _ _).mono ?_; rintro e w' ⟨rfl, rfl⟩); go_ret; exact ⟨rfl, rfl⟩
        · have e : rightB n 2 = false := by simp [rightB, h1]
          have k0 : decide (0 ≤ n) = true := by simp [h0]
          have k1 : decide (n < 65536) = false := by simp; omega
          rw [e]; clear e h0 h1
          go_enter Tryd.func22, Tryd.ntmps22; go_wp2_with (go_at_call 45; refine (isSize_any _ _).mono ?_; rintro e w' ⟨rfl, rfl⟩); go_ret; exact ⟨rfl, rfl⟩
      · have e : rightB n 2 = false := by simp [rightB, h0]
        have k0 : decide (0 ≤ n) = false := by simp; omega
        rw [e]; clear e h0
        go_enter Tryd.func22, Tryd.ntmps22; go_wp2_with (go_at_call 45; refine (isSize_any _ _).mono ?_; rintro e w' ⟨rfl, rfl⟩); go_ret; exact ⟨rfl, rfl⟩
    · clear hs
      by_cases h0 : 0 ≤ n
      · by_cases h1 : n < 4294967296
        · have e : rightB n 4 = true := by simp [rightB, h0, h1]
          have k0 : decide (0 ≤ n) = true := by simp [h0]
          have k1 : decide (n < 4294967296) = true := by simp [h1]
          rw [e]; clear e h0 h1
          go_enter Tryd.func22, Tryd.ntmps22; go_wp2_with (go_at_call 45; refine (isSize_any _ _).mono ?_; rintro e w' ⟨rfl, rfl⟩); go_ret; exact ⟨rfl, rfl⟩
        · have e : rightB n 4 = false := by simp [rightB, h1]
          have k0 : decide (0 ≤ n) = true := by simp [h0]
          have k1 : decide (n < 4294967296) = false := by simp; omega
          rw [e]; clear e h0 h1
          go_enter Tryd.func22, Tryd.ntmps22; go_wp2_with (go_at_call 45; refine (isSize_any _ _).mono ?_; rintro e w' ⟨rfl, rfl⟩); go_ret; exact ⟨rfl, rfl⟩
      · have e : rightB n 4 = false := by simp [rightB, h0]
        have k0 : decide (0 ≤ n) = false := by simp; omega
        rw [e]; clear e h0
        go_enter Tryd.func22, Tryd.ntmps22; go_wp2_with (go_at_call 45; refine (isSize_any _ _).mono ?_; rintro e w' ⟨rfl, rfl⟩); go_ret; exact ⟨rfl, rfl⟩
    · clear hs
      have e : rightB n 8 = true := by simp [rightB]
      rw [e]; clear e
      go_enter Tryd.func22, Tryd.ntmps22; go_wp2_with (go_at_call 45; refine (isSize_any _ _).mono ?_; rintro e w' ⟨rfl, rfl⟩); go_ret; exact ⟨rfl, rfl⟩
  · have hs' : sizeB s = false := by simpa using hs
    rw [rightB_none hs']
    have k8 : (s == 8) = false := by
      simp only [sizeB, decide_eq_false_iff_not, not_or] at hs'
      simpa using hs'.2.2.2
    clear hs
    have HS := Lib.hid hs'
    clear hs'
    go_enter Tryd.func22, Tryd.ntmps22; go_wp2_with (go_at_call 45; refine (isSize_no _ _ HS.out).mono ?_; rintro e w' ⟨rfl, rfl⟩); go_ret; exact ⟨rfl, rfl⟩

set_option maxHeartbeats 1600000 in
theorem refRight_any (n s : Int) (w : World) :
    Calls Tryd.prog 51 #[.int .i64 n, .int .i64 s] w fun e w' => e = .returned (.bool (rightB n s)) ∧ w = w' := by
  by_cases hs : sizeB s = true
  · rcases size_cases hs with rfl | rfl | rfl | rfl
    · clear hs
      by_cases h0 : 0 ≤ n
      · by_cases h1 : n < 256
        · have e : rightB n 1 = true := by simp [rightB, h0, h1]
          have k0 : decide (0 ≤ n) = true := by simp [h0]
          have k1 : decide (n < 256) = true := by simp [h1]
          rw [e]; clear e h0 h1
          go_enter Tryd.func51, Tryd.ntmps51; go_wp2_with (first | (go_at_call 53; refine (sized_any _ _).mono ?_; rintro e w' ⟨rfl, rfl⟩) | (go_at_call 76; refine (pow1 _).mono ?_; rintro e w' ⟨rfl, rfl⟩)); go_ret; exact ⟨rfl, rfl⟩
        · have e : rightB n 1 = false := by simp [rightB, h1]
          have k0 : decide (0 ≤ n) = true := by simp [h0]
          have k1 : decide (n < 256) = false := by simp; omega
          rw [e]; clear e h0 h1
          go_enter Tryd.func51, Tryd.ntmps51; go_wp2_with (first | (go_at_call 53; refine (sized_any _ _).mono ?_; rintro e w' ⟨rfl, rfl⟩) | (go_at_call 76; refine (pow1 _).mono ?_; rintro e w' ⟨rfl, rfl⟩)); go_ret; exact ⟨rfl, rfl⟩
      · have e : rightB n 1 = false := by simp [rightB, h0]
        have k0 : decide (0 ≤ n) = false := by simp; omega
        rw [e]; clear e h0
        go_enter Tryd.func51, Tryd.ntmps51; go_wp2_with (first | (go_at_call 53; refine (sized_any _ _).mono ?_; rintro e w' ⟨rfl, rfl⟩) | (go_at_call 76; refine (pow1 _).mono ?_; rintro e w' ⟨rfl, rfl⟩)); go_ret; exact ⟨rfl, rfl⟩
    · clear hs
      by_cases h0 : 0 ≤ n
      · by_cases h1 : n < 65536
        · have e : rightB n 2 = true := by simp [rightB, h0, h1]
          have k0 : decide (0 ≤ n) = true := by simp [h0]
          have k1 : decide (n < 65536) = true := by simp [h1]
          rw [e]; clear e h0 h1
          go_enter Tryd.func51, Tryd.ntmps51; go_wp2_with (first | (go_at_call 53; refine (sized_any _ _).mono ?_; rintro e w' ⟨rfl, rfl⟩) | (go_at_call 76; refine (pow2 _).mono ?_; rintro e w' ⟨rfl, rfl⟩)); go_ret; exact ⟨rfl, rfl⟩
        · have e : rightB n 2 = false := by simp [rightB, h1]
          have k0 : decide (0 ≤ n) = true := by simp [h0]
          have k1 : decide (n < 65536) = false := by simp; omega
          rw [e]; clear e h0 h1
          go_enter Tryd.func51, Tryd.ntmps51; go_wp2_with (first | (go_at_call 53; refine (sized_any _ _).mono ?_; rintro e w' ⟨rfl, rfl⟩) | (go_at_call 76; refine (pow2 _).mono ?_; rintro e w' ⟨rfl, rfl⟩)); go_ret; exact ⟨rfl, rfl⟩
      · have e : rightB n 2 = false := by simp [rightB, h0]
        have k0 : decide (0 ≤ n) = false := by simp; omega
        rw [e]; clear e h0
        go_enter Tryd.func51, Tryd.ntmps51; go_wp2_with (first | (go_at_call 53; refine (sized_any _ _).mono ?_; rintro e w' ⟨rfl, rfl⟩) | (go_at_call 76; refine (pow2 _).mono ?_; rintro e w' ⟨rfl, rfl⟩)); go_ret; exact ⟨rfl, rfl⟩
    · clear hs
      by_cases h0 : 0 ≤ n
      · by_cases h1 : n < 4294967296
        · have e : rightB n 4 = true := by simp [rightB, h0, h1]
          have k0 : decide (0 ≤ n) = true := by simp [h0]
          have k1 : decide (n < 4294967296) = true := by simp [h1]
          rw [e]; clear e h0 h1
          go_enter Tryd.func51, Tryd.ntmps51; go_wp2_with (first | (go_at_call 53; refine (sized_any _ _).mono ?_; rintro e w' ⟨rfl, rfl⟩) | (go_at_call 76; refine (pow4 _).mono ?_; rintro e w' ⟨rfl, rfl⟩)); go_ret; exact ⟨rfl, rfl⟩
        · have e : rightB n 4 = false := by simp [rightB, h1]
          have k0 : decide (0 ≤ n) = true := by simp [h0]
          have k1 : decide (n < 4294967296) = false := by simp; omega
          rw [e]; clear e h0 h1
          go_enter Tryd.func51, Tryd.ntmps51; go_wp2_with (first | (go_at_call 53; refine (sized_any _ _).mono ?_; rintro e w' ⟨rfl, rfl⟩) | (go_at_call 76; refine (pow4 _).mono ?_; rintro e w' ⟨rfl, rfl⟩)); go_ret; exact ⟨rfl, rfl⟩
      · have e : rightB n 4 = false := by simp [rightB, h0]
        have k0 : decide (0 ≤ n) = false := by simp; omega
        rw [e]; clear e h0
        go_enter Tryd.func51, Tryd.ntmps51; go_wp2_with (first | (go_at_call 53; refine (sized_any _ _).mono ?_; rintro e w' ⟨rfl, rfl⟩) | (go_at_call 76; refine (pow4 _).mono ?_; rintro e w' ⟨rfl, rfl⟩)); go_ret; exact ⟨rfl, rfl⟩
    · clear hs
      have e : rightB n 8 = true := by simp [rightB]
      rw [e]; clear e
      go_enter Tryd.func51, Tryd.ntmps51; go_wp2_with (first | (go_at_call 53; refine (sized_any _ _).mono ?_; rintro e w' ⟨rfl, rfl⟩) | (go_at_call 76; refine (pow1 _).mono ?_; rintro e w' ⟨rfl, rfl⟩)); go_ret; exact ⟨rfl, rfl⟩
  · have hs' : sizeB s = false := by simpa using hs
    rw [rightB_none hs']
    have k8 : (s == 8) = false := by
      simp only [sizeB, decide_eq_false_iff_not, not_or] at hs'
      simpa using hs'.2.2.2
    clear hs
    have HS := Lib.hid hs'
    clear hs'
    go_enter Tryd.func51, Tryd.ntmps51; go_wp2_with (first | (go_at_call 53; refine (sized_no _ _ HS.out).mono ?_; rintro e w' ⟨rfl, rfl⟩) | (go_at_call 76; refine (pow1 _).mono ?_; rintro e w' ⟨rfl, rfl⟩)); go_ret; exact ⟨rfl, rfl⟩

theorem Right_yes (n s : Int) (w : World) (h : rightB n s = true) : Calls Tryd.prog 22 #[.int .i64 n, .int .i64 s] w fun e w' => e = .returned (.bool true) ∧ w = w' := by
  have := Right_any n s w; rwa [h] at this
theorem Right_no (n s : Int) (w : World) (h : rightB n s = false) : Calls Tryd.prog 22 #[.int .i64 n, .int .i64 s] w fun e w' => e = .returned (.bool false) ∧ w = w' := by
  have := Right_any n s w; rwa [h] at this
theorem refRight_yes (n s : Int) (w : World) (h : rightB n s = true) : Calls Tryd.prog 51 #[.int .i64 n, .int .i64 s] w fun e w' => e = .returned (.bool true) ∧ w = w' := by
  have := refRight_any n s w; rwa [h] at this
theorem refRight_no (n s : Int) (w : World) (h : rightB n s = false) : Calls Tryd.prog 51 #[.int .i64 n, .int .i64 s] w fun e w' => e = .returned (.bool false) ∧ w = w' := by
  have := refRight_any n s w; rwa [h] at this

end Go.Proofs.YtkpmfobmlaldfaaDoor

/-
  Contracts of dir.Per, dir.Need, dir.has and of the plain Need, right: for every depth, length and slot. No condition beyond that numbers are ints.
-/
namespace Go.Proofs.YtkpmfobmlaldfaaDoor
open Go.RowKit
set_option maxRecDepth 100000
set_option linter.unusedVariables false

set_option maxHeartbeats 400000 in
theorem Per_any (w : World) : Calls Tryd.prog 20 #[] w fun e w' => e = .returned (.int .i64 60) ∧ w = w' := by
  go_enter Tryd.func20, Tryd.ntmps20
  go_wp2
  go_ret
  exact ⟨rfl, rfl⟩
/-- A depth, held. -/
def depD (d : Int) : Nat := (min (max d 0) 10).toNat
/-- How many pages a directory takes. -/
def needD (d : Int) : Nat := (2 ^ depD d + 59) / 60
/-- A directory of this depth, with so many pages, has this slot. -/
def okD (d : Int) (k : Nat) (slot : Int) : Bool := decide ((0 ≤ d ∧ d ≤ 10) ∧ (0 ≤ slot ∧ slot < ((2 ^ depD d : Nat) : Int)) ∧ k = needD d)

theorem depD_elim (P : Int → Nat → Prop) (hn : ∀ d, d < 0 → P d 0) (hb : ∀ d, 10 < d → P d 10) (hm : P 0 0 ∧ P 1 1 ∧ P 2 2 ∧ P 3 3 ∧ P 4 4 ∧ P 5 5 ∧ P 6 6 ∧ P 7 7 ∧ P 8 8 ∧ P 9 9 ∧ P 10 10) (d : Int) : P d (depD d) := by
  rcases Int.lt_or_le d 0 with h | h
  · rw [show depD d = 0 by unfold depD; omega]; exact hn d h
  rcases Int.lt_or_le 10 d with h2 | h2
  · rw [show depD d = 10 by unfold depD; omega]; exact hb d h2
  obtain ⟨k, rfl⟩ := Int.eq_ofNat_of_zero_le h
  rw [show depD (k : Int) = k by unfold depD; omega]
  obtain ⟨h0, h1, h2', h3, h4, h5, h6, h7, h8, h9, h10⟩ := hm
  have hk : k ≤ 10 := by omega
  clear h h2
  match k, hk with
  | 0, _ => exact h0
  | 1, _ => exact h1
  | 2, _ => exact h2'
  | 3, _ => exact h3
  | 4, _ => exact h4
  | 5, _ => exact h5
  | 6, _ => exact h6
  | 7, _ => exact h7
  | 8, _ => exact h8
  | 9, _ => exact h9
  | 10, _ => exact h10
theorem shlD {d : Int} (h : 0 ≤ d ∧ d ≤ 10) : wrap64 (2 ^ d.toNat) = ((2 ^ depD d : Nat) : Int) := by
  revert h
  refine depD_elim (fun d q => 0 ≤ d ∧ d ≤ 10 → wrap64 (2 ^ d.toNat) = ((2 ^ q : Nat) : Int)) (fun d h h2 => by omega) (fun d h h2 => by omega) ?_ d
  refine ⟨?_, ?_, ?_, ?_, ?_, ?_, ?_, ?_, ?_, ?_, ?_⟩ <;> (intro _; decide +kernel)
theorem depD_le (d : Int) : depD d ≤ 10 := by unfold depD; omega
theorem powD_le (d : Int) : 1 ≤ 2 ^ depD d ∧ 2 ^ depD d ≤ 1024 :=
  ⟨Nat.two_pow_pos _, Nat.le_trans (Nat.pow_le_pow_right (n := 2) (by decide) (depD_le d)) (by decide)⟩

set_option maxHeartbeats 3200000 in
theorem Need_any (d : Int) (w : World) : Calls Tryd.prog 11 #[.int .i64 d] w fun e w' => e = .returned (.int .i64 ((needD d : Nat) : Int)) ∧ w = w' := by
  unfold needD
  refine depD_elim (fun d q => Calls Tryd.prog 11 #[.int .i64 d] w fun e w' => e = .returned (.int .i64 (((2 ^ q + 59) / 60 : Nat) : Int)) ∧ w = w') (fun d h => ?_) (fun d h => ?_) ⟨?_, ?_, ?_, ?_, ?_, ?_, ?_, ?_, ?_, ?_, ?_⟩ d
  all_goals
    go_enter Tryd.func11, Tryd.ntmps11
    go_wp2_with fail
    all_goals try omega
    all_goals (refine (Per_any _).mono ?_; rintro e w' ⟨rfl, rfl⟩)
    all_goals go_wp2_with fail
    all_goals (refine (Per_any _).mono ?_; rintro e w' ⟨rfl, rfl⟩)
    all_goals go_wp2
    all_goals go_ret
    all_goals exact ⟨rfl, rfl⟩

set_option maxHeartbeats 1600000 in
theorem refNeed_any (d : Int) (w : World) : Calls Tryd.prog 12 #[.int .i64 d] w fun e w' => e = .returned (.int .i64 ((needD d : Nat) : Int)) ∧ w = w' := by
  have hdq : depD d = (min (max d 0) 10).toNat := rfl
  have HR := Lib.hid (show needD d = (2 ^ depD d + 59) / 60 from rfl)
  have hq10 : depD d ≤ 10 := by omega
  generalize needD d = r at HR ⊢
  generalize depD d = q at hdq HR hq10
  go_enter Tryd.func12, Tryd.ntmps12
  go_wp2
  go_loop [3, 4] (fun v i => ∃ k : Nat, k ≤ q ∧ i = .int .i64 k ∧ v = .int .i64 ((2 ^ k : Nat) : Int)) (fun _ i => 10 - (intOf i).toNat)
  case atStart => exact ⟨0, Nat.zero_le _, rfl, rfl⟩
  case round =>
    obtain ⟨k, hk, rfl, rfl⟩ := hrel
    have p1 : 2 ^ k ≤ 1024 := by
      have := Nat.pow_le_pow_right (n := 2) (by decide) (show k ≤ 10 by omega)
      omega
    have hs := Lib.hid (show 2 ^ (k + 1) = 2 ^ k * 2 from Nat.pow_succ ..)
    by_cases hlt : k < q
    · have h1 : (k : Int) < d := by omega
      have h2 : (k : Int) < 10 := by omega
      clear hdq
      generalize 2 ^ k = m at p1 hs ⊢
      go_wp2
      go_round
      case rel => exact ⟨k + 1, by omega, by go_num, by rw [hs.out]; first | rfl | simp⟩
      case measure => simp [intOf]; omega
    · obtain rfl : k = q := by omega
      clear hs
      generalize 2 ^ k = m at p1 HR ⊢
      have hr : r = (m + 59) / 60 := HR.out
      rcases Int.lt_or_le k d with hd3 | hd2
      · have hd2 : ¬ (k : Int) < 10 := by omega
        clear hdq hr
        go_wp2
        go_ret
        rw [HR.out]
        exact ⟨rfl, rfl⟩
      · clear hdq hr
        go_wp2
        go_ret
        rw [HR.out]
        exact ⟨rfl, rfl⟩
end Go.Proofs.YtkpmfobmlaldfaaDoor

/-
  Words for a slice of ints as it lies in memory; what keeps it. Plain facts; no condition beyond what each says.
-/
namespace Go.Proofs.YtkpmfobmlaldfaaDoor
open Go.RowKit
set_option maxRecDepth 100000
set_option linter.unusedVariables false

/-- The slice at A of n ints reads as the list l in w, and lies below block B. -/
def RI (w : World) (B : Nat) (A : Option Addr) (n : Nat) (l : List Int) : Prop :=
  l.length = n ∧ (∀ x ∈ l, -9223372036854775808 ≤ x ∧ x ≤ 9223372036854775807) ∧ (0 < n → ∃ b off, A = some ⟨b, off, none⟩ ∧ b < B ∧ ∀ j, j < n → w.cell? ⟨b, off + j, none⟩ = some (.int .i64 (l[j]?.getD 0)))

theorem RI.nil_ {w : World} {B : Nat} {A : Option Addr} : RI w B A 0 [] := ⟨rfl, (fun _ h => by cases h), fun h => absurd h (by omega)⟩
theorem RI.len {w : World} {B n : Nat} {A : Option Addr} {l : List Int} (h : RI w B A n l) : l.length = n := h.1
theorem RI.keep {w w' : World} {B n : Nat} {A : Option Addr} {l : List Int} (h : RI w B A n l) (hk : ∀ b o, b < B → w'.cell? ⟨b, o, none⟩ = w.cell? ⟨b, o, none⟩) : RI w' B A n l :=
  ⟨h.1, h.2.1, fun hn => by
    obtain ⟨b, off, e, hb, hc⟩ := h.2.2 hn
    exact ⟨b, off, e, hb, fun j hj => (hk _ _ hb).trans (hc j hj)⟩⟩
theorem RI.below {w w' : World} {B n : Nat} {A : Option Addr} {l : List Int} (h : RI w B A n l) (hb : Below B w w') : RI w' B A n l := h.keep fun b o hp => hb.cell (p := ⟨b, o, none⟩) hp
theorem RI.more {w : World} {B B' n : Nat} {A : Option Addr} {l : List Int} (h : RI w B A n l) (hB : B ≤ B') : RI w B' A n l :=
  ⟨h.1, h.2.1, fun hn => by
    obtain ⟨b, off, e, hb, hc⟩ := h.2.2 hn
    exact ⟨b, off, e, by omega, hc⟩⟩
theorem int_bounds {n : Int} (h : (Lit.int .i64 n).wf = true) : -9223372036854775808 ≤ n ∧ n ≤ 9223372036854775807 := by
  simp [Lit.wf, IntKind.min, IntKind.max, IntKind.signed, IntKind.bits] at h
  omega
theorem byte_bounds {n : Int} (h : (Lit.int .u8 n).wf = true) : 0 ≤ n ∧ n < 256 := by
  simp [Lit.wf, IntKind.min, IntKind.max, IntKind.signed, IntKind.bits] at h
  omega
theorem add_none (b off j : Nat) : Addr.add ⟨b, off, none⟩ j = ⟨b, off + j, none⟩ := by unfold Addr.add; split <;> simp_all

/-- A slice of ints as the statements open it. -/
theorem RI.of_cells {w : World} {x : Addr} {len cap : Nat} {zs : List Int} (hl : len ≤ cap) (hz : zs.length = cap) (hcell : ∀ i, i < zs.length → w.cell? (x.add i) = some (.int .i64 (zs.getD i 0))) (hw : ∀ n ∈ zs, (Lit.int .i64 n).wf = true) : RI w w.heap.size (some x) len (zs.take len) := by
  refine ⟨by simp; omega, fun y hy => int_bounds (hw y (List.mem_of_mem_take hy)), fun hn => ?_⟩
  obtain ⟨b, off, spot⟩ := x
  have hc := hcell 0 (by omega)
  have hspot : spot = none := by simpa [Addr.add] using World.cell?_spot hc
  subst hspot
  refine ⟨b, off, rfl, ?_, fun j hj => ?_⟩
  · rw [add_none] at hc
    exact World.block_lt_of_cell? _ _ hc
  · have := hcell j (by omega)
    have e : (zs.take len)[j]?.getD 0 = zs.getD j 0 := by simp [hj]
    rw [e, ← add_none]
    exact this

/-- n times the same byte. -/
def reps (n : Nat) (c : Int) : List Int := List.replicate n c
theorem reps_length (n : Nat) (c : Int) : (reps n c).length = n := List.length_replicate ..
theorem reps_bytes (n : Nat) {c : Int} (h : 0 ≤ c ∧ c < 256) : AllBytes (reps n c) := fun x hx => by
  obtain rfl := (List.mem_replicate.1 hx).2
  exact h
theorem reps_getD {n : Nat} {c : Int} {j : Nat} (h : j < n) : (reps n c)[j]?.getD 0 = c := by simp [reps, h]

theorem size_u8' : (Tryd.prog.info? 5).map (·.size) = some 1 := by kernel_rfl

end Go.Proofs.YtkpmfobmlaldfaaDoor

/-
  Plain: what a disk is and what each of its calls makes of it, as the document says. No program.
-/
namespace Go.Proofs.YtkpmfobmlaldfaaDoor
open Go.RowKit
set_option maxRecDepth 100000
set_option linter.unusedVariables false

/-- A disk: sectors; what is safe, and what was written last; which were written since, in order; its fuse; whether it is down; how many writes were done. -/
structure DS where
  n : Nat
  safe : Nat → List Int
  last : Nat → List Int
  pend : List Nat
  arm : Option Nat
  down : Bool
  writes : Nat

/-- A sector of noughts. -/
def nought : List Int := List.replicate 256 0
def DS.new (n : Nat) : DS := ⟨n, fun _ => nought, fun _ => nought, [], none, false, 0⟩

/-- What holds of every disk. -/
structure DS.Ok (S : DS) : Prop where
  size : 3 ≤ S.n ∧ S.n ≤ 65536
  safeBytes : ∀ i, (S.safe i).length = 256 ∧ AllBytes (S.safe i)
  lastBytes : ∀ i, (S.last i).length = 256 ∧ AllBytes (S.last i)
  pendLt : ∀ i ∈ S.pend, i < S.n
  pendNodup : S.pend.Nodup
  same : ∀ i, i ∉ S.pend → S.last i = S.safe i

def DS.has (S : DS) (i : Int) : Prop := 0 ≤ i ∧ i < S.n
instance (S : DS) (i : Int) : Decidable (S.has i) := by unfold DS.has; infer_instance

def DS.readE (S : DS) (i : Int) : Int := if S.down = true then 5 else if S.has i then 0 else 1
def DS.readL (S : DS) (i : Int) : List Int := if S.readE i = 0 then S.last i.toNat else []
def DS.put (S : DS) (i : Nat) (l : List Int) : DS :=
  { S with last := fun j => if j = i then l else S.last j, pend := if i ∈ S.pend then S.pend else S.pend ++ [i], arm := S.arm.map (· - 1), writes := S.writes + 1 }
def DS.writeE (S : DS) (i : Int) (l : List Int) : Int := if S.down = true then 5 else if ¬ (S.has i ∧ l.length = 256) then 1 else if S.arm = some 0 then 5 else 0
def DS.write (S : DS) (i : Int) (l : List Int) : DS :=
  if S.down = true then S else if ¬ (S.has i ∧ l.length = 256) then S else if S.arm = some 0 then { S with down := true } else S.put i.toNat l
def DS.flushE (S : DS) : Int := if S.down = true then 5 else 0
def DS.flush (S : DS) : DS := if S.down = true then S else { S with safe := S.last, pend := [] }
def DS.fuse (S : DS) (k : Int) : DS := { S with arm := if k < 0 then none else some k.toNat }
/-- Whether what was written to a sector is kept. -/
def DS.kept (S : DS) (keep : List Int) (i : Nat) : Prop := ∃ at_ : Nat, S.pend[at_]? = some i ∧ (at_ : Int) ∈ keep
open Classical in
noncomputable def DS.crash (S : DS) (keep : List Int) : DS :=
  { S with safe := fun i => if S.kept keep i then S.last i else S.safe i, last := fun i => if S.kept keep i then S.last i else S.safe i, pend := [], arm := none, down := false }
def DS.pending (S : DS) : List Int := S.pend.map Int.ofNat

theorem nought_ok : nought.length = 256 ∧ AllBytes nought := ⟨List.length_replicate .., fun x hx => by
  obtain rfl := (List.mem_replicate.1 hx).2
  decide⟩
theorem DS.new_ok {n : Nat} (h : 3 ≤ n ∧ n ≤ 65536) : (DS.new n).Ok := ⟨h, fun _ => nought_ok, fun _ => nought_ok, (fun _ h => by cases h), List.nodup_nil, fun _ _ => rfl⟩
theorem DS.put_ok {S : DS} (h : S.Ok) {i : Nat} {l : List Int} (hi : i < S.n) (hl : l.length = 256 ∧ AllBytes l) : (S.put i l).Ok := by
  refine ⟨h.size, h.safeBytes, fun j => ?_, fun j hj => ?_, ?_, fun j hj => ?_⟩
  · show (if j = i then l else S.last j).length = 256 ∧ AllBytes (if j = i then l else S.last j)
    split
    · exact hl
    · exact h.lastBytes j
  · have hj' : j ∈ (if i ∈ S.pend then S.pend else S.pend ++ [i]) := hj
    split at hj'
    · exact h.pendLt j hj'
    · rcases List.mem_append.1 hj' with a | a
      · exact h.pendLt j a
      · obtain rfl := List.mem_singleton.1 a
        exact hi
  · show (if i ∈ S.pend then S.pend else S.pend ++ [i]).Nodup
    split
    · exact h.pendNodup
    · rename_i hn
      refine List.nodup_append.2 ⟨h.pendNodup, by simp, fun a ha b hb => ?_⟩
      obtain rfl := List.mem_singleton.1 hb
      intro e
      subst e
      exact hn ha
  · have hj' : j ∉ (if i ∈ S.pend then S.pend else S.pend ++ [i]) := hj
    have hne : j ≠ i := by
      rintro rfl
      split at hj'
      · rename_i hm; exact hj' hm
      · exact hj' (by simp)
    have hjp : j ∉ S.pend := by
      split at hj'
      · exact hj'
      · intro hm; exact hj' (by simp [hm])
    show (if j = i then l else S.last j) = S.safe j
    rw [if_neg hne]
    exact h.same j hjp
theorem DS.write_ok {S : DS} (h : S.Ok) {i : Int} {l : List Int} (hl : AllBytes l) : (S.write i l).Ok := by
  unfold DS.write
  split
  · exact h
  split
  · exact h
  rename_i hn
  have hn' : S.has i ∧ l.length = 256 := by
    by_cases e : S.has i ∧ l.length = 256
    · exact e
    · exact absurd e hn
  split
  · exact ⟨h.size, h.safeBytes, h.lastBytes, h.pendLt, h.pendNodup, h.same⟩
  · exact DS.put_ok h (by have := hn'.1; unfold DS.has at this; omega) ⟨hn'.2, hl⟩
theorem DS.flush_ok {S : DS} (h : S.Ok) : S.flush.Ok := by
  unfold DS.flush
  split
  · exact h
  · exact ⟨h.size, h.lastBytes, h.lastBytes, (fun _ hm => by cases hm), List.nodup_nil, fun _ _ => rfl⟩
theorem DS.fuse_ok {S : DS} (h : S.Ok) (k : Int) : (S.fuse k).Ok := ⟨h.size, h.safeBytes, h.lastBytes, h.pendLt, h.pendNodup, h.same⟩
open Classical in
theorem DS.crash_ok {S : DS} (h : S.Ok) (keep : List Int) : (S.crash keep).Ok := by
  have each : ∀ i, ((S.crash keep).safe i).length = 256 ∧ AllBytes ((S.crash keep).safe i) := by
    intro i
    unfold DS.crash
    show (if S.kept keep i then S.last i else S.safe i).length = 256 ∧ AllBytes (if S.kept keep i then S.last i else S.safe i)
    split
    · exact h.lastBytes i
    · exact h.safeBytes i
  exact ⟨h.size, each, each, (fun _ hm => by cases hm), List.nodup_nil, fun _ _ => rfl⟩

/-! What changes when an object is worked on: its own blocks, and new ones. -/
/-- w' is w with new blocks, and with writes to blocks of F alone. -/
structure Touch (F : Nat → Prop) (w w' : World) : Prop where
  os : w'.os = w.os
  tape : w'.tape = w.tape
  output : w'.output = w.output
  size : w.heap.size ≤ w'.heap.size
  block : ∀ k, k < w.heap.size → ¬ F k → w'.heap[k]? = w.heap[k]?

theorem Touch.refl (F : Nat → Prop) (w : World) : Touch F w w := ⟨rfl, rfl, rfl, Nat.le_refl _, fun _ _ _ => rfl⟩
theorem Touch.below {F : Nat → Prop} {B : Nat} {w w' : World} (h : Touch F w w') (hF : ∀ k, F k → B ≤ k) (hB : B ≤ w.heap.size) : Below B w w' :=
  ⟨h.os, h.tape, h.output, h.size, fun k hk => h.block k (by omega) (fun hf => by have := hF k hf; omega)⟩
theorem Touch.of_below {F : Nat → Prop} {w w' : World} (h : Below w.heap.size w w') : Touch F w w' := ⟨h.os, h.tape, h.output, h.size, fun k hk _ => h.block k hk⟩

theorem nodup_lt : ∀ (N : Nat) (l : List Nat), l.Nodup → (∀ x ∈ l, x < N) → l.length ≤ N := by
  intro N
  induction N with
  | zero =>
    intro l _ h
    cases l with
    | nil => exact Nat.le_refl _
    | cons a l => exact absurd (h a (by simp)) (by omega)
  | succ N ih =>
    intro l hn h
    by_cases hm : N ∈ l
    · have h1 := ih (l.erase N) (hn.erase N) (fun x hx => by
        have := h x (List.mem_of_mem_erase hx)
        have hne : x ≠ N := fun e => by subst e; exact (List.Nodup.not_mem_erase hn) hx
        omega)
      have h2 := List.length_erase_of_mem hm
      omega
    · have := ih l hn (fun x hx => by
        have := h x hx
        have hne : x ≠ N := fun e => by subst e; exact hm hx
        omega)
      omega

/-- What a call that changes a disk leaves of a slice of ints that lies apart. -/
theorem RI.touch {w w' : World} {B n : Nat} {A : Option Addr} {l : List Int} {F : Nat → Prop} (h : RI w B A n l) (ht : Touch F w w') (hB : B ≤ w.heap.size) (hA : 0 < n → ∀ a, A = some a → ¬ F a.block) : RI w' B A n l :=
  ⟨h.1, h.2.1, fun hn => by
    obtain ⟨b, off, e, hb, hc⟩ := h.2.2 hn
    refine ⟨b, off, e, hb, fun j hj => ?_⟩
    rw [World.cell?_of_block (w := w) (ht.block b (by omega) (hA hn _ e))]
    exact hc j hj⟩

end Go.Proofs.YtkpmfobmlaldfaaDoor

/-
  Plain arithmetic of numbers as bytes, the highest first: what some bytes are as a number, what bytes a number has, and that the one undoes the other. No program, no condition.
-/
namespace Go.Proofs.YtkpmfobmlaldfaaDoor
open Go.RowKit
set_option maxRecDepth 100000

/-- One byte more behind a number. -/
def stepN (n c : Int) : Int := bits .or .i64 (wrap64 (n * 256)) c
/-- The number of some bytes. -/
def numOf (l : List Int) : Int := l.foldl stepN 0
/-- The same, not wrapped. -/
def beOf (l : List Int) : Int := l.foldl (fun n c => n * 256 + c) 0
/-- The last k bytes of a number, the highest first. -/
def putB (n : Int) : Nat → List Int | 0 => [] | k + 1 => putB (n / 256) k ++ [n % 256]

theorem numOf_snoc (l : List Int) (x : Int) : numOf (l ++ [x]) = stepN (numOf l) x := by simp [numOf]
theorem beOf_snoc (l : List Int) (x : Int) : beOf (l ++ [x]) = beOf l * 256 + x := by simp [beOf]
theorem numOf_step (l : List Int) (a k : Nat) (h : a + k < l.length) : numOf ((l.drop a).take (k + 1)) = stepN (numOf ((l.drop a).take k)) (l[a + k]?.getD 0) := by
  have e : (l.drop a).take (k + 1) = (l.drop a).take k ++ [l[a + k]?.getD 0] := by
    rw [List.take_succ_eq_append_getElem (by simp; omega)]
    simp [List.getElem?_eq_getElem h]
  rw [e, numOf_snoc]

theorem bits_or_nat64 (x y : Int) : bits .or .i64 x y = wrap64 (((x % 18446744073709551616).toNat ||| (y % 18446744073709551616).toNat : Nat) : Int) := by
  have e : ∀ z : Int, IntKind.i64.wrap z = wrap64 z := fun z => by rw [IntKind.wrap_i64]; first | rfl | (unfold wrap64; rfl) | unfold wrap64
  simp only [bits]
  rw [e, BitVec.toNat_or, BitVec.toNat_ofInt, BitVec.toNat_ofInt]
  rfl

theorem stepN_eq (n c : Int) (h0 : 0 ≤ c) (h1 : c < 256) : stepN n c = wrap64 (n * 256 + c) := by
  unfold stepN
  rw [bits_or_nat64]
  obtain ⟨q, hq⟩ : ∃ q : Nat, (wrap64 (n * 256) % 18446744073709551616).toNat = 256 * q := by
    refine ⟨(wrap64 (n * 256) % 18446744073709551616).toNat / 256, ?_⟩
    unfold wrap64
    omega
  obtain ⟨d, rfl⟩ := Int.eq_ofNat_of_zero_le h0
  have hd : ((d : Int) % 18446744073709551616).toNat = d := by omega
  rw [hq, hd]
  have hor : 256 * q ||| d = 256 * q + d := (Nat.two_pow_add_eq_or_of_lt (i := 8) (by omega) q).symm
  rw [hor]
  unfold wrap64 at hq ⊢
  omega

theorem numOf_eq (l : List Int) (h : ∀ x ∈ l, 0 ≤ x ∧ x < 256) : numOf l = wrap64 (beOf l) := by
  suffices H : ∀ k, k ≤ l.length → numOf (l.take k) = wrap64 (beOf (l.take k)) by
    have := H l.length (Nat.le_refl _); rwa [List.take_length] at this
  intro k
  induction k with
  | zero => intro _; simp [numOf, beOf, wrap64]
  | succ k ih =>
    intro hk
    rw [List.take_succ_eq_append_getElem (by omega), numOf_snoc, beOf_snoc, ih (by omega)]
    obtain ⟨a, b⟩ := h _ (List.getElem_mem (by omega : k < l.length))
    rw [stepN_eq _ _ a b]
    generalize beOf (List.take k l) = z
    unfold wrap64
    omega

theorem putB_length (n : Int) (k : Nat) : (putB n k).length = k := by
  induction k generalizing n with
  | zero => rfl
  | succ k ih => simp [putB, ih]
theorem putB_bytes (n : Int) (k : Nat) : ∀ x ∈ putB n k, 0 ≤ x ∧ x < 256 := by
  induction k generalizing n with
  | zero => intro x hx; cases hx
  | succ k ih =>
    intro x hx
    simp only [putB, List.mem_append, List.mem_singleton] at hx
    rcases hx with h | h
    · exact ih _ x h
    · subst h; omega
theorem beOf_putB (n : Int) (k : Nat) : beOf (putB n k) = n % 256 ^ k := by
  induction k generalizing n with
  | zero => simp [putB, beOf]
  | succ k ih =>
    rw [putB, beOf_snoc, ih, Int.pow_succ]
    have h1 := Int.emod_add_mul_ediv n 256
    have h2 := Int.emod_add_mul_ediv (n / 256) (256 ^ k)
    have hp : (0 : Int) < 256 ^ k := Int.pow_pos (by decide)
    have h3 : 0 ≤ n / 256 % 256 ^ k := Int.emod_nonneg _ (by omega)
    have h4 : n / 256 % 256 ^ k < 256 ^ k := Int.emod_lt_of_pos _ hp
    have h5 : n = (n / 256 % 256 ^ k * 256 + n % 256) + (256 ^ k * 256) * (n / 256 / 256 ^ k) := by
      have : 256 ^ k * 256 * (n / 256 / 256 ^ k) = 256 * (256 ^ k * (n / 256 / 256 ^ k)) := by
        rw [Int.mul_comm (256 ^ k) 256, Int.mul_assoc]
      rw [this]; omega
    have h6 : (n / 256 % 256 ^ k * 256 + n % 256) % (256 ^ k * 256) = n / 256 % 256 ^ k * 256 + n % 256 :=
      Int.emod_eq_of_lt (by omega) (by omega)
    rw [← h6]
    conv => rhs; rw [h5]
    rw [Int.add_mul_emod_self_left]

/-- n shifted j bytes down. -/
def shN (n : Int) : Nat → Int | 0 => n | j + 1 => shN n j / 256
theorem shN_front (n : Int) (j : Nat) : shN n (j + 1) = shN (n / 256) j := by
  induction j with
  | zero => rfl
  | succ j ih => rw [shN, ih]; rfl
theorem putB_front (n : Int) (j : Nat) : putB n (j + 1) = (shN n j % 256) :: putB n j := by
  induction j generalizing n with
  | zero => simp [putB, shN]
  | succ j ih =>
    rw [putB, ih, shN_front]
    conv => rhs; rw [putB]
    simp
theorem shN_bounds (n : Int) (h0 : -9223372036854775808 ≤ n) (h1 : n ≤ 9223372036854775807) (j : Nat) : -9223372036854775808 ≤ shN n j ∧ shN n j ≤ 9223372036854775807 := by
  induction j with
  | zero => exact ⟨h0, h1⟩
  | succ j ih => rw [shN]; omega

end Go.Proofs.YtkpmfobmlaldfaaDoor

/-
  Contracts of num.Get and of the plain Get: for any slice of bytes, any place and any size they answer the number of these bytes, or which refusal; nothing is written. Conditions: what every call has (lengths of slices are ints).
-/
namespace Go.Proofs.YtkpmfobmlaldfaaDoor
open Go.RowKit
set_option maxRecDepth 100000
set_option linter.unusedVariables false

/-- What Get answers: the number, and which refusal. -/
def getR (l : List Int) (a s : Int) : Int × Int :=
  if sizeB s = true ∧ 0 ≤ a then (if a > (l.length : Int) - s then (0, 3) else (numOf ((l.drop a.toNat).take s.toNat), 0)) else (0, 1)


set_option maxHeartbeats 400000 in
theorem Get_ok (A : Option Addr) (n c B : Nat) (l : List Int) (at_ : Nat) (size : Nat) (w : World) (hr : RB w B A n l) (hc : n ≤ c) (hm : n ≤ maxLen) (hs : sizeB (size : Int) = true) (hat : at_ + size ≤ n) :
    Calls Tryd.prog 31 #[.slice A n c, .int .i64 (at_ : Int), .int .i64 (size : Int)] w fun e w' => e = .returned (.tuple #[.int .i64 (numOf ((l.drop at_).take size)), .int .i64 0]) ∧ w = w' := by
  unfold maxLen at hm
  have hsz : 1 ≤ size ∧ size ≤ 8 := by rcases size_cases hs with h | h | h | h <;> omega
  obtain ⟨hsz1, hsz8⟩ := hsz
  obtain ⟨b, off, rfl, hb, hcell⟩ := hr.at_ (by omega)
  have HC := Lib.hid hcell
  have HS := Lib.hid hs
  clear hcell hs
  have k1 : decide ((at_ : Int) < 0) = false := by simp
  have k2 : decide ((at_ : Int) > (n : Int) - size) = false := by simp; omega
  go_enter Tryd.func31, Tryd.ntmps31
  go_wp2_with (go_at_call 45; refine (isSize_yes _ _ HS.out).mono ?_; rintro e w' ⟨rfl, rfl⟩)
  go_loop [8, 31] (fun x i => ∃ k : Nat, k ≤ size ∧ i = .int .i64 k ∧ x = .int .i64 (numOf ((l.drop at_).take k))) (fun _ i => size - (intOf i).toNat)
  case atStart => exact ⟨0, Nat.zero_le _, rfl, rfl⟩
  case round =>
    obtain ⟨k, hk, rfl, rfl⟩ := hrel
    by_cases hlt : k < size
    · have hcell : w.cell? ⟨b, off + at_ + k, none⟩ = some (.int .u8 (l[at_ + k]?.getD 0)) := by rw [Nat.add_assoc]; exact HC.out (at_ + k) (by omega)
      have hbd := hr.bytes.getD (at_ + k)
      obtain ⟨hb0, hb1⟩ := hbd
      have hst := Lib.hid (numOf_step l at_ k (by have := hr.len; omega))
      have hbig : k < at_ + size - at_ := by omega
      go_wp2
      go_round
      case rel => exact ⟨k + 1, by omega, by go_num, by rw [hst.out]; rfl⟩
      case measure => simp [intOf]; omega
    · have hnlt : ¬ (k < size) := hlt
      go_wp2
      go_ret2
      obtain rfl : k = size := by omega
      exact ⟨rfl, rfl⟩

set_option maxHeartbeats 400000 in
theorem Get_short (A : Option Addr) (n c : Nat) (at_ s : Int) (w : World) (hm : n ≤ maxLen) (hs : sizeB s = true) (ha : 0 ≤ at_) (hat : at_ > (n : Int) - s) :
    Calls Tryd.prog 31 #[.slice A n c, .int .i64 at_, .int .i64 s] w fun e w' => e = .returned (.tuple #[.int .i64 0, .int .i64 3]) ∧ w = w' := by
  unfold maxLen at hm
  have hsz : 1 ≤ s ∧ s ≤ 8 := by rcases size_cases hs with h | h | h | h <;> omega
  obtain ⟨hsz1, hsz8⟩ := hsz
  have HS := Lib.hid hs
  have k1 : decide (at_ < 0) = false := by simp; omega
  have k2 : decide (at_ > (n : Int) - s) = true := by simp; omega
  clear hs hat
  go_enter Tryd.func31, Tryd.ntmps31
  go_wp2_with (go_at_call 45; refine (isSize_yes _ _ HS.out).mono ?_; rintro e w' ⟨rfl, rfl⟩)
  go_ret2
  exact ⟨rfl, rfl⟩

set_option maxHeartbeats 400000 in
theorem Get_arg (A : Option Addr) (n c : Nat) (at_ s : Int) (w : World) (h : sizeB s = false ∨ at_ < 0) :
    Calls Tryd.prog 31 #[.slice A n c, .int .i64 at_, .int .i64 s] w fun e w' => e = .returned (.tuple #[.int .i64 0, .int .i64 1]) ∧ w = w' := by
  by_cases hs : sizeB s = true
  · have ha : at_ < 0 := by
      rcases h with h | h
      · rw [hs] at h; cases h
      · exact h
    have k1 : decide (at_ < 0) = true := by simp [ha]
    have HS := Lib.hid hs
    clear hs h ha
    go_enter Tryd.func31, Tryd.ntmps31
    go_wp2_with (go_at_call 45; refine (isSize_yes _ _ HS.out).mono ?_; rintro e w' ⟨rfl, rfl⟩)
    go_ret2
    exact ⟨rfl, rfl⟩
  · have hs' : sizeB s = false := by simpa using hs
    have HS := Lib.hid hs'
    clear hs hs' h
    go_enter Tryd.func31, Tryd.ntmps31
    go_wp2_with (go_at_call 45; refine (isSize_no _ _ HS.out).mono ?_; rintro e w' ⟨rfl, rfl⟩)
    go_ret2
    exact ⟨rfl, rfl⟩

theorem Get_any (A : Option Addr) (n c B : Nat) (l : List Int) (at_ s : Int) (w : World) (hr : RB w B A n l) (hc : n ≤ c) (hm : n ≤ maxLen) :
    Calls Tryd.prog 31 #[.slice A n c, .int .i64 at_, .int .i64 s] w fun e w' => e = .returned (.tuple #[.int .i64 (getR l at_ s).1, .int .i64 (getR l at_ s).2]) ∧ w = w' := by
  unfold getR
  by_cases hs : sizeB s = true ∧ 0 ≤ at_
  · rw [if_pos hs]
    obtain ⟨h1, h2⟩ := hs
    rw [hr.len]
    by_cases hat : at_ > (n : Int) - s
    · rw [if_pos hat]
      exact Get_short A n c at_ s w hm h1 h2 hat
    · rw [if_neg hat]
      obtain ⟨a, rfl⟩ := Int.eq_ofNat_of_zero_le h2
      obtain ⟨z, rfl⟩ := Int.eq_ofNat_of_zero_le (show 0 ≤ s by rcases size_cases h1 with h | h | h | h <;> omega)
      exact Get_ok A n c B l a z w hr hc hm h1 (by omega)
  · rw [if_neg hs]
    refine Get_arg A n c at_ s w ?_
    by_cases h1 : sizeB s = true
    · right
      by_cases h2 : 0 ≤ at_
      · exact absurd ⟨h1, h2⟩ hs
      · omega
    · left; simpa using h1

set_option maxHeartbeats 400000 in
theorem refGet_ok (A : Option Addr) (n c B : Nat) (l : List Int) (at_ : Nat) (size : Nat) (w : World) (hr : RB w B A n l) (hc : n ≤ c) (hm : n ≤ maxLen) (hs : sizeB (size : Int) = true) (hat : at_ + size ≤ n) :
    Calls Tryd.prog 32 #[.slice A n c, .int .i64 (at_ : Int), .int .i64 (size : Int)] w fun e w' => e = .returned (.tuple #[.int .i64 (numOf ((l.drop at_).take size)), .int .i64 0]) ∧ w = w' := by
  unfold maxLen at hm
  have hsz : 1 ≤ size ∧ size ≤ 8 := by rcases size_cases hs with h | h | h | h <;> omega
  obtain ⟨hsz1, hsz8⟩ := hsz
  obtain ⟨b, off, rfl, hb, hcell⟩ := hr.at_ (by omega)
  have HC := Lib.hid hcell
  have HS := Lib.hid hs
  clear hcell hs
  have k1 : decide ((at_ : Int) < 0) = false := by simp
  have k2 : decide ((at_ : Int) > (n : Int) - size) = false := by simp; omega
  go_enter Tryd.func32, Tryd.ntmps32
  go_wp2_with (go_at_call 53; refine (sized_yes _ _ HS.out).mono ?_; rintro e w' ⟨rfl, rfl⟩)
  go_loop [8, 9] (fun x i => ∃ k : Nat, k ≤ size ∧ i = .int .i64 k ∧ x = .int .i64 (numOf ((l.drop at_).take k))) (fun _ i => size - (intOf i).toNat)
  case atStart => exact ⟨0, Nat.zero_le _, rfl, rfl⟩
  case round =>
    obtain ⟨k, hk, rfl, rfl⟩ := hrel
    by_cases hlt : k < size
    · have hcell : w.cell? ⟨b, off + (at_ + k), none⟩ = some (.int .u8 (l[at_ + k]?.getD 0)) := by exact HC.out (at_ + k) (by omega)
      have hbd := hr.bytes.getD (at_ + k)
      obtain ⟨hb0, hb1⟩ := hbd
      have hst := Lib.hid (numOf_step l at_ k (by have := hr.len; omega))
      have hbig : at_ + k < n := by omega
      go_wp2
      go_round
      case rel => exact ⟨k + 1, by omega, by go_num, by rw [hst.out]; rfl⟩
      case measure => simp [intOf]; omega
    · have hnlt : ¬ (k < size) := hlt
      go_wp2
      go_ret2
      obtain rfl : k = size := by omega
      exact ⟨rfl, rfl⟩

set_option maxHeartbeats 400000 in
theorem refGet_short (A : Option Addr) (n c : Nat) (at_ s : Int) (w : World) (hm : n ≤ maxLen) (hs : sizeB s = true) (ha : 0 ≤ at_) (hat : at_ > (n : Int) - s) :
    Calls Tryd.prog 32 #[.slice A n c, .int .i64 at_, .int .i64 s] w fun e w' => e = .returned (.tuple #[.int .i64 0, .int .i64 3]) ∧ w = w' := by
  unfold maxLen at hm
  have hsz : 1 ≤ s ∧ s ≤ 8 := by rcases size_cases hs with h | h | h | h <;> omega
  obtain ⟨hsz1, hsz8⟩ := hsz
  have HS := Lib.hid hs
  have k1 : decide (at_ < 0) = false := by simp; omega
  have k2 : decide (at_ > (n : Int) - s) = true := by simp; omega
  clear hs hat
  go_enter Tryd.func32, Tryd.ntmps32
  go_wp2_with (go_at_call 53; refine (sized_yes _ _ HS.out).mono ?_; rintro e w' ⟨rfl, rfl⟩)
  go_ret2
  exact ⟨rfl, rfl⟩

set_option maxHeartbeats 400000 in
theorem refGet_arg (A : Option Addr) (n c : Nat) (at_ s : Int) (w : World) (h : sizeB s = false ∨ at_ < 0) :
    Calls Tryd.prog 32 #[.slice A n c, .int .i64 at_, .int .i64 s] w fun e w' => e = .returned (.tuple #[.int .i64 0, .int .i64 1]) ∧ w = w' := by
  by_cases hs : sizeB s = true
  · have ha : at_ < 0 := by
      rcases h with h | h
      · rw [hs] at h; cases h
      · exact h
    have k1 : decide (at_ < 0) = true := by simp [ha]
    have HS := Lib.hid hs
    clear hs h ha
    go_enter Tryd.func32, Tryd.ntmps32
    go_wp2_with (go_at_call 53; refine (sized_yes _ _ HS.out).mono ?_; rintro e w' ⟨rfl, rfl⟩)
    go_ret2
    exact ⟨rfl, rfl⟩
  · have hs' : sizeB s = false := by simpa using hs
    have HS := Lib.hid hs'
    clear hs hs' h
    go_enter Tryd.func32, Tryd.ntmps32
    go_wp2_with (go_at_call 53; refine (sized_no _ _ HS.out).mono ?_; rintro e w' ⟨rfl, rfl⟩)
    go_ret2
    exact ⟨rfl, rfl⟩

theorem refGet_any (A : Option Addr) (n c B : Nat) (l : List Int) (at_ s : Int) (w : World) (hr : RB w B A n l) (hc : n ≤ c) (hm : n ≤ maxLen) :
    Calls Tryd.prog 32 #[.slice A n c, .int .i64 at_, .int .i64 s] w fun e w' => e = .returned (.tuple #[.int .i64 (getR l at_ s).1, .int .i64 (getR l at_ s).2]) ∧ w = w' := by
  unfold getR
  by_cases hs : sizeB s = true ∧ 0 ≤ at_
  · rw [if_pos hs]
    obtain ⟨h1, h2⟩ := hs
    rw [hr.len]
    by_cases hat : at_ > (n : Int) - s
    · rw [if_pos hat]
      exact refGet_short A n c at_ s w hm h1 h2 hat
    · rw [if_neg hat]
      obtain ⟨a, rfl⟩ := Int.eq_ofNat_of_zero_le h2
      obtain ⟨z, rfl⟩ := Int.eq_ofNat_of_zero_le (show 0 ≤ s by rcases size_cases h1 with h | h | h | h <;> omega)
      exact refGet_ok A n c B l a z w hr hc hm h1 (by omega)
  · rw [if_neg hs]
    refine refGet_arg A n c at_ s w ?_
    by_cases h1 : sizeB s = true
    · right
      by_cases h2 : 0 ≤ at_
      · exact absurd ⟨h1, h2⟩ hs
      · omega
    · left; simpa using h1

end Go.Proofs.YtkpmfobmlaldfaaDoor

/-
  append of a slice of bytes (nil, empty or not) onto a row of the call's own, for the walk; what such a row is good for. Condition: fewer than 2^47 bytes in all.
-/
namespace Go.Proofs.YtkpmfobmlaldfaaDoor
open Go.RowKit
set_option maxRecDepth 100000
set_option linter.unusedVariables false

theorem info_u8 : (Tryd.prog.info? 5).map (fun i => (i.zero, i.size, i.bytes)) = some (some (.int .u8 0), 1, 1) := by kernel_rfl
theorem size_u8 : (Tryd.prog.info? 5).map (·.size) = some 1 := by kernel_rfl

theorem own_ge {w : World} {base e size n : Nat} {v : Value} {xs : List Value} (h : w.ownsRow base e size v n xs) : ∀ k, v.ownBlock = some k → base ≤ k := by
  intro k hk
  rcases h.2 with ⟨rfl, _⟩ | ⟨g, cap, cur, rfl, hb, _⟩
  · simp [Value.ownBlock] at hk
  · simp [Value.ownBlock] at hk; omega

theorem own_below {w0 w w' : World} {base e size n : Nat} {v : Value} {xs : List Value} (hb : Below base w0 w) (h : w.ownsRow base e size v n xs) (hg : w.grownBy w' v.ownBlock) (hB : base ≤ w.heap.size) : Below base w0 w' :=
  hb.grown hg hB (own_ge h)

/-- The shape of what owns a row. -/
theorem own_shape {w : World} {base e n : Nat} {v : Value} {xs : List Value} (h : w.ownsRow base e 1 v n xs) : ∃ A c, v = .slice A n c ∧ n ≤ c := by
  rcases h.2 with ⟨rfl, rfl⟩ | ⟨g, cap, cur, rfl, hb, _, hnc, _⟩
  · exact ⟨none, 0, rfl, Nat.le_refl _⟩
  · exact ⟨_, cap, rfl, hnc⟩

theorem run_append_none {P : Program} {w : World} (base : Nat) (t ty e : TypeId) (i : TypeInfo) (size : Nat) (ht : P.underlying t = some (.slice e)) (hi : P.info? e = some i)
    (v : Value) (n : Nat) (xs : List Value) (hown : w.ownsRow base e size v n xs) (c : Nat) :
    (Builtin.append_ #[t, t] ty #[v, .slice none 0 c]).run P w = .ok v w := by
  rcases hown.2 with ⟨rfl, rfl⟩ | ⟨g, cap, cur, rfl, _, _, hnc, _⟩
  · simp [Builtin.append_, run_underlying ht, sizeOf, typeInfo, hi, Builtin.lenOf, Builtin.firstCells]
  · simp [Builtin.append_, run_underlying ht, sizeOf, typeInfo, hi, Builtin.lenOf, Builtin.firstCells, hnc, storeCells]

theorem wpList_append_bytes {w : World} {ops : Array Oper} {rest : List Oper} {o : Oper} {a : Act} {Q : Exit → Act → World → Prop} (hgd : o.guard = none) (s x : Operand)
    (ho : o.op = .call { callee := .builtin .append, args := #[s, x], argTypes := #[69, 69] })
    (base : Nat) (v : Value) (n : Nat) (xs : List Int) (hs : a.eval s = v) (hown : w.ownsRow base 5 1 v n (xs.map (Value.int .u8)))
    (B : Nat) (A : Option Addr) (m c : Nat) (l : List Int) (hx : a.eval x = .slice A m c) (hr : RB w B A m l)
    (h63 : n + m ≤ 140737488355328) (hbase : base ≤ w.heap.size)
    (h : ∀ v' w', w'.ownsRow base 5 1 v' (n + m) ((xs ++ l).map (Value.int .u8)) → w.grownBy w' v.ownBlock → Below base w w' → wpList Tryd.prog ops Q rest (a.put o.dst v') w') : wpList Tryd.prog ops Q (o :: rest) a w := by
  obtain ⟨i0, hi, hz0, hz1, hz2⟩ := info_parts info_u8
  rcases A with _ | ad
  · have hm : m = 0 := by
      rcases Nat.eq_zero_or_pos m with h0 | h0
      · exact h0
      · obtain ⟨b, off, e, _⟩ := hr.at_ h0; cases e
    subst hm
    have hl : l = [] := List.eq_nil_of_length_eq_zero hr.len
    subst hl
    refine wpList_plain hgd fun K hK => ?_
    have hrun := run_append_none (P := Tryd.prog) (w := w) base 69 o.type 5 i0 1 Tryd.underlying69 hi v n _ hown c
    unfold Oper.wp
    simp [execOp, ho, resolve, invoke, builtin, hs, hx, hrun, Result.andThen]
    exact hK _ _ (h v w (by simpa using hown) (World.grownBy.refl w _) (Below.refl _ _))
  · refine wpList_append_own w hgd s x 69 ho base 5 i0 (.int .u8 0) 1 1 Tryd.underlying69 hi hz0 hz1 hz2 rfl (by decide) v n _ hs hown ad m c (l.map (Value.int .u8)) hx (by simp [hr.len]) ?_ (oneCell_bytes l) (by unfold maxLen; omega) (by omega) hbase ?_
    · intro j u hj
      obtain ⟨ad', e, hc⟩ := hr.src j u hj
      cases e
      exact hc
    · intro v' w' h1 h2 _
      exact h v' w' (by simpa using h1) h2 ((Below.refl base w).grown h2 hbase (own_ge hown))

/-- What owns a row reads as it. -/
theorem read_own {w : World} {base e n : Nat} {v : Value} {l : List Int} (h : w.ownsRow base e 1 v n (l.map (Value.int .u8))) (hl : AllBytes l) : ∃ A c, v = .slice A n c ∧ n ≤ c ∧ RB w w.heap.size A n l := by
  obtain ⟨A, c, rfl, hc⟩ := own_shape h
  exact ⟨A, c, rfl, hc, RB.of_own h hl⟩

theorem own_base_le {w : World} {base base' e size n : Nat} {v : Value} {xs : List Value} (h : w.ownsRow base e size v n xs) (hb : base' ≤ base) : w.ownsRow base' e size v n xs := by
  rcases h.2 with h' | ⟨g, cap, cur, hv, hg, h3⟩
  · exact ⟨h.1, .inl h'⟩
  · exact ⟨h.1, .inr ⟨g, cap, cur, hv, Nat.le_trans hb hg, h3⟩⟩

/-- What owned a row owns it still where all that was there stands. -/
theorem own_later {w w' : World} {base e size n : Nat} {v : Value} {xs : List Value} (h : w.ownsRow base e size v n xs) (hb : Below w.heap.size w w') : w'.ownsRow base e size v n xs := by
  rcases h.2 with h' | ⟨g, cap, cur, hv, hg, hh, h3⟩
  · exact ⟨h.1, .inl h'⟩
  · have hlt : g < w.heap.size := by
      rcases Nat.lt_or_ge g w.heap.size with h' | h'
      · exact h'
      · rw [Array.getElem?_eq_none h'] at hh; cases hh
    exact ⟨h.1, .inr ⟨g, cap, cur, hv, hg, (hb.block g hlt).trans hh, h3⟩⟩

end Go.Proofs.YtkpmfobmlaldfaaDoor

/-
  Contracts of num.Put and of the plain Put: for any slice of bytes, any number and any size the answer is a new slice of these bytes, behind them the number's bytes, or nothing more where the number does not fit; nothing that was there is written. Condition: fewer than 2^47 - 8 bytes.
-/
namespace Go.Proofs.YtkpmfobmlaldfaaDoor
open Go.RowKit
set_option maxRecDepth 100000
set_option linter.unusedVariables false


theorem made_block {w : World} {base e g n : Nat} {xs : List Value} (h : w.ownsRow base e 1 (.slice (some ⟨g, 0, none⟩) n n) n xs) : w.heap[g]? = some (.cells xs.toArray e (0, 0)) := by
  rcases h.2 with ⟨h', _⟩ | ⟨g', cap', cur, h', _, hg, _, _, hcs, htake⟩
  · simp at h'
  · simp only [Value.slice.injEq, Option.some.injEq, Addr.mk.injEq, and_true, true_and] at h'
    obtain ⟨rfl, rfl⟩ := h'
    rw [← htake, List.take_of_length_le (by simp; omega)]
    simpa using hg

theorem made_u8 {w : World} {base e g n : Nat} (h : w.ownsRow base e 1 (.slice (some ⟨g, 0, none⟩) n n) n (madeCells (Value.int .u8 0).cells (n * 1)).toList) : w.heap[g]? = some (.cells (List.replicate n (Value.int .u8 0)).toArray e (0, 0)) := by
  have := made_block h
  rw [show (Value.int .u8 0).cells = #[Value.int .u8 0] from rfl, toList_madeCells_one, Nat.mul_one] at this
  exact this

theorem copy_src {w : World} {B n : Nat} {A : Option Addr} {l : List Int} (h : RB w B A n l) (hp : 0 < (l.map (Value.int .u8)).length) : ∃ ad, A = some ad ∧ ∀ j v, (l.map (Value.int .u8))[j]? = some v → w.cell? (ad.add j) = some v := by
  obtain ⟨ad, rfl, _⟩ := h.src 0 _ (List.getElem?_eq_getElem hp)
  refine ⟨ad, rfl, fun j v hv => ?_⟩
  obtain ⟨ad', e, hc⟩ := h.src j v hv
  cases e
  exact hc

/-- The block while it is filled: j of k bytes stand already, the last ones. -/
def fill (l : List Int) (x : Int) (k j : Nat) (e : TypeId) : Obj := .cells ((l ++ (List.replicate (k - j) 0 ++ putB x j)).map (Value.int .u8)).toArray e (0, 0)

theorem fill_start {w : World} {g n k : Nat} {e : TypeId} {l : List Int} {x : Int} (hl : l.length = n) (h : w.heap[g]? = some (.cells (splice (List.replicate (n + k) (Value.int .u8 0)) 0 (l.map (Value.int .u8))).toArray e (0, 0))) : w.heap[g]? = some (fill l x k 0 e) := by
  rw [h]
  subst hl
  simp [fill, splice, putB, List.drop_replicate]
theorem fill_frozen {w : World} {g : Nat} {e : TypeId} {l : List Int} {x : Int} {k j m : Nat} (h : w.heap[g]? = some (fill l x k j e)) : w.frozen? ⟨g, m, none⟩ = false := by
  unfold fill at h
  simp [World.frozen?, h]
theorem fill_length (l : List Int) (x : Int) {k j : Nat} (hj : j ≤ k) : (l ++ (List.replicate (k - j) 0 ++ putB x j)).length = l.length + k := by
  simp [putB_length]; omega
theorem fill_cell {w : World} {g n : Nat} {e : TypeId} {l : List Int} {x : Int} {k j : Nat} (hl : l.length = n) (h : w.heap[g]? = some (fill l x k j e)) (m : Nat) (hm : m < n + k ∧ j ≤ k) : ∃ u, w.cell? ⟨g, m, none⟩ = some u := by
  unfold fill at h
  rw [cell_of_row w g m _ e (0, 0) h]
  have := fill_length l x hm.2
  exact ⟨_, Array.getElem?_eq_getElem (by simp only [List.size_toArray, List.length_map]; omega)⟩

theorem fill_step {w : World} {g n : Nat} {e : TypeId} {l : List Int} {x : Int} {k j m : Nat} (hl : l.length = n) (h : w.heap[g]? = some (fill l x k j e)) (hj : j < k) (hm : m + j + 1 = n + k) :
    (w.setCell ⟨g, m, none⟩ (.int .u8 (shN x j % 256))).heap[g]? = some (fill l x k (j + 1) e) := by
  unfold fill at h ⊢
  rw [heap_setCell_same w g m _ e _ h]
  subst hl
  obtain ⟨d, rfl⟩ : ∃ d, k = j + 1 + d := ⟨k - (j + 1), by omega⟩
  have e1 : j + 1 + d - j = d + 1 := by omega
  have e2 : j + 1 + d - (j + 1) = d := by omega
  obtain rfl : m = l.length + d := by omega
  rw [e1, e2, putB_front]
  congr 2
  rw [← Array.toList_inj]
  simp only [Array.toList_setIfInBounds, List.map_append, List.map_cons, List.map_replicate]
  rw [List.replicate_succ', List.append_assoc, List.set_append_right _ _ (by simp), List.set_append_right _ _ (by simp)]
  simp
theorem fill_end {w : World} {g : Nat} {e : TypeId} {l : List Int} {x : Int} {k : Nat} (h : w.heap[g]? = some (fill l x k k e)) : w.heap[g]? = some (.cells ((l ++ putB x k).map (Value.int .u8)).toArray e (0, 0)) := by
  rw [h]; simp [fill]

set_option maxHeartbeats 800000 in
theorem Put_yes (A : Option Addr) (n c B : Nat) (l : List Int) (x : Int) (k : Nat) (w : World) (hr : RB w B A n l) (hB : B ≤ w.heap.size) (hc : n ≤ c) (hm : n ≤ 140737488355000) (hs : rightB x (k : Int) = true) (hk8 : k ≤ 8) (hxl : -9223372036854775808 ≤ x) (hxh : x ≤ 9223372036854775807) :
    Calls Tryd.prog 25 #[.slice A n c, .int .i64 x, .int .i64 (k : Int)] w fun e w' => ∃ g, e = .returned (.slice (some ⟨g, 0, none⟩) (n + k) (n + k)) ∧ w.heap.size ≤ g ∧ w'.heap[g]? = some (.cells ((l ++ putB x k).map (Value.int .u8)).toArray 5 (0, 0)) ∧ Below w.heap.size w w' := by
  obtain ⟨i0, hi, hz0, hz1, hz2⟩ := info_parts info_u8
  have HS := Lib.hid hs
  clear hs
  go_enter Tryd.func25, Tryd.ntmps25
  go_wp2_with (first
    | (go_at_call 22; refine (Right_yes _ _ _ HS.out).mono ?_; rintro e w' ⟨rfl, rfl⟩)
    | (refine wpList_make_full w rfl _ _ 69 rfl w.heap.size 5 i0 (.int .u8 0) 1 Tryd.underlying69 hi hz0 hz1 .i64 .i64 _ _ (n + k) rfl rfl (by simp) (by simp) (by rw [hz2]; omega) (by unfold maxLen; omega) (Nat.le_refl _) ?_; intro w1 hown1 hg1; have hb1 : Below w.heap.size w w1 := (Below.refl _ _).grown hg1 (Nat.le_refl _) (by simp); have hblk1 := Lib.hid (made_u8 hown1); clear hown1 hg1)
    | (with_reducible refine wpList_copy_splice rfl (.tmp 18) (.tmp 19) 69 69 rfl 5 Tryd.underlying69 size_u8 _ _ _ _ _ _ rfl rfl w.heap.size 0 (List.replicate (n + k) (Value.int .u8 0)) 5 hblk1.out (l.map (Value.int .u8)) (by rw [List.length_map, hr.len]; exact (Nat.min_eq_left (by omega)).symm) (fun hp => ⟨rfl, copy_src (hr.below (hb1.mono hB)) hp⟩) (by rw [List.length_map, List.length_replicate, hr.len]; omega) (oneCell_bytes l) w.heap.size w hb1 (Nat.le_refl _) ?_; intro w2 hblk2 hb2))
  have hblk := Lib.hid (fill_start (x := x) hr.len hblk2.out)
  clear hblk2 hblk1 hb1
  go_loopw [1, 8] (fun xn i wr => ∃ (j : Nat) (z : Int), j ≤ k ∧ z + j + 1 ≤ n + k ∧ (n : Int) + k ≤ z + j + 1 ∧ i = .int .i64 z ∧ xn = .int .i64 (shN x j) ∧ Hid (wr.heap[w.heap.size]? = some (fill l x k j 5)) ∧ Below w.heap.size w wr)
    (fun _ i _ => (intOf i + 1 - (n : Int)).toNat)
  case atStart => exact ⟨0, _, Nat.zero_le _, by omega, by omega, rfl, rfl, hblk, hb2⟩
  case round =>
    obtain ⟨j, z, hj, hz1, hz2, rfl, rfl, hblkj, hbj⟩ := hrel
    clear hblk
    by_cases hlt : j < k
    · obtain ⟨m, rfl⟩ := Int.eq_ofNat_of_zero_le (show 0 ≤ z by omega)
      have hfz : wr.frozen? ⟨w.heap.size, m, none⟩ = false := fill_frozen hblkj.out
      obtain ⟨u, hu⟩ := fill_cell hr.len hblkj.out m ⟨by omega, by omega⟩
      obtain ⟨hx0, hx1⟩ := shN_bounds x hxl hxh j
      have hnm : n ≤ m := by omega
      have hmk : m < n + k := by omega
      go_wp2
      have hstep := Lib.hid (fill_step hr.len hblkj.out hlt (m := m) (by omega))
      clear hu hfz hblkj
      go_roundw
      case rel => exact ⟨j + 1, _, by omega, by omega, by omega, rfl, rfl, hstep, hbj.setCell (Nat.le_refl _) _⟩
      case measure => simp [intOf]; omega
    · have hjk : j = k := by omega
      subst hjk
      have hend := Lib.hid (fill_end hblkj.out)
      have hzn : z < n := by omega
      clear hblkj
      go_wp2
      go_ret
      exact ⟨_, rfl, Nat.le_refl _, hend.out, hbj⟩

theorem fill_start0 {w : World} {g n : Nat} {e : TypeId} {l : List Int} (hl : l.length = n) (h : w.heap[g]? = some (.cells (splice (List.replicate n (Value.int .u8 0)) 0 (l.map (Value.int .u8))).toArray e (0, 0))) : w.heap[g]? = some (.cells (l.map (Value.int .u8)).toArray e (0, 0)) := by
  rw [h]
  subst hl
  simp [splice]

set_option maxHeartbeats 800000 in
theorem Put_no (A : Option Addr) (n c B : Nat) (l : List Int) (x s : Int) (w : World) (hr : RB w B A n l) (hB : B ≤ w.heap.size) (hc : n ≤ c) (hm : n ≤ 140737488355000) (hs : rightB x s = false) :
    Calls Tryd.prog 25 #[.slice A n c, .int .i64 x, .int .i64 s] w fun e w' => ∃ g, e = .returned (.slice (some ⟨g, 0, none⟩) n n) ∧ w.heap.size ≤ g ∧ w'.heap[g]? = some (.cells (l.map (Value.int .u8)).toArray 5 (0, 0)) ∧ Below w.heap.size w w' := by
  obtain ⟨i0, hi, hz0, hz1, hz2⟩ := info_parts info_u8
  have HS := Lib.hid hs
  clear hs
  go_enter Tryd.func25, Tryd.ntmps25
  go_wp2_with (first
    | (go_at_call 22; refine (Right_no _ _ _ HS.out).mono ?_; rintro e w' ⟨rfl, rfl⟩)
    | (refine wpList_make_full w rfl _ _ 69 rfl w.heap.size 5 i0 (.int .u8 0) 1 Tryd.underlying69 hi hz0 hz1 .i64 .i64 _ _ n rfl rfl (by simp) (by simp) (by rw [hz2]; omega) (by unfold maxLen; omega) (Nat.le_refl _) ?_; intro w1 hown1 hg1; have hb1 : Below w.heap.size w w1 := (Below.refl _ _).grown hg1 (Nat.le_refl _) (by simp); have hblk1 := Lib.hid (made_u8 hown1); clear hown1 hg1)
    | (with_reducible refine wpList_copy_splice rfl (.tmp 18) (.tmp 19) 69 69 rfl 5 Tryd.underlying69 size_u8 _ _ _ _ _ _ rfl rfl w.heap.size 0 (List.replicate n (Value.int .u8 0)) 5 hblk1.out (l.map (Value.int .u8)) (by rw [List.length_map, hr.len]; exact (Nat.min_eq_left (by omega)).symm) (fun hp => ⟨rfl, copy_src (hr.below (hb1.mono hB)) hp⟩) (by rw [List.length_map, List.length_replicate, hr.len]; omega) (oneCell_bytes l) w.heap.size w hb1 (Nat.le_refl _) ?_; intro w2 hblk2 hb2))
  have hblk := Lib.hid (fill_start0 hr.len hblk2.out)
  clear hblk2 hblk1 hb1
  refine wp_loop_rounds 1 ?_
  rw [rounds_succ]
  go_wp2
  go_ret
  exact ⟨_, rfl, Nat.le_refl _, hblk.out, hb2⟩

/-- What Put answers. -/
def putR (l : List Int) (x s : Int) : List Int := if rightB x s = true then l ++ putB x s.toNat else l

theorem right_size {x s : Int} (h : rightB x s = true) : s = 1 ∨ s = 2 ∨ s = 4 ∨ s = 8 := by
  by_cases hs : sizeB s = true
  · exact size_cases hs
  · rw [rightB_none (by simpa using hs)] at h; cases h

/-- A new slice that is just these bytes. -/
def Fresh (w w' : World) (e : TypeId) (v : Value) (l : List Int) : Prop := ∃ g, v = .slice (some ⟨g, 0, none⟩) l.length l.length ∧ w.heap.size ≤ g ∧ w'.heap[g]? = some (.cells (l.map (Value.int .u8)).toArray e (0, 0))

theorem Put_any (A : Option Addr) (n c B : Nat) (l : List Int) (x s : Int) (w : World) (hr : RB w B A n l) (hB : B ≤ w.heap.size) (hc : n ≤ c) (hm : n ≤ 140737488355000) (hxl : -9223372036854775808 ≤ x) (hxh : x ≤ 9223372036854775807) :
    Calls Tryd.prog 25 #[.slice A n c, .int .i64 x, .int .i64 s] w fun e w' => ∃ v, e = .returned v ∧ Fresh w w' 5 v (putR l x s) ∧ Below w.heap.size w w' := by
  unfold putR
  by_cases h : rightB x s = true
  · rw [if_pos h]
    have hc4 := right_size h
    obtain ⟨k, rfl⟩ := Int.eq_ofNat_of_zero_le (show 0 ≤ s by omega)
    refine (Put_yes A n c B l x k w hr hB hc hm h (by omega) hxl hxh).mono ?_
    rintro e w' ⟨g, rfl, h1, h2, h3⟩
    refine ⟨_, rfl, ⟨g, ?_, h1, h2⟩, h3⟩
    simp [putB_length, hr.len]
  · rw [if_neg h]
    refine (Put_no A n c B l x s w hr hB hc hm (by simpa using h)).mono ?_
    rintro e w' ⟨g, rfl, h1, h2, h3⟩
    exact ⟨_, rfl, ⟨g, by rw [hr.len], h1, h2⟩, h3⟩

theorem Fresh.own {w w' : World} {e : TypeId} {v : Value} {l : List Int} (h : Fresh w w' e v l) (hm : l.length ≤ maxLen) : w'.ownsRow w.heap.size e 1 v l.length (l.map (Value.int .u8)) := by
  obtain ⟨g, rfl, hb, hg⟩ := h
  exact ⟨by simp, .inr ⟨g, l.length, _, rfl, hb, hg, Nat.le_refl _, hm, by simp, by rw [Nat.mul_one]; exact List.take_of_length_le (by simp)⟩⟩

theorem putR_length (l : List Int) (x s : Int) : (putR l x s).length ≤ l.length + 8 := by
  unfold putR
  by_cases h : rightB x s = true
  · rw [if_pos h, List.length_append, putB_length]
    have := right_size h
    omega
  · rw [if_neg h]; omega

/-- num.Put answers a row of its own. -/
theorem Put_own (A : Option Addr) (n c B : Nat) (l : List Int) (x s : Int) (w : World) (hr : RB w B A n l) (hB : B ≤ w.heap.size) (hc : n ≤ c) (hm : n ≤ 140737488355000) (hxl : -9223372036854775808 ≤ x) (hxh : x ≤ 9223372036854775807) :
    Calls Tryd.prog 25 #[.slice A n c, .int .i64 x, .int .i64 s] w fun e w' => ∃ v, e = .returned v ∧ w'.ownsRow w.heap.size 5 1 v (putR l x s).length ((putR l x s).map (Value.int .u8)) ∧ Below w.heap.size w w' := by
  refine (Put_any A n c B l x s w hr hB hc hm hxl hxh).mono ?_
  rintro e w' ⟨v, rfl, hf, hb⟩
  have := putR_length l x s
  have := hr.len
  exact ⟨v, rfl, hf.own (by unfold maxLen; omega), hb⟩

end Go.Proofs.YtkpmfobmlaldfaaDoor

/-
  Plain: a number that Put put is what Get gets. Condition: the number is an int.
-/
namespace Go.Proofs.YtkpmfobmlaldfaaDoor
open Go.RowKit
set_option maxRecDepth 100000
set_option linter.unusedVariables false

theorem wrap_putB {x s : Int} (h : rightB x s = true) (hxl : -9223372036854775808 ≤ x) (hxh : x ≤ 9223372036854775807) : numOf (putB x s.toNat) = x := by
  rw [numOf_eq _ (putB_bytes _ _), beOf_putB]
  rcases right_size h with rfl | rfl | rfl | rfl
  · have hb : 0 ≤ x ∧ x < 256 := by simpa [rightB] using h
    rw [show (256 : Int) ^ (1 : Int).toNat = 256 from rfl]
    unfold wrap64; omega
  · have hb : 0 ≤ x ∧ x < 65536 := by simpa [rightB] using h
    rw [show (256 : Int) ^ (2 : Int).toNat = 65536 from rfl]
    unfold wrap64; omega
  · have hb : 0 ≤ x ∧ x < 4294967296 := by simpa [rightB] using h
    rw [show (256 : Int) ^ (4 : Int).toNat = 4294967296 from rfl]
    unfold wrap64; omega
  · rw [show (256 : Int) ^ (8 : Int).toNat = 18446744073709551616 from rfl]
    unfold wrap64; omega

theorem get_put {l : List Int} {x s : Int} (h : rightB x s = true) (hxl : -9223372036854775808 ≤ x) (hxh : x ≤ 9223372036854775807) : getR (putR l x s) (l.length : Int) s = (x, 0) := by
  have hs : sizeB s = true := by
    rcases right_size h with rfl | rfl | rfl | rfl <;> decide
  obtain ⟨k, rfl⟩ := Int.eq_ofNat_of_zero_le (show 0 ≤ s by rcases right_size h with h | h | h | h <;> omega)
  have hn := wrap_putB h hxl hxh
  unfold getR putR
  rw [if_pos h, if_pos ⟨hs, by omega⟩, if_neg (by simp [putB_length])]
  simp only [Int.toNat_natCast] at hn ⊢
  rw [List.drop_left, List.take_of_length_le (by rw [putB_length]; exact Nat.le_refl _), hn]

end Go.Proofs.YtkpmfobmlaldfaaDoor

/-
  Plain arithmetic of the sum: one bit's step, eight of them, four of them by a table; a step loses nothing, so a byte that is changed changes the sum. No program, no condition beyond 32 bits.
-/
namespace Go.Proofs.YtkpmfobmlaldfaaDoor
set_option maxRecDepth 100000

/-- One bit's step. -/
def bit1 (x : Nat) : Nat := if x % 2 = 1 then (x / 2) ^^^ 3988292384 else x / 2
/-- One byte's step. -/
def stepB (s c : Nat) : Nat := bit1 (bit1 (bit1 (bit1 (bit1 (bit1 (bit1 (bit1 (s ^^^ c))))))))
/-- Four bits' steps, of four bits. -/
def tab4 : List Nat := [0, 498536548, 997073096, 651767980, 1994146192, 1802195444, 1303535960, 1342533948, 3988292384, 4027552580, 3604390888, 3412177804, 2607071920, 2262029012, 2685067896, 3183342108]
/-- Four bits' steps, by the table. -/
def nib (x : Nat) : Nat := (x / 16) ^^^ (tab4[x % 16]?.getD 0)
/-- The steps of some bytes. -/
def runB (s : Nat) (l : List Nat) : Nat := l.foldl stepB s

theorem xor_half (a b : Nat) : (a ^^^ b) / 2 = a / 2 ^^^ b / 2 := by
  have := Nat.shiftRight_xor_distrib (a := a) (b := b) (i := 1)
  simpa [Nat.shiftRight_succ] using this
theorem xor_parity (a b : Nat) : (a ^^^ b) % 2 = (a + b) % 2 := by
  have h := Nat.xor_mod_two_pow (a := a) (b := b) (n := 1)
  simp only [Nat.pow_one] at h
  rw [h]
  rcases Nat.mod_two_eq_zero_or_one a with ha | ha <;> rcases Nat.mod_two_eq_zero_or_one b with hb | hb <;> rw [ha, hb]
  · rw [show (a + b) % 2 = 0 from by omega]; rfl
  · rw [show (a + b) % 2 = 1 from by omega]; rfl
  · rw [show (a + b) % 2 = 1 from by omega]; rfl
  · rw [show (a + b) % 2 = 0 from by omega]; rfl

theorem bit1_xor (a b : Nat) : bit1 (a ^^^ b) = bit1 a ^^^ bit1 b := by
  unfold bit1
  rw [xor_parity, xor_half]
  rcases Nat.mod_two_eq_zero_or_one a with ha | ha <;> rcases Nat.mod_two_eq_zero_or_one b with hb | hb
  · rw [if_neg (by omega), if_neg (by omega), if_neg (by omega)]
  · rw [if_pos (by omega), if_neg (by omega), if_pos hb, Nat.xor_assoc]
  · rw [if_pos (by omega), if_pos ha, if_neg (by omega), Nat.xor_assoc, Nat.xor_assoc, Nat.xor_comm (b / 2)]
  · rw [if_neg (by omega), if_pos ha, if_pos hb]
    rw [Nat.xor_assoc, Nat.xor_comm 3988292384, Nat.xor_assoc, Nat.xor_self, Nat.xor_zero]

theorem bit1_even (q : Nat) : bit1 (2 * q) = q := by
  unfold bit1
  rw [if_neg (by omega)]
  omega

theorem nib_eq (x : Nat) : nib x = bit1 (bit1 (bit1 (bit1 x))) := by
  have hx : x = (16 * (x / 16)) ^^^ (x % 16) := by
    have h := Nat.two_pow_add_eq_or_of_lt (i := 4) (b := x % 16) (by omega) (x / 16)
    have h2 : 16 * (x / 16) ^^^ x % 16 = 16 * (x / 16) ||| x % 16 := by
      apply Nat.eq_of_testBit_eq
      intro i
      rw [Nat.testBit_xor, Nat.testBit_or]
      rcases Nat.lt_or_ge i 4 with hi | hi
      · have : (16 * (x / 16)).testBit i = false := by
          have := Nat.testBit_two_pow_mul (i := 4) (a := x / 16) (j := i)
          simp only [show (2 : Nat) ^ 4 = 16 from rfl] at this
          rw [this]; simp; omega
        rw [this]; simp
      · have : (x % 16).testBit i = false := Nat.testBit_lt_two_pow (Nat.lt_of_lt_of_le (show x % 16 < 2 ^ 4 by omega) (Nat.pow_le_pow_right (by decide) hi))
        rw [this]; simp
    rw [h2, ← show (2 : Nat) ^ 4 = 16 from rfl, ← h]
    omega
  have hlow : ∀ r, r < 16 → bit1 (bit1 (bit1 (bit1 r))) = tab4[r]?.getD 0 := by decide
  have hhigh : bit1 (bit1 (bit1 (bit1 (16 * (x / 16))))) = x / 16 := by
    rw [show 16 * (x / 16) = 2 * (8 * (x / 16)) from by omega, bit1_even, show 8 * (x / 16) = 2 * (4 * (x / 16)) from by omega, bit1_even,
      show 4 * (x / 16) = 2 * (2 * (x / 16)) from by omega, bit1_even, bit1_even]
  conv => rhs; rw [hx]
  rw [bit1_xor, bit1_xor, bit1_xor, bit1_xor, hhigh, hlow _ (by omega)]
  rfl

theorem stepB_nib (s c : Nat) : stepB s c = nib (nib (s ^^^ c)) := by
  rw [nib_eq, nib_eq]; rfl

theorem bit1_lt {x : Nat} (h : x < 4294967296) : bit1 x < 4294967296 := by
  unfold bit1
  split
  · exact Nat.xor_lt_two_pow (n := 32) (by omega) (by decide)
  · omega
theorem xor_lt {a b : Nat} (ha : a < 4294967296) (hb : b < 4294967296) : a ^^^ b < 4294967296 := Nat.xor_lt_two_pow (n := 32) ha hb
theorem stepB_lt {s c : Nat} (hs : s < 4294967296) (hc : c < 4294967296) : stepB s c < 4294967296 :=
  bit1_lt (bit1_lt (bit1_lt (bit1_lt (bit1_lt (bit1_lt (bit1_lt (bit1_lt (xor_lt hs hc))))))))
theorem runB_lt {l : List Nat} (hl : ∀ c ∈ l, c < 256) {s : Nat} (hs : s < 4294967296) : runB s l < 4294967296 := by
  induction l generalizing s with
  | nil => exact hs
  | cons c l ih => exact ih (fun d hd => hl d (List.mem_cons_of_mem _ hd)) (stepB_lt hs (by have := hl c (List.mem_cons_self ..); omega))

/-- The bit that leaves stands in the highest place: nothing is lost. -/
theorem bit1_inj {x y : Nat} (hx : x < 4294967296) (hy : y < 4294967296) (h : bit1 x = bit1 y) : x = y := by
  have high : ∀ a, a < 2147483648 → 2147483648 ≤ a ^^^ 3988292384 := by
    intro a ha
    have ht : (a ^^^ 3988292384).testBit 31 = true := by
      rw [Nat.testBit_xor, Nat.testBit_lt_two_pow (show a < 2 ^ 31 from ha)]
      decide
    exact Nat.ge_two_pow_of_testBit ht
  have cancel : ∀ a b : Nat, a ^^^ 3988292384 = b ^^^ 3988292384 → a = b := by
    intro a b e
    have := congrArg (· ^^^ 3988292384) e
    simpa [Nat.xor_assoc] using this
  unfold bit1 at h
  by_cases h1 : x % 2 = 1 <;> by_cases h2 : y % 2 = 1
  · rw [if_pos h1, if_pos h2] at h
    have := cancel _ _ h
    omega
  · rw [if_pos h1, if_neg h2] at h
    have := high (x / 2) (by omega)
    omega
  · rw [if_neg h1, if_pos h2] at h
    have := high (y / 2) (by omega)
    omega
  · rw [if_neg h1, if_neg h2] at h
    omega

theorem stepB_inj {x y : Nat} (c d : Nat) (hx : x < 4294967296) (hy : y < 4294967296) (hc : c < 4294967296) (hd : d < 4294967296) (h : stepB x c = stepB y d) : x ^^^ c = y ^^^ d := by
  have a := xor_lt hx hc
  have b := xor_lt hy hd
  unfold stepB at h
  exact bit1_inj a b (bit1_inj (bit1_lt a) (bit1_lt b) (bit1_inj (bit1_lt (bit1_lt a)) (bit1_lt (bit1_lt b)) (bit1_inj (bit1_lt (bit1_lt (bit1_lt a))) (bit1_lt (bit1_lt (bit1_lt b)))
    (bit1_inj (bit1_lt (bit1_lt (bit1_lt (bit1_lt a)))) (bit1_lt (bit1_lt (bit1_lt (bit1_lt b)))) (bit1_inj (bit1_lt (bit1_lt (bit1_lt (bit1_lt (bit1_lt a))))) (bit1_lt (bit1_lt (bit1_lt (bit1_lt (bit1_lt b)))))
      (bit1_inj (bit1_lt (bit1_lt (bit1_lt (bit1_lt (bit1_lt (bit1_lt a)))))) (bit1_lt (bit1_lt (bit1_lt (bit1_lt (bit1_lt (bit1_lt b)))))) (bit1_inj (bit1_lt (bit1_lt (bit1_lt (bit1_lt (bit1_lt (bit1_lt (bit1_lt a))))))) (bit1_lt (bit1_lt (bit1_lt (bit1_lt (bit1_lt (bit1_lt (bit1_lt b))))))) h)))))))

theorem xor_right_inj {x y c : Nat} (h : x ^^^ c = y ^^^ c) : x = y := by
  have := congrArg (· ^^^ c) h
  simpa [Nat.xor_assoc] using this
theorem xor_left_inj {s c d : Nat} (h : s ^^^ c = s ^^^ d) : c = d := by
  rw [Nat.xor_comm s, Nat.xor_comm s] at h
  exact xor_right_inj h

theorem runB_inj {l : List Nat} (hl : ∀ c ∈ l, c < 256) {x y : Nat} (hx : x < 4294967296) (hy : y < 4294967296) (h : runB x l = runB y l) : x = y := by
  induction l generalizing x y with
  | nil => exact h
  | cons c l ih =>
    have hc : c < 4294967296 := by have := hl c (List.mem_cons_self ..); omega
    have := ih (fun d hd => hl d (List.mem_cons_of_mem _ hd)) (stepB_lt hx hc) (stepB_lt hy hc) h
    exact xor_right_inj (stepB_inj c c hx hy hc hc this)

/-- A byte that is changed changes the sum. -/
theorem runB_changed {l : List Nat} (hl : ∀ c ∈ l, c < 256) {s : Nat} (hs : s < 4294967296) (i : Nat) (hi : i < l.length) (d : Nat) (hd : d < 256) (hne : l[i] ≠ d) : runB s l ≠ runB s (l.set i d) := by
  induction l generalizing s i with
  | nil => simp at hi
  | cons c l ih =>
    have hc : c < 4294967296 := by have := hl c (List.mem_cons_self ..); omega
    have hl' : ∀ c ∈ l, c < 256 := fun d hd => hl d (List.mem_cons_of_mem _ hd)
    cases i with
    | zero =>
      intro h
      have h' : runB (stepB s c) l = runB (stepB s d) l := h
      have := runB_inj hl' (stepB_lt hs hc) (stepB_lt hs (by omega)) h'
      exact hne (xor_left_inj (stepB_inj c d hs hs hc (by omega) this))
    | succ i => exact ih hl' (stepB_lt hs hc) i (by simpa using hi) (by simpa using hne)

end Go.Proofs.YtkpmfobmlaldfaaDoor

/-
  Contracts of crc.Step, crc.Sum and of the plain Step, Sum: for every sum and byte, and every slice of bytes, they answer the steps bit by bit; nothing is written. Condition: the table that crc.Step reads holds what the program's text lays in it.
-/
namespace Go.Proofs.YtkpmfobmlaldfaaDoor
open Go.RowKit
set_option maxRecDepth 100000
set_option linter.unusedVariables false

/-- The table holds what the program's text lays in it. -/
def Tab (w : World) : Prop := ∀ i, i < 16 → w.cell? ⟨0, i, none⟩ = some (.int .u32 ((tab4[i]?.getD 0 : Nat) : Int))
theorem Tab.below {w w' : World} {B : Nat} (h : Tab w) (hb : Below B w w') (hB : 0 < B) : Tab w' := fun i hi => (hb.cell (p := ⟨0, i, none⟩) hB).trans (h i hi)

theorem u32_bits (a b : Nat) (ha : a < 4294967296) (hb : b < 4294967296) : bits .xor .u32 (a : Int) (b : Int) = ((a ^^^ b : Nat) : Int) ∧ bits .and .u32 (a : Int) (b : Int) = ((a &&& b : Nat) : Int) := by
  have hw : ∀ n : Int, 0 ≤ n → n < 4294967296 → IntKind.u32.wrap n = n := fun n h0 h1 => by rw [IntKind.wrap_u32]; omega
  have ha' : a % 4294967296 = a := Nat.mod_eq_of_lt ha
  have hb' : b % 4294967296 = b := Nat.mod_eq_of_lt hb
  constructor
  · simp only [bits, BitVec.ofInt_natCast, BitVec.toNat_xor, BitVec.toNat_ofNat]
    rw [show (2 : Nat) ^ IntKind.u32.bits = 4294967296 from rfl, ha', hb']
    exact hw _ (Int.natCast_nonneg _) (by have := xor_lt ha hb; omega)
  · simp only [bits, BitVec.ofInt_natCast, BitVec.toNat_and, BitVec.toNat_ofNat]
    rw [show (2 : Nat) ^ IntKind.u32.bits = 4294967296 from rfl, ha', hb']
    exact hw _ (Int.natCast_nonneg _) (by have := Nat.and_lt_two_pow a (n := 32) (show b < 2 ^ 32 from hb); omega)

theorem tab4_lt (i : Nat) : tab4[i]?.getD 0 < 4294967296 := by
  rcases Nat.lt_or_ge i 16 with h | h
  · revert h; revert i; decide
  · rw [List.getElem?_eq_none (by simpa [tab4] using h)]; decide

theorem nib_lt {x : Nat} (h : x < 4294967296) : nib x < 4294967296 := xor_lt (by omega) (tab4_lt _)

theorem nib_bits (x : Nat) (h : x < 4294967296) : bits .and .u32 (x : Int) 15 = ((x % 16 : Nat) : Int) ∧ bits .xor .u32 ((x : Int) / 16) ((tab4[x % 16]?.getD 0 : Nat) : Int) = ((nib x : Nat) : Int) := by
  constructor
  · have := (u32_bits x 15 h (by decide)).2
    rw [show x &&& 15 = x % 16 from Nat.and_two_pow_sub_one_eq_mod x 4] at this
    exact this
  · have := (u32_bits (x / 16) _ (by omega) (tab4_lt (x % 16))).1
    rw [← show ((x / 16 : Nat) : Int) = (x : Int) / 16 from by omega]
    exact this

set_option maxHeartbeats 400000 in
theorem Step_any (s c : Nat) (hs : s < 4294967296) (hc : c < 256) (w : World) (ht : Tab w) :
    Calls Tryd.prog 87 #[.int .u32 (s : Int), .int .u8 (c : Int)] w fun e w' => e = .returned (.int .u32 ((stepB s c : Nat) : Int)) ∧ w = w' := by
  rw [stepB_nib]
  have f1 := (u32_bits s c hs (by omega)).1
  have hx : s ^^^ c < 4294967296 := xor_lt hs (by omega)
  generalize s ^^^ c = x at f1 hx ⊢
  obtain ⟨f2, f3⟩ := nib_bits x hx
  have hy := nib_lt hx
  have c1 := ht (x % 16) (Nat.mod_lt _ (by decide))
  generalize nib x = y at f3 hy ⊢
  obtain ⟨f4, f5⟩ := nib_bits y hy
  have c2 := ht (y % 16) (Nat.mod_lt _ (by decide))
  generalize nib y = z at f5 ⊢
  have hi : x % 16 < 16 := Nat.mod_lt _ (by decide)
  have hj : y % 16 < 16 := Nat.mod_lt _ (by decide)
  generalize tab4[x % 16]?.getD 0 = t at c1 f3
  generalize tab4[y % 16]?.getD 0 = u at c2 f5
  generalize x % 16 = i at c1 f2 hi
  generalize y % 16 = j at c2 f4 hj
  clear ht
  go_enter Tryd.func87, Tryd.ntmps87
  go_wp2
  go_ret
  exact ⟨rfl, rfl⟩

/-- Some bits' steps. -/
def bitN (x : Nat) : Nat → Nat | 0 => x | j + 1 => bit1 (bitN x j)
theorem bitN_lt {x : Nat} (h : x < 4294967296) (j : Nat) : bitN x j < 4294967296 := by
  induction j with
  | zero => exact h
  | succ j ih => exact bit1_lt ih
theorem bit1_bits (x : Nat) (h : x < 4294967296) : (x % 2 = 1 → bits .xor .u32 ((x : Int) / 2) 3988292384 = ((bit1 x : Nat) : Int)) ∧ (x % 2 ≠ 1 → (x : Int) / 2 = ((bit1 x : Nat) : Int)) := by
  unfold bit1
  constructor
  · intro h1
    rw [if_pos h1]
    have := (u32_bits (x / 2) 3988292384 (by omega) (by decide)).1
    rw [← show ((x / 2 : Nat) : Int) = (x : Int) / 2 from by omega]
    exact this
  · intro h1
    rw [if_neg h1]
    omega

set_option maxHeartbeats 400000 in
theorem refStep_any (s c : Nat) (hs : s < 4294967296) (hc : c < 256) (w : World) :
    Calls Tryd.prog 84 #[.int .u32 (s : Int), .int .u8 (c : Int)] w fun e w' => e = .returned (.int .u32 ((stepB s c : Nat) : Int)) ∧ w = w' := by
  rw [show stepB s c = bitN (s ^^^ c) 8 from rfl]
  have f1 := (u32_bits s c hs (by omega)).1
  have hx : s ^^^ c < 4294967296 := xor_lt hs (by omega)
  generalize s ^^^ c = x at f1 hx ⊢
  go_enter Tryd.func84, Tryd.ntmps84
  go_wp2
  clear f1
  go_loop [0, 5] (fun v i => ∃ j : Nat, j ≤ 8 ∧ i = .int .i64 j ∧ v = .int .u32 ((bitN x j : Nat) : Int)) (fun _ i => 8 - (intOf i).toNat)
  case atStart => exact ⟨0, Nat.zero_le _, rfl, rfl⟩
  case round =>
    obtain ⟨j, hj, rfl, rfl⟩ := hrel
    by_cases hlt : j < 8
    · have hy := bitN_lt hx j
      obtain ⟨fo, fe⟩ := bit1_bits (bitN x j) hy
      have hstep := Lib.hid (show bitN x (j + 1) = bit1 (bitN x j) from rfl)
      by_cases ho : bitN x j % 2 = 1
      · have f := fo ho
        have k : (((bitN x j : Nat) : Int) % 2 == 1) = true := by simp; omega
        clear fo fe ho
        generalize bitN x j = y at hy f k hstep ⊢
        go_wp2
        go_round
        case rel => exact ⟨j + 1, by omega, by go_num, by rw [hstep.out]⟩
        case measure => simp [intOf]; omega
      · have f := Lib.hid (fe ho)
        have k : (((bitN x j : Nat) : Int) % 2 == 1) = false := by simp; omega
        clear fo fe ho
        generalize bitN x j = y at hy f k hstep ⊢
        go_wp2
        go_round
        case rel => exact ⟨j + 1, by omega, by go_num, by rw [hstep.out, ← f.out]⟩
        case measure => simp [intOf]; omega
    · go_wp2
      go_ret
      obtain rfl : j = 8 := by omega
      exact ⟨rfl, rfl⟩

/-- What a sum is. -/
def sumOf (l : List Int) : Nat := runB 4294967295 (l.map Int.toNat) ^^^ 4294967295

theorem nat_byte {l : List Int} (h : AllBytes l) : ∀ c ∈ l.map Int.toNat, c < 256 := by
  intro c hc
  obtain ⟨x, hx, rfl⟩ := List.mem_map.1 hc
  have := h x hx
  omega
theorem run_step (l : List Int) (k : Nat) (h : k < l.length) : runB 4294967295 ((l.map Int.toNat).take (k + 1)) = stepB (runB 4294967295 ((l.map Int.toNat).take k)) (l[k]?.getD 0).toNat := by
  rw [List.take_succ_eq_append_getElem (by simpa using h)]
  simp [runB, List.getElem?_eq_getElem h]
theorem sum_end (l : List Int) (k : Nat) (h : l.length = k) : runB 4294967295 ((l.map Int.toNat).take k) ^^^ 4294967295 = sumOf l := by
  rw [List.take_of_length_le (by simp; omega)]; rfl

theorem not_bits (s : Nat) (h : s < 4294967296) : bits .xor .u32 IntKind.u32.max (s : Int) = ((s ^^^ 4294967295 : Nat) : Int) ∧ bits .xor .u32 (s : Int) 4294967295 = ((s ^^^ 4294967295 : Nat) : Int) := by
  constructor
  · rw [Nat.xor_comm]
    exact (u32_bits 4294967295 s (by decide) h).1
  · exact (u32_bits s 4294967295 h (by decide)).1

set_option maxHeartbeats 400000 in
theorem Sum_any (A : Option Addr) (n c B : Nat) (l : List Int) (w : World) (hr : RB w B A n l) (hm : n ≤ maxLen) (ht : Tab w) :
    Calls Tryd.prog 82 #[.slice A n c] w fun e w' => e = .returned (.int .u32 ((sumOf l : Nat) : Int)) ∧ w = w' := by
  unfold maxLen at hm
  have hall : ∀ k, runB 4294967295 ((l.map Int.toNat).take k) < 4294967296 := fun k => runB_lt (fun c hc => nat_byte hr.bytes c (List.mem_of_mem_take hc)) (by decide)
  have HA := Lib.hid hall
  clear hall
  go_enter Tryd.func82, Tryd.ntmps82
  go_wp2
  go_loop [3, 8] (fun v i => ∃ k : Nat, k ≤ n ∧ i = .int .i64 k ∧ v = .int .u32 ((runB 4294967295 ((l.map Int.toNat).take k) : Nat) : Int)) (fun _ i => n - (intOf i).toNat)
  case atStart => exact ⟨0, Nat.zero_le _, rfl, rfl⟩
  case round =>
    obtain ⟨k, hk, rfl, rfl⟩ := hrel
    have hsk := HA.out k
    by_cases hlt : k < n
    · obtain ⟨b, off, rfl, hb, hcell⟩ := hr.at_ (by omega)
      have hck := hcell k hlt
      obtain ⟨hb0, hb1⟩ := hr.bytes.getD k
      have hst := Lib.hid (run_step l k (by have := hr.len; omega))
      obtain ⟨x, hx⟩ := Int.eq_ofNat_of_zero_le hb0
      rw [hx] at hck hb1 hst
      clear hcell hx hb0
      have hx256 : x < 256 := by omega
      generalize runB 4294967295 ((l.map Int.toNat).take k) = s at hsk hst ⊢
      go_wp2_with (go_at_call 87; refine (Step_any s x hsk hx256 _ ht).mono ?_; rintro e w' ⟨rfl, rfl⟩)
      go_round
      case rel => exact ⟨k + 1, by omega, by go_num, by rw [hst.out]; simp⟩
      case measure => simp [intOf]; omega
    · obtain rfl : k = n := by omega
      have hend := sum_end l k hr.len
      generalize runB 4294967295 ((l.map Int.toNat).take k) = s at hsk hend ⊢
      obtain ⟨hx1, hx2⟩ := not_bits s hsk
      rw [hend] at hx1 hx2
      have hsg : IntKind.u32.signed = false := rfl
      clear hend
      go_wp2
      go_ret
      exact ⟨rfl, rfl⟩

set_option maxHeartbeats 400000 in
theorem refSum_any (A : Option Addr) (n c B : Nat) (l : List Int) (w : World) (hr : RB w B A n l) (hm : n ≤ maxLen) :
    Calls Tryd.prog 70 #[.slice A n c] w fun e w' => e = .returned (.int .u32 ((sumOf l : Nat) : Int)) ∧ w = w' := by
  unfold maxLen at hm
  have hall : ∀ k, runB 4294967295 ((l.map Int.toNat).take k) < 4294967296 := fun k => runB_lt (fun c hc => nat_byte hr.bytes c (List.mem_of_mem_take hc)) (by decide)
  have HA := Lib.hid hall
  clear hall
  go_enter Tryd.func70, Tryd.ntmps70
  go_wp2
  go_loop [3, 4] (fun v i => ∃ k : Nat, k ≤ n ∧ i = .int .i64 k ∧ v = .int .u32 ((runB 4294967295 ((l.map Int.toNat).take k) : Nat) : Int)) (fun _ i => n - (intOf i).toNat)
  case atStart => exact ⟨0, Nat.zero_le _, rfl, rfl⟩
  case round =>
    obtain ⟨k, hk, rfl, rfl⟩ := hrel
    have hsk := HA.out k
    by_cases hlt : k < n
    · obtain ⟨b, off, rfl, hb, hcell⟩ := hr.at_ (by omega)
      have hck := hcell k hlt
      obtain ⟨hb0, hb1⟩ := hr.bytes.getD k
      have hst := Lib.hid (run_step l k (by have := hr.len; omega))
      obtain ⟨x, hx⟩ := Int.eq_ofNat_of_zero_le hb0
      rw [hx] at hck hb1 hst
      clear hcell hx hb0
      have hx256 : x < 256 := by omega
      generalize runB 4294967295 ((l.map Int.toNat).take k) = s at hsk hst ⊢
      go_wp2_with (go_at_call 84; refine (refStep_any s x hsk hx256 _).mono ?_; rintro e w' ⟨rfl, rfl⟩)
      go_round
      case rel => exact ⟨k + 1, by omega, by go_num, by rw [hst.out]; simp⟩
      case measure => simp [intOf]; omega
    · obtain rfl : k = n := by omega
      have hend := sum_end l k hr.len
      generalize runB 4294967295 ((l.map Int.toNat).take k) = s at hsk hend ⊢
      obtain ⟨hx1, hx2⟩ := not_bits s hsk
      rw [hend] at hx1 hx2
      have hsg : IntKind.u32.signed = false := rfl
      clear hend
      go_wp2
      go_ret
      exact ⟨rfl, rfl⟩

theorem sumOf_lt {l : List Int} (h : AllBytes l) : sumOf l < 4294967296 := xor_lt (runB_lt (nat_byte h) (by decide)) (by decide)
theorem not_lt {s : Nat} (h : s < 4294967296) : s ^^^ 4294967295 < 4294967296 := xor_lt h (by decide)
theorem sumOf_snoc (l : List Int) (c : Nat) : sumOf (l ++ [(c : Int)]) = stepB (sumOf l ^^^ 4294967295) c ^^^ 4294967295 := by
  have e : sumOf l ^^^ 4294967295 = runB 4294967295 (l.map Int.toNat) := by
    unfold sumOf
    rw [Nat.xor_assoc, Nat.xor_self, Nat.xor_zero]
  rw [e]
  simp [sumOf, runB]

end Go.Proofs.YtkpmfobmlaldfaaDoor

/-
  Plain: what a sector of a page is, what a sector's page is, that the one undoes the other, and that a byte that is changed is found. No program; no condition beyond what each says.
-/
namespace Go.Proofs.YtkpmfobmlaldfaaDoor
open Go.RowKit
set_option maxRecDepth 100000
set_option linter.unusedVariables false

/-- Numbers that may stand ahead of data. -/
def secR (p s : Int) : Bool := decide (0 ≤ p ∧ p < 4294967296 ∧ 0 ≤ s ∧ s ≤ 4611686018427387904)
/-- What is summed. -/
def secBody (p s : Int) (l : List Int) : List Int := putB p 4 ++ putB s 8 ++ l
/-- The sector of a page. -/
def secL (p s : Int) (l : List Int) : List Int := putB (sumOf (secBody p s l) : Int) 4 ++ secBody p s l
/-- What Pack answers. -/
def packR (p s : Int) (l : List Int) : List Int × Int := if secR p s = true ∧ l.length = 240 then (secL p s l, 0) else ([], 1)
/-- Whether bytes are a sector. -/
def isSec (l : List Int) : Prop := l.length = 256 ∧ numOf (l.take 4) = (sumOf (l.drop 4) : Int) ∧ secR (numOf ((l.drop 4).take 4)) (numOf ((l.drop 8).take 8)) = true
instance (l : List Int) : Decidable (isSec l) := by unfold isSec; infer_instance
/-- What Unpack answers. -/
def unpackR (l : List Int) : Int × Int × List Int × Int := if isSec l then (numOf ((l.drop 4).take 4), numOf ((l.drop 8).take 8), l.drop 16, 0) else (0, 0, [], 4)

theorem secR_right {p s : Int} (h : secR p s = true) : rightB p 4 = true ∧ rightB s 8 = true := by
  have h' := of_decide_eq_true h
  obtain ⟨a, b, c, d⟩ := h'
  exact ⟨by simp [rightB, a, b], by simp [rightB]⟩
theorem sum_right {l : List Int} (h : AllBytes l) : rightB (sumOf l : Int) 4 = true := by
  have := sumOf_lt h
  have b : ((sumOf l : Nat) : Int) < 4294967296 := by omega
  simp [rightB, b]
theorem secR_ints {p s : Int} (h : secR p s = true) : -9223372036854775808 ≤ p ∧ p ≤ 9223372036854775807 ∧ -9223372036854775808 ≤ s ∧ s ≤ 9223372036854775807 := by
  have h' := of_decide_eq_true h
  omega
theorem secBody_bytes (p s : Int) {l : List Int} (h : AllBytes l) : AllBytes (secBody p s l) := (AllBytes.append (putB_bytes _ _) (putB_bytes _ _)).append h
theorem secBody_length (p s : Int) (l : List Int) : (secBody p s l).length = l.length + 12 := by
  simp [secBody, putB_length]; omega
theorem secL_bytes (p s : Int) {l : List Int} (h : AllBytes l) : AllBytes (secL p s l) := AllBytes.append (putB_bytes _ _) (secBody_bytes p s h)
theorem secL_length (p s : Int) (l : List Int) : (secL p s l).length = l.length + 16 := by
  simp [secL, putB_length, secBody_length]; omega
theorem packR_bytes (p s : Int) {l : List Int} (h : AllBytes l) : AllBytes (packR p s l).1 := by
  unfold packR
  split
  · exact secL_bytes p s h
  · exact AllBytes.nil
theorem unpackR_bytes {l : List Int} (h : AllBytes l) : AllBytes (unpackR l).2.2.1 := by
  unfold unpackR
  split
  · exact h.drop 16
  · exact AllBytes.nil

/-- The parts of a sector that was packed. -/
theorem secL_parts (p s : Int) (l : List Int) : (secL p s l).take 4 = putB (sumOf (secBody p s l) : Int) 4 ∧ (secL p s l).drop 4 = secBody p s l ∧ ((secL p s l).drop 4).take 4 = putB p 4 ∧ ((secL p s l).drop 8).take 8 = putB s 8 ∧ (secL p s l).drop 16 = l := by
  have e1 : (secL p s l).drop 4 = secBody p s l := by
    unfold secL
    rw [List.drop_append_of_le_length (by rw [putB_length]; omega), List.drop_of_length_le (by rw [putB_length]; omega), List.nil_append]
  have e2 : (secBody p s l).drop 4 = putB s 8 ++ l := by
    unfold secBody
    rw [List.append_assoc, List.drop_append_of_le_length (by rw [putB_length]; omega), List.drop_of_length_le (by rw [putB_length]; omega), List.nil_append]
  refine ⟨?_, e1, ?_, ?_, ?_⟩
  · unfold secL
    rw [List.take_append_of_le_length (by rw [putB_length]; omega), List.take_of_length_le (by rw [putB_length]; omega)]
  · rw [e1]
    unfold secBody
    rw [List.append_assoc, List.take_append_of_le_length (by rw [putB_length]; omega), List.take_of_length_le (by rw [putB_length]; omega)]
  · rw [show 8 = 4 + 4 from rfl, ← List.drop_drop, e1, e2]
    rw [List.take_append_of_le_length (by rw [putB_length]; omega), List.take_of_length_le (by rw [putB_length]; omega)]
  · rw [show 16 = 4 + (4 + 8) from rfl, ← List.drop_drop, e1, ← List.drop_drop, e2, List.drop_append_of_le_length (by rw [putB_length]; omega), List.drop_of_length_le (by rw [putB_length]; omega), List.nil_append]

/-- What was packed is unpacked. -/
theorem unpack_pack {p s : Int} {l : List Int} (hl : AllBytes l) (h : secR p s = true) (hn : l.length = 240) : unpackR (secL p s l) = (p, s, l, 0) := by
  obtain ⟨e1, e2, e3, e4, e5⟩ := secL_parts p s l
  obtain ⟨r1, r2⟩ := secR_right h
  obtain ⟨b1, b2, b3, b4⟩ := secR_ints h
  have hsum := sumOf_lt (secBody_bytes p s hl)
  have n1 : numOf (putB p 4) = p := wrap_putB r1 b1 b2
  have n2 : numOf (putB s 8) = s := wrap_putB r2 b3 b4
  have n3 : numOf (putB (sumOf (secBody p s l) : Int) 4) = (sumOf (secBody p s l) : Int) := wrap_putB (sum_right (secBody_bytes p s hl)) (by omega) (by omega)
  have hsec : isSec (secL p s l) := ⟨by rw [secL_length, hn], by rw [e1, n3, e2], by rw [e3, e4, n1, n2]; exact h⟩
  unfold unpackR
  rw [if_pos hsec, e3, e4, e5, n1, n2]

theorem putB_numOf4 {l : List Int} (h : AllBytes l) (hn : l.length = 4) : putB (numOf l) 4 = l := by
  match l, hn with
  | [a, b, c, d], _ =>
    have ha := h a (by simp); have hb := h b (by simp); have hc := h c (by simp); have hd := h d (by simp)
    rw [numOf_eq _ h]
    simp only [beOf, List.foldl_cons, List.foldl_nil, putB, List.nil_append, List.cons_append, List.cons.injEq, and_true]
    unfold wrap64
    refine ⟨by omega, by omega, by omega, by omega⟩
theorem putB_numOf8 {l : List Int} (h : AllBytes l) (hn : l.length = 8) : putB (numOf l) 8 = l := by
  match l, hn with
  | [a, b, c, d, e, f, g, i], _ =>
    have ha := h a (by simp); have hb := h b (by simp); have hc := h c (by simp); have hd := h d (by simp)
    have he := h e (by simp); have hf := h f (by simp); have hg := h g (by simp); have hi := h i (by simp)
    rw [numOf_eq _ h]
    simp only [beOf, List.foldl_cons, List.foldl_nil, putB, List.nil_append, List.cons_append, List.cons.injEq, and_true]
    unfold wrap64
    refine ⟨by omega, by omega, by omega, by omega, by omega, by omega, by omega, by omega⟩

/-- What is unpacked is packed as it was. -/
theorem pack_unpack {l : List Int} (hl : AllBytes l) (h : isSec l) : secL (numOf ((l.drop 4).take 4)) (numOf ((l.drop 8).take 8)) (l.drop 16) = l := by
  obtain ⟨hn, hs, hr⟩ := h
  have hb : secBody (numOf ((l.drop 4).take 4)) (numOf ((l.drop 8).take 8)) (l.drop 16) = l.drop 4 := by
    unfold secBody
    rw [putB_numOf4 ((hl.drop 4).take 4) (by simp; omega), putB_numOf8 ((hl.drop 8).take 8) (by simp; omega)]
    rw [List.append_assoc, show l.drop 16 = (l.drop 8).drop 8 from by rw [List.drop_drop], List.take_append_drop, show l.drop 8 = (l.drop 4).drop 4 from by rw [List.drop_drop], List.take_append_drop]
  unfold secL
  rw [hb, ← hs, putB_numOf4 (hl.take 4) (by simp; omega), List.take_append_drop]

theorem sumOf_set_ne {l : List Int} (h : AllBytes l) {i : Nat} (hi : i < l.length) {y : Int} (hy : 0 ≤ y ∧ y < 256) (hne : l[i] ≠ y) : sumOf l ≠ sumOf (l.set i y) := by
  intro e
  unfold sumOf at e
  have e' := xor_right_inj e
  rw [List.map_set] at e'
  refine runB_changed (nat_byte h) (by decide) i (by simpa using hi) y.toNat (by omega) ?_ e'
  rw [List.getElem_map]
  have := h _ (List.getElem_mem hi)
  omega
theorem numOf4_inj {l m : List Int} (hl : AllBytes l) (hm : AllBytes m) (h1 : l.length = 4) (h2 : m.length = 4) (h : numOf l = numOf m) : l = m := by
  rw [← putB_numOf4 hl h1, ← putB_numOf4 hm h2, h]
theorem set_bytes {l : List Int} (h : AllBytes l) (i : Nat) {y : Int} (hy : 0 ≤ y ∧ y < 256) : AllBytes (l.set i y) := by
  intro x hx
  rcases List.mem_or_eq_of_mem_set hx with a | a
  · exact h x a
  · subst a; exact hy

/-- A byte that is changed is found. -/
theorem changed_found {l : List Int} (hl : AllBytes l) (h : isSec l) {i : Nat} (hi : i < l.length) {y : Int} (hy : 0 ≤ y ∧ y < 256) (hne : l[i] ≠ y) : ¬ isSec (l.set i y) := by
  obtain ⟨hn, hs, _⟩ := h
  rintro ⟨_, hs', _⟩
  by_cases h4 : i < 4
  · have e : (l.set i y).drop 4 = l.drop 4 := by rw [List.drop_set_of_lt h4]
    rw [e, ← hs] at hs'
    have e' := numOf4_inj ((set_bytes hl i hy).take 4) (hl.take 4) (by simp; omega) (by simp; omega) hs'
    have e2 : ((l.set i y).take 4)[i]? = (l.take 4)[i]? := by rw [e']
    rw [List.getElem?_take, List.getElem?_take, if_pos h4, if_pos h4, List.getElem?_set_self hi, List.getElem?_eq_getElem hi] at e2
    exact hne (Option.some.inj e2).symm
  · have e : (l.set i y).take 4 = l.take 4 := by rw [List.take_set_of_le (by omega)]
    have e2 : (l.set i y).drop 4 = (l.drop 4).set (i - 4) y := by
      rw [List.drop_set, if_neg (by omega)]
    rw [e, e2, hs] at hs'
    refine sumOf_set_ne (hl.drop 4) (i := i - 4) (y := y) (by simp; omega) hy ?_ (by exact_mod_cast hs')
    rw [List.getElem_drop]
    have : 4 + (i - 4) = i := by omega
    simpa [this] using hne
theorem unpack_changed {l : List Int} (hl : AllBytes l) (h : isSec l) {i : Nat} (hi : i < l.length) {y : Int} (hy : 0 ≤ y ∧ y < 256) (hne : l[i] ≠ y) : unpackR (l.set i y) = (0, 0, [], 4) := by
  unfold unpackR
  rw [if_neg (changed_found hl h hi hy hne)]
theorem secL_isSec {p s : Int} {l : List Int} (hl : AllBytes l) (h : secR p s = true) (hn : l.length = 240) : isSec (secL p s l) := by
  by_cases hs : isSec (secL p s l)
  · exact hs
  · have := unpack_pack hl h hn
    unfold unpackR at this
    rw [if_neg hs] at this
    simp at this

end Go.Proofs.YtkpmfobmlaldfaaDoor

/-
  Plain: where on a disk what stands, as the document says. No program.
-/
namespace Go.Proofs.YtkpmfobmlaldfaaDoor
open Go.RowKit
set_option maxRecDepth 100000
set_option linter.unusedVariables false

/-- How many pages a disk of n sectors has. -/
def pagesOf (n : Int) : Int := if n < 3 ∨ n > 65536 then 0 else (n - 1) / 2
def slotOf (n i : Int) : Int × Bool := if i < 0 ∨ i ≥ pagesOf n then (0, false) else (i + 1, true)
def homeOf (n p : Int) : Int × Bool := if p < 0 ∨ p ≥ pagesOf n then (0, false) else (p + 1 + pagesOf n, true)

theorem pagesOf_bounds (n : Int) : 0 ≤ pagesOf n ∧ pagesOf n ≤ 32767 := by
  unfold pagesOf
  split <;> omega

theorem pagesOf_nn (n : Int) : 0 ≤ pagesOf n ∧ (3 ≤ n → 2 * pagesOf n < n) ∧ pagesOf n ≤ 32767 := by
  unfold pagesOf
  split <;> omega

theorem int_bounds' {n : Int} (h : (Lit.int .i64 n).wf = true) : -9223372036854775808 ≤ n ∧ n ≤ 9223372036854775807 := by
  simpa [Lit.wf, IntKind.min, IntKind.max, IntKind.signed, IntKind.bits] using h

end Go.Proofs.YtkpmfobmlaldfaaDoor

/-
  Plain: what a log makes of a disk, as the document says: layout, Format, Open, Load, Commit over the plain state of a disk. No program.
-/
namespace Go.Proofs.YtkpmfobmlaldfaaDoor
open Go.RowKit
set_option maxRecDepth 100000
set_option linter.unusedVariables false

/-- Noughts, a page. -/
def zpage : List Int := List.replicate 240 0
theorem zpage_ok : zpage.length = 240 ∧ AllBytes zpage := ⟨List.length_replicate .., fun x hx => by
  obtain rfl := (List.mem_replicate.1 hx).2
  decide⟩

def DS.P (S : DS) : Int := pagesOf S.n
/-- One step, unless the one ahead failed. -/
def thenS (r : Int × DS) (f : DS → Int × DS) : Int × DS := if r.1 = 0 then f r.2 else r
def DS.wr (S : DS) (i : Int) (l : List Int) : Int × DS := (S.writeE i l, S.write i l)
def DS.fl (S : DS) : Int × DS := (S.flushE, S.flush)
def markS (S : DS) (count seq : Int) : Int × DS := thenS (S.wr 0 (packR count seq zpage).1) DS.fl
/-- What an image of a disk has in its i-th slot: a page's number and the sector, if it is one of that seq. -/
def slotIn (n : Int) (f : Nat → List Int) (seq : Int) (i : Nat) : Option (Int × List Int) :=
  if (unpackR (f (i + 1))).2.2.2 = 0 ∧ (unpackR (f (i + 1))).2.1 = seq ∧ (unpackR (f (i + 1))).1 < pagesOf n then some ((unpackR (f (i + 1))).1, f (i + 1)) else none
/-- The first slots, if they are whole. -/
def slotsUp (n : Int) (f : Nat → List Int) (seq : Int) : Nat → Option (List (Int × List Int))
  | 0 => some []
  | k + 1 => match slotsUp n f seq k, slotIn n f seq k with | some l, some x => some (l ++ [x]) | _, _ => none
def slotsOf (n : Int) (f : Nat → List Int) (count seq : Int) : Option (List (Int × List Int)) := if count > pagesOf n then none else slotsUp n f seq count.toNat
def homesS (S : DS) : List (Int × List Int) → Int × DS
  | [] => S.fl
  | (p, b) :: r => thenS (S.wr (p + 1 + S.P) b) (fun S' => homesS S' r)
/-- What Open answers: an error or 0, the seq, and the disk. -/
def openS (S : DS) : Int × Int × DS :=
  if S.down = true then (5, 0, S) else
  if (unpackR (S.last 0)).2.2.2 ≠ 0 then (4, 0, S) else
  match slotsOf S.n S.last (unpackR (S.last 0)).1 (unpackR (S.last 0)).2.1 with
  | none => (0, (unpackR (S.last 0)).2.1, S)
  | some l => if (homesS S l).1 ≠ 0 then ((homesS S l).1, 0, (homesS S l).2) else (0, (unpackR (S.last 0)).2.1, (homesS S l).2)
def loadS (S : DS) (p : Int) : List Int × Int :=
  if p < 0 ∨ p ≥ S.P then ([], 1) else if S.down = true then ([], 5) else
  if (unpackR (S.last (p + 1 + S.P).toNat)).2.2.2 ≠ 0 ∨ (unpackR (S.last (p + 1 + S.P).toNat)).1 ≠ p then (zpage, 0) else ((unpackR (S.last (p + 1 + S.P).toNat)).2.2.1, 0)
/-- Images that may be committed. -/
def rightS (S : DS) (l : List (Int × List Int)) : Prop := (∀ x ∈ l, 0 ≤ x.1 ∧ x.1 < S.P ∧ x.2.length = 240) ∧ (l.map (·.1)).Nodup
instance (S : DS) (l : List (Int × List Int)) : Decidable (rightS S l) := by unfold rightS; infer_instance
/-- The sectors of images. -/
def packs (seq : Int) (l : List (Int × List Int)) : List (Int × List Int) := l.map fun x => (x.1, (packR x.1 seq x.2).1)
/-- Sectors are written one behind the other, from i on. -/
def slotsS (S : DS) (i : Int) : List (Int × List Int) → Int × DS
  | [] => (0, S)
  | (_, b) :: r => thenS (S.wr (i + 1) b) (fun S' => slotsS S' (i + 1) r)
def commitS (S : DS) (seq : Int) (l : List (Int × List Int)) : Int × Int × DS :=
  if (l.length : Int) > S.P then (6, seq, S) else if ¬ rightS S l then (1, seq, S) else if l = [] then (0, seq, S) else
  let a := thenS (slotsS S 0 (packs (seq + 1) l)) DS.fl
  if a.1 ≠ 0 then (a.1, seq, a.2) else
  let m := markS a.2 l.length (seq + 1)
  if m.1 ≠ 0 then (m.1, seq, m.2) else
  ((homesS m.2 (packs (seq + 1) l)).1, seq + 1, (homesS m.2 (packs (seq + 1) l)).2)

/-! ### images -/
/-- What a write of sectors makes of an image. -/
def putF (f : Nat → List Int) (i : Nat) (l : List Int) : Nat → List Int := fun j => if j = i then l else f j
def putH (n : Int) (f : Nat → List Int) (l : List (Int × List Int)) : Nat → List Int := l.foldl (fun g x => putF g (x.1 + 1 + pagesOf n).toNat x.2) f
/-- The image when it was opened. -/
def opened (n : Int) (f : Nat → List Int) : Nat → List Int :=
  match slotsOf n f (unpackR (f 0)).1 (unpackR (f 0)).2.1 with
  | none => f
  | some l => putH n f l
/-- A page of an image. -/
def pageIn (n : Int) (f : Nat → List Int) (p : Int) : List Int :=
  if (unpackR (f (p + 1 + pagesOf n).toNat)).2.2.2 ≠ 0 ∨ (unpackR (f (p + 1 + pagesOf n).toNat)).1 ≠ p then zpage else (unpackR (f (p + 1 + pagesOf n).toNat)).2.2.1

/-- The disk is an image, all of it safe. -/
structure Rests (S : DS) (f : Nat → List Int) : Prop where
  safe : S.safe = f
  last : S.last = f
  up : S.down = false

/-- Each sector has what f has, or what is in W. -/
def Within (f : Nat → List Int) (W : Nat → List Int → Prop) (g : Nat → List Int) : Prop := ∀ i, g i = f i ∨ W i (g i)

section
variable {S : DS} {f g : Nat → List Int} {W : Nat → List Int → Prop} {n : Int}

theorem Within.refl (f : Nat → List Int) (W : Nat → List Int → Prop) : Within f W f := fun i => .inl rfl
theorem Within.put (h : Within f W g) {i : Nat} {l : List Int} (hw : W i l) : Within f W (putF g i l) := fun j => by
  unfold putF
  by_cases e : j = i
  · subst e; rw [if_pos rfl]; exact .inr hw
  · rw [if_neg e]; exact h j

/-- Both what is safe and what was written last. -/
def Both (f : Nat → List Int) (W : Nat → List Int → Prop) (S : DS) : Prop := Within f W S.safe ∧ Within f W S.last

theorem Both.write (h : Both f W S) {i : Int} {l : List Int} (hw : W i.toNat l) : Both f W (S.write i l) := by
  unfold DS.write
  split
  · exact h
  split
  · exact h
  split
  · exact h
  · exact ⟨h.1, h.2.put hw⟩
theorem Both.flush (h : Both f W S) : Both f W S.flush := by
  unfold DS.flush
  split
  · exact h
  · exact ⟨h.2, h.2⟩
theorem Both.fuse (h : Both f W S) (k : Int) : Both f W (S.fuse k) := h
open Classical in
theorem Both.crash (h : Both f W S) (keep : List Int) : Within f W (S.crash keep).last ∧ Rests (S.crash keep) (S.crash keep).last := by
  refine ⟨fun i => ?_, rfl, rfl, rfl⟩
  show (if S.kept keep i then S.last i else S.safe i) = f i ∨ W i (if S.kept keep i then S.last i else S.safe i)
  split
  · exact h.2 i
  · exact h.1 i
theorem Rests.both (h : Rests S f) (W : Nat → List Int → Prop) : Both f W S := by
  obtain ⟨h1, h2, _⟩ := h
  exact ⟨by rw [h1]; exact Within.refl f W, by rw [h2]; exact Within.refl f W⟩

theorem Both.homes (l : List (Int × List Int)) : ∀ {S : DS}, Both f W S → (∀ x ∈ l, W (x.1 + 1 + S.P).toNat x.2) → Both f W (homesS S l).2 := by
  induction l with
  | nil => intro S h _; exact h.flush
  | cons x r ih =>
    obtain ⟨p, b⟩ := x
    intro S h hw
    unfold homesS thenS
    have h1 : Both f W (S.write (p + 1 + S.P) b) := h.write (hw _ (List.mem_cons_self ..))
    have hn : (S.write (p + 1 + S.P) b).P = S.P := by
      unfold DS.P DS.write
      split
      · rfl
      split
      · rfl
      split <;> rfl
    split
    · exact ih h1 fun x hx => by
        rw [show (S.wr (p + 1 + S.P) b).2 = S.write (p + 1 + S.P) b from rfl, hn]
        exact hw x (List.mem_cons_of_mem _ hx)
    · exact h1
theorem Both.slots (l : List (Int × List Int)) : ∀ {S : DS} (i : Int), Both f W S → (∀ (k : Nat) (x : Int × List Int), l[k]? = some x → W (i + k + 1).toNat x.2) → Both f W (slotsS S i l).2 := by
  induction l with
  | nil => intro S i h _; exact h
  | cons x r ih =>
    obtain ⟨p, b⟩ := x
    intro S i h hw
    unfold slotsS thenS
    have h1 : Both f W (S.write (i + 1) b) := h.write (by have := hw 0 _ rfl; simpa using this)
    split
    · exact ih (i + 1) h1 fun k x hx => by
        have := hw (k + 1) x hx
        rw [show i + 1 + (k : Int) + 1 = i + ((k + 1 : Nat) : Int) + 1 by omega]
        exact this
    · exact h1
end

end Go.Proofs.YtkpmfobmlaldfaaDoor

/-
  Plain: wherever the disk goes down in a commit, or in opening it again: all its pages are there, or none. No program.
-/
namespace Go.Proofs.YtkpmfobmlaldfaaDoor
open Go.RowKit
set_option maxRecDepth 100000
set_option linter.unusedVariables false

section
variable {S : DS} {f g : Nat → List Int} {n : Int}

/-! ### what is done when nothing fails -/
theorem write_done {i : Int} {l : List Int} (h : S.writeE i l = 0) : S.down = false ∧ S.write i l = S.put i.toNat l := by
  unfold DS.writeE at h
  split at h
  · cases h
  rename_i hd
  split at h
  · cases h
  rename_i h2
  split at h
  · cases h
  rename_i h3
  refine ⟨by simpa using hd, ?_⟩
  unfold DS.write
  rw [if_neg hd, if_neg h2, if_neg h3]
theorem flush_done (h : S.flushE = 0) : S.down = false ∧ S.flush = { S with safe := S.last, pend := [] } := by
  unfold DS.flushE at h
  split at h
  · cases h
  rename_i hd
  refine ⟨by simpa using hd, ?_⟩
  unfold DS.flush
  rw [if_neg hd]
theorem homes_done (l : List (Int × List Int)) : ∀ {S : DS}, (homesS S l).1 = 0 → Rests (homesS S l).2 (putH S.n S.last l) ∧ (homesS S l).2.n = S.n := by
  induction l with
  | nil =>
    intro S h
    obtain ⟨h1, h2⟩ := flush_done (S := S) h
    have e : (homesS S []).2 = { S with safe := S.last, pend := [] } := h2
    rw [e]
    exact ⟨⟨rfl, rfl, h1⟩, rfl⟩
  | cons x r ih =>
    obtain ⟨p, b⟩ := x
    intro S h
    unfold homesS thenS at h ⊢
    by_cases h0 : (S.wr (p + 1 + S.P) b).1 = 0
    · rw [if_pos h0] at h ⊢
      obtain ⟨h1, h2⟩ := write_done (S := S) (i := p + 1 + S.P) (l := b) h0
      have e : (S.wr (p + 1 + S.P) b).2 = S.put (p + 1 + S.P).toNat b := h2
      rw [e] at h ⊢
      obtain ⟨h3, h4⟩ := ih h
      exact ⟨h3, h4⟩
    · rw [if_neg h0] at h
      exact absurd h h0

/-- Sectors put one behind the other, from i on. -/
def putSl (f : Nat → List Int) (i : Nat) : List (Int × List Int) → Nat → List Int
  | [] => f
  | x :: r => putSl (putF f (i + 1) x.2) (i + 1) r
theorem putSl_far (l : List (Int × List Int)) : ∀ (f : Nat → List Int) (i j : Nat), j ≤ i ∨ i + l.length < j → putSl f i l j = f j := by
  induction l with
  | nil => intro f i j _; rfl
  | cons x r ih =>
    intro f i j h
    rw [putSl, ih _ _ _ (by simp only [List.length_cons] at h; omega), putF, if_neg (by simp only [List.length_cons] at h; omega)]
theorem putSl_at (l : List (Int × List Int)) : ∀ (f : Nat → List Int) (i k : Nat) (x : Int × List Int), l[k]? = some x → putSl f i l (i + k + 1) = x.2 := by
  induction l with
  | nil => intro f i k x h; simp at h
  | cons y r ih =>
    intro f i k x h
    rw [putSl]
    cases k with
    | zero =>
      obtain rfl : y = x := by simpa using h
      rw [putSl_far _ _ _ _ (.inl (by omega)), putF, if_pos (by omega)]
    | succ k =>
      rw [show i + (k + 1) + 1 = (i + 1) + k + 1 by omega]
      exact ih _ _ k x (by simpa using h)
theorem slots_done (l : List (Int × List Int)) : ∀ {S : DS} (i : Nat), S.down = false → (slotsS S i l).1 = 0 → (slotsS S i l).2.last = putSl S.last i l ∧ (slotsS S i l).2.n = S.n ∧ (slotsS S i l).2.down = false := by
  induction l with
  | nil => intro S i hd _; exact ⟨rfl, rfl, hd⟩
  | cons x r ih =>
    obtain ⟨p, b⟩ := x
    intro S i hd h
    unfold slotsS thenS at h ⊢
    by_cases h0 : (S.wr ((i : Int) + 1) b).1 = 0
    · rw [if_pos h0] at h ⊢
      obtain ⟨h1, h2⟩ := write_done (S := S) (i := (i : Int) + 1) (l := b) h0
      have e : (S.wr ((i : Int) + 1) b).2 = S.put (i + 1) b := by
        have : ((i : Int) + 1).toNat = i + 1 := by omega
        rw [← this]; exact h2
      rw [e] at h ⊢
      rw [show (i : Int) + 1 = ((i + 1 : Nat) : Int) by omega] at h ⊢
      obtain ⟨h3, h4, h5⟩ := ih (S := S.put (i + 1) b) (i + 1) hd h
      exact ⟨h3, h4, h5⟩
    · rw [if_neg h0] at h
      exact absurd h h0

/-! ### when nothing can fail -/
/-- A disk that is up and not armed. -/
structure Free (S : DS) : Prop where
  up : S.down = false
  arm : S.arm = none
theorem Free.write (h : Free S) {i : Int} {l : List Int} (hi : 0 ≤ i ∧ i < S.n) (hl : l.length = 256) : S.writeE i l = 0 ∧ Free (S.write i l) ∧ (S.write i l).n = S.n := by
  have e : S.writeE i l = 0 := by
    unfold DS.writeE
    rw [if_neg (by simp [h.up]), if_neg (fun h' => h' ⟨hi, hl⟩), if_neg (by simp [h.arm])]
  obtain ⟨_, h2⟩ := write_done e
  rw [h2]
  exact ⟨e, ⟨h.up, by show S.arm.map _ = none; rw [h.arm]; rfl⟩, rfl⟩
theorem Free.flush (h : Free S) : S.flushE = 0 ∧ Free S.flush := by
  have e : S.flushE = 0 := by unfold DS.flushE; rw [if_neg (by simp [h.up])]
  obtain ⟨_, h2⟩ := flush_done e
  rw [h2]
  exact ⟨e, h.up, h.arm⟩
theorem Free.homes (l : List (Int × List Int)) : ∀ {S : DS}, Free S → (∀ x ∈ l, (0 ≤ x.1 + 1 + S.P ∧ x.1 + 1 + S.P < S.n) ∧ x.2.length = 256) → (homesS S l).1 = 0 ∧ Free (homesS S l).2 := by
  induction l with
  | nil => intro S h _; exact h.flush
  | cons x r ih =>
    obtain ⟨p, b⟩ := x
    intro S h hv
    obtain ⟨v1, v2⟩ := hv _ (List.mem_cons_self ..)
    obtain ⟨h1, h2, h3⟩ := h.write v1 v2
    unfold homesS thenS
    rw [if_pos (show (S.wr (p + 1 + S.P) b).1 = 0 from h1)]
    have h3' : (S.write (p + 1 + S.P) b).n = S.n := h3
    have e1 : (S.wr (p + 1 + S.P) b).2.P = S.P := by
      show pagesOf ((S.write (p + 1 + S.P) b).n : Int) = pagesOf (S.n : Int)
      rw [h3']
    have e2 : (S.wr (p + 1 + S.P) b).2.n = S.n := h3
    exact ih h2 fun x hx => by
      rw [e1, e2]
      exact hv x (List.mem_cons_of_mem _ hx)
theorem Free.slots (l : List (Int × List Int)) : ∀ {S : DS} (i : Nat), Free S → i + l.length < S.n → (∀ x ∈ l, x.2.length = 256) → (slotsS S i l).1 = 0 ∧ Free (slotsS S i l).2 := by
  induction l with
  | nil => intro S i h _ _; exact ⟨rfl, h⟩
  | cons x r ih =>
    obtain ⟨p, b⟩ := x
    intro S i h hn hv
    simp only [List.length_cons] at hn
    obtain ⟨h1, h2, h3⟩ := h.write (i := (i : Int) + 1) (by omega) (hv _ (List.mem_cons_self ..))
    unfold slotsS thenS
    rw [if_pos (show (S.wr ((i : Int) + 1) b).1 = 0 from h1)]
    rw [show (i : Int) + 1 = ((i + 1 : Nat) : Int) by omega] at h2 h3 ⊢
    exact ih (i + 1) h2 (by show i + 1 + r.length < (S.write ((i + 1 : Nat) : Int) b).n; rw [h3]; omega) fun x hx => hv x (List.mem_cons_of_mem _ hx)

/-! ### images -/
theorem putH_same (l : List (Int × List Int)) : ∀ {f g : Nat → List Int} (j : Nat), (∃ x ∈ l, j = (x.1 + 1 + pagesOf n).toNat) ∨ f j = g j → putH n f l j = putH n g l j := by
  induction l with
  | nil =>
    intro f g j h
    rcases h with ⟨x, hx, _⟩ | h
    · cases hx
    · exact h
  | cons y r ih =>
    intro f g j h
    show putH n (putF f _ y.2) r j = putH n (putF g _ y.2) r j
    apply ih
    rcases h with ⟨x, hx, e⟩ | h
    · rcases List.mem_cons.1 hx with rfl | hx
      · right; unfold putF; rw [if_pos e, if_pos e]
      · exact .inl ⟨x, hx, e⟩
    · right
      unfold putF
      split
      · rfl
      · exact h
theorem putH_within (l : List (Int × List Int)) : ∀ {f g : Nat → List Int} {W : Nat → List Int → Prop}, Within f W g → (∀ x ∈ l, W (x.1 + 1 + pagesOf n).toNat x.2) → Within f W (putH n g l) := by
  induction l with
  | nil => intro f g W h _; exact h
  | cons y r ih =>
    intro f g W h hw
    exact ih (h.put (hw y (List.mem_cons_self ..))) fun x hx => hw x (List.mem_cons_of_mem _ hx)
theorem putH_far (l : List (Int × List Int)) : ∀ {f : Nat → List Int} (j : Nat), (∀ x ∈ l, j ≠ (x.1 + 1 + pagesOf n).toNat) → putH n f l j = f j := by
  induction l with
  | nil => intro f j _; rfl
  | cons y r ih =>
    intro f j h
    show putH n (putF f _ y.2) r j = f j
    rw [ih _ (fun x hx => h x (List.mem_cons_of_mem _ hx)), putF, if_neg (h y (List.mem_cons_self ..))]

/-- What stands on the slots' list. -/
theorem slotsUp_mem {seq : Int} : ∀ (k : Nat) {l : List (Int × List Int)}, slotsUp n f seq k = some l → l.length = k ∧ ∀ i x, l[i]? = some x → slotIn n f seq i = some x := by
  intro k
  induction k with
  | zero =>
    intro l h
    have : [] = l := by simpa [slotsUp] using h
    subst this
    exact ⟨rfl, fun i x hx => by simp at hx⟩
  | succ k ih =>
    intro l h
    unfold slotsUp at h
    split at h
    · rename_i l' x' h1 h2
      obtain rfl : l' ++ [x'] = l := by simpa using h
      obtain ⟨h3, h4⟩ := ih h1
      refine ⟨by simp [h3], fun i x hx => ?_⟩
      rcases Nat.lt_or_ge i l'.length with hi | hi
      · rw [List.getElem?_append_left hi] at hx
        exact h4 i x hx
      · rw [List.getElem?_append_right hi] at hx
        have hik : i - l'.length = 0 := by
          have := (List.getElem?_eq_some_iff.1 hx).1
          simp at this
          omega
        rw [hik] at hx
        obtain rfl : x' = x := by simpa using hx
        rw [show i = k by omega]
        exact h2
    · cases h
theorem slotsUp_of {seq : Int} : ∀ (k : Nat) {l : List (Int × List Int)}, l.length = k → (∀ i x, l[i]? = some x → slotIn n f seq i = some x) → slotsUp n f seq k = some l := by
  intro k
  induction k with
  | zero =>
    intro l h _
    rw [List.length_eq_zero_iff.1 h]
    rfl
  | succ k ih =>
    intro l h hx
    have hne : l ≠ [] := by intro e; rw [e] at h; cases h
    obtain ⟨l', x', rfl⟩ : ∃ l' x', l = l' ++ [x'] := ⟨l.dropLast, l.getLast hne, (List.dropLast_concat_getLast hne).symm⟩
    have hl' : l'.length = k := by simp at h; omega
    have h1 := ih hl' (fun i x hi => hx i x (by rw [List.getElem?_append_left ((List.getElem?_eq_some_iff.1 hi).1)]; exact hi))
    have h2 := hx k x' (by rw [List.getElem?_append_right (by omega)]; simp [hl'])
    unfold slotsUp
    rw [h1, h2]
theorem slotIn_some {seq : Int} {i : Nat} {x : Int × List Int} (h : slotIn n f seq i = some x) : (unpackR (f (i + 1))).2.2.2 = 0 ∧ (unpackR (f (i + 1))).2.1 = seq ∧ (unpackR (f (i + 1))).1 < pagesOf n ∧ x = ((unpackR (f (i + 1))).1, f (i + 1)) := by
  unfold slotIn at h
  split at h
  · rename_i hc
    exact ⟨hc.1, hc.2.1, hc.2.2, (by simpa using h.symm)⟩
  · cases h
theorem slotIn_same {seq : Int} {i : Nat} (e : g (i + 1) = f (i + 1)) : slotIn n g seq i = slotIn n f seq i := by
  unfold slotIn
  rw [e]
theorem unpack_page {l : List Int} (h : (unpackR l).2.2.2 = 0) : 0 ≤ (unpackR l).1 ∧ 0 ≤ (unpackR l).2.1 ∧ l.length = 256 := by
  unfold unpackR at h ⊢
  by_cases hs : isSec l
  · rw [if_pos hs]
    obtain ⟨h1, _, h3⟩ := hs
    have h4 := of_decide_eq_true h3
    exact ⟨h4.1, h4.2.2.1, h1⟩
  · rw [if_neg hs] at h
    cases h

/-- The list of the slots of an image, with its mark. -/
def listed (n : Int) (f : Nat → List Int) : Option (List (Int × List Int)) := slotsOf n f (unpackR (f 0)).1 (unpackR (f 0)).2.1
theorem opened_some {l : List (Int × List Int)} (h : listed n f = some l) : opened n f = putH n f l := by
  unfold opened
  rw [show slotsOf n f (unpackR (f 0)).1 (unpackR (f 0)).2.1 = some l from h]
theorem opened_none (h : listed n f = none) : opened n f = f := by
  unfold opened
  rw [show slotsOf n f (unpackR (f 0)).1 (unpackR (f 0)).2.1 = none from h]
theorem slotsOf_some {c s : Int} {l : List (Int × List Int)} (h : slotsOf n f c s = some l) : c ≤ pagesOf n ∧ slotsUp n f s c.toNat = some l := by
  unfold slotsOf at h
  split at h
  · cases h
  · rename_i hc
    exact ⟨by omega, h⟩
theorem slotsOf_of {c s : Int} {l : List (Int × List Int)} (hc : c ≤ pagesOf n) (h : slotsUp n f s c.toNat = some l) : slotsOf n f c s = some l := by
  unfold slotsOf
  rw [if_neg (by omega)]
  exact h
theorem listed_mem {l : List (Int × List Int)} (h : listed n f = some l) : ∀ x ∈ l, (0 ≤ x.1 ∧ x.1 < pagesOf n) ∧ x.2.length = 256 := by
  intro x hx
  obtain ⟨_, h2⟩ := slotsOf_some h
  obtain ⟨h3, h4⟩ := slotsUp_mem _ h2
  obtain ⟨i, hi, e⟩ := List.getElem_of_mem hx
  obtain ⟨h5, _, h6, h7⟩ := slotIn_some (h4 i x (by rw [List.getElem?_eq_getElem hi, e]))
  obtain ⟨h8, _, h9⟩ := unpack_page h5
  rw [h7]
  exact ⟨⟨h8, h6⟩, h9⟩

/-- The homes of a list. -/
def HomeW (n : Int) (l : List (Int × List Int)) (i : Nat) (b : List Int) : Prop := ∃ x ∈ l, i = (x.1 + 1 + pagesOf n).toNat ∧ b = x.2
theorem homeW_far {l : List (Int × List Int)} (hl : ∀ x ∈ l, 0 ≤ x.1) (h : Within f (HomeW n l) g) (hn : 0 ≤ pagesOf n) {j : Nat} (hj : (j : Int) ≤ pagesOf n) : g j = f j := by
  rcases h j with e | ⟨x, hx, e, _⟩
  · exact e
  · have := hl x hx
    omega

/-- An image that was opened in part is opened as the whole. -/
theorem opened_part {l : List (Int × List Int)} (hn : 0 ≤ pagesOf n) (h : listed n f = some l) (hw : Within f (HomeW n l) g) : listed n g = some l ∧ opened n g = opened n f := by
  have hl : ∀ x ∈ l, 0 ≤ x.1 := fun x hx => (listed_mem h x hx).1.1
  have e0 : g 0 = f 0 := homeW_far hl hw hn (by omega)
  have hg : listed n g = some l := by
    obtain ⟨h1, h2⟩ := slotsOf_some h
    obtain ⟨h3, h4⟩ := slotsUp_mem _ h2
    unfold listed
    rw [e0]
    refine slotsOf_of h1 (slotsUp_of _ h3 fun i x hx => ?_)
    have hi := (List.getElem?_eq_some_iff.1 hx).1
    rw [slotIn_same (homeW_far hl hw hn (by omega))]
    exact h4 i x hx
  refine ⟨hg, ?_⟩
  rw [opened_some h, opened_some hg]
  funext j
  apply putH_same
  rcases hw j with e | ⟨x, hx, e, _⟩
  · exact .inr e
  · exact .inl ⟨x, hx, e⟩
theorem opened_twice (hn : 0 ≤ pagesOf n) (f : Nat → List Int) : opened n (opened n f) = opened n f := by
  rcases h : listed n f with _ | l
  · rw [opened_none h, opened_none h]
  · rw [opened_some h]
    have hw : Within f (HomeW n l) (putH n f l) := putH_within l (Within.refl _ _) fun x hx => ⟨x, hx, rfl, rfl⟩
    rw [(opened_part hn h hw).2, opened_some h]
end

end Go.Proofs.YtkpmfobmlaldfaaDoor
