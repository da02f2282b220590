/-
  The texts BkE, BkF, BkG, BkH joined. Conditions: those that each part says at its head.
-/
import Derived.Test.YtfbljmkjiaklfaaGreatDoorG22
import Derived.Deep.RegionHeld3
import Derived.Lib.BufferWrite
import Derived.Maps.AppendAt
import Derived.Deep.AppendLies

/-
  Contract of bucket.Put. Condition: pairs of few bytes; numbers are ints.
-/
namespace Go.Proofs.YtfbljmkjiaklfaaGreatDoor
open Go.RowKit
set_option maxRecDepth 100000
set_option linter.unusedVariables false

/-- Put of one number alone. -/
theorem bkPutNil_any (x : Int) (k : Nat) (w : World) (hs : rightB x (k : Int) = true) (hk8 : k ≤ 8) (hx : -9223372036854775808 ≤ x ∧ x ≤ 9223372036854775807) :
    Calls Tryz.prog 173 #[.slice none 0 0, .int .i64 x, .int .i64 (k : Int)] w fun e w' => ∃ g, e = .returned (.slice (some ⟨g, 0, none⟩) k k) ∧ w.heap.size ≤ g ∧ RB w' w'.heap.size (some ⟨g, 0, none⟩) k (putB x k) ∧ Below w.heap.size w w' := by
  refine (Put_any none 0 0 0 [] x (k : Int) w RB.nil_ (Nat.zero_le _) (Nat.le_refl _) (by decide) hx.1 hx.2).mono ?_
  rintro e w' ⟨v, rfl, ⟨g, rfl, hg, hh⟩, hb⟩
  have e1 : putR [] x (k : Int) = putB x k := by
    unfold putR
    rw [if_pos hs, Int.toNat_natCast, List.nil_append]
  rw [e1] at hh
  refine ⟨g, by rw [e1, putB_length], hg, ⟨putB_length _ _, putB_bytes _ _, fun _ => ⟨g, 0, rfl, (Array.getElem?_eq_some_iff.1 hh).1, fun j hj => ?_⟩⟩, hb⟩
  rw [Nat.zero_add, cell_of_row w' g j _ _ (0, 0) hh, List.getElem?_toArray, List.getElem?_map, List.getElem?_eq_getElem (by rw [putB_length]; exact hj)]
  rfl

/-- A part that stands in a world, apart from block g. -/
structure Part (w : World) (g : Nat) (A : Option Addr) (n c : Nat) (l : List Int) : Prop where
  hm : n ≤ maxLen
  hc : n ≤ c
  hr : RB w w.heap.size A n l
  hg : ∀ x, A = some x → 0 < n → x.block ≠ g
theorem Part.below {w w' : World} {g n c : Nat} {A : Option Addr} {l : List Int} (h : Part w g A n c l) (hb : Below w.heap.size w w') : Part w' g A n c l := ⟨h.hm, h.hc, (h.hr.below hb).more hb.size, h.hg⟩
theorem Part.at_ {w w' : World} {g n c b off : Nat} {A : Option Addr} {l : List Int} (h : Part w g A n c l) (hb : Below w.heap.size w w') (hcell : w'.cell? ⟨b, off, none⟩ = some (.slice A n c)) : PartAt w' g b off l :=
  ⟨A, n, c, hcell, h.hm, h.hc, (h.hr.below hb).more hb.size, h.hg⟩
theorem parts3 {w : World} {g n1 n2 n3 c1 c2 c3 : Nat} {A1 A2 A3 : Option Addr} {l1 l2 l3 : List Int} (T : TypeId) (hg : g < w.heap.size) (h1 : Part w g A1 n1 c1 l1) (h2 : Part w g A2 n2 c2 l2) (h3 : Part w g A3 n3 c3 l3) : RParts (w.alloc (.cells #[.slice A1 n1 c1, .slice A2 n2 c2, .slice A3 n3 c3] T (0, 0))) g (some ⟨w.heap.size, 0, none⟩) 3 [l1, l2, l3] := by
  have hX : Below w.heap.size w (w.alloc (.cells #[.slice A1 n1 c1, .slice A2 n2 c2, .slice A3 n3 c3] T (0, 0))) := (Below.refl _ _).alloc (Nat.le_refl _) _
  have hh := heap_alloc_new w (.cells #[.slice A1 n1 c1, .slice A2 n2 c2, .slice A3 n3 c3] T (0, 0))
  refine ⟨rfl, fun _ => ⟨w.heap.size, 0, rfl, by omega, by simp, fun j l hj => ?_⟩⟩
  match j, hj with
  | 0, hj => obtain rfl : l1 = l := by simpa using hj
             exact h1.at_ hX (by rw [cell_of_row _ _ _ _ _ (0, 0) hh]; rfl)
  | 1, hj => obtain rfl : l2 = l := by simpa using hj
             exact h2.at_ hX (by rw [cell_of_row _ _ _ _ _ (0, 0) hh]; rfl)
  | 2, hj => obtain rfl : l3 = l := by simpa using hj
             exact h3.at_ hX (by rw [cell_of_row _ _ _ _ _ (0, 0) hh]; rfl)
theorem parts4 {w : World} {g n1 n2 n3 n4 c1 c2 c3 c4 : Nat} {A1 A2 A3 A4 : Option Addr} {l1 l2 l3 l4 : List Int} (T : TypeId) (hg : g < w.heap.size) (h1 : Part w g A1 n1 c1 l1) (h2 : Part w g A2 n2 c2 l2) (h3 : Part w g A3 n3 c3 l3) (h4 : Part w g A4 n4 c4 l4) : RParts (w.alloc (.cells #[.slice A1 n1 c1, .slice A2 n2 c2, .slice A3 n3 c3, .slice A4 n4 c4] T (0, 0))) g (some ⟨w.heap.size, 0, none⟩) 4 [l1, l2, l3, l4] := by
  have hX : Below w.heap.size w (w.alloc (.cells #[.slice A1 n1 c1, .slice A2 n2 c2, .slice A3 n3 c3, .slice A4 n4 c4] T (0, 0))) := (Below.refl _ _).alloc (Nat.le_refl _) _
  have hh := heap_alloc_new w (.cells #[.slice A1 n1 c1, .slice A2 n2 c2, .slice A3 n3 c3, .slice A4 n4 c4] T (0, 0))
  refine ⟨rfl, fun _ => ⟨w.heap.size, 0, rfl, by omega, by simp, fun j l hj => ?_⟩⟩
  match j, hj with
  | 0, hj => obtain rfl : l1 = l := by simpa using hj
             exact h1.at_ hX (by rw [cell_of_row _ _ _ _ _ (0, 0) hh]; rfl)
  | 1, hj => obtain rfl : l2 = l := by simpa using hj
             exact h2.at_ hX (by rw [cell_of_row _ _ _ _ _ (0, 0) hh]; rfl)
  | 2, hj => obtain rfl : l3 = l := by simpa using hj
             exact h3.at_ hX (by rw [cell_of_row _ _ _ _ _ (0, 0) hh]; rfl)
  | 3, hj => obtain rfl : l4 = l := by simpa using hj
             exact h4.at_ hX (by rw [cell_of_row _ _ _ _ _ (0, 0) hh]; rfl)

theorem putB_one {x : Int} (h : 0 ≤ x ∧ x < 256) : putB x 1 = [x] := by
  show [] ++ [x % 256] = [x]
  rw [List.nil_append, Int.emod_eq_of_lt h.1 h.2]
/-- A page of noughts. -/
def zeroL : List Int := List.replicate 240 0
theorem zeroL_length : zeroL.length = 240 := List.length_replicate
theorem zeroL_cells : zeroL.map (Value.int .u8) = List.replicate 240 (Value.int .u8 0) := by unfold zeroL; rw [List.map_replicate]
/-- The letter over a page of noughts. -/
theorem bkLetter_run {w : World} {g : Nat} (h : w.heap[g]? = some (.cells (zeroL.map (Value.int .u8)).toArray 5 (0, 0))) (ty : TypeId) : ∃ w', (Builtin.copy_ #[46, 9] ty #[.slice (some ⟨g, 0, none⟩) 240 240, .string { data := #[66] }]).run Tryz.prog w = .ok (.int .i64 1) w' ∧ w'.heap[g]? = some (.cells ((splice zeroL 0 [66]).map (Value.int .u8)).toArray 5 (0, 0)) ∧ Touch (fun j => j = g) w w' := by
  have hrun := Lib.run_copy_row_string (P := Tryz.prog) w 46 9 ty 5 g 0 240 240 { data := #[66] } _ 5 Tryz.underlying46 size_u8'' h (by decide) (by rw [List.size_toArray, List.length_map, zeroL_length]; decide)
  refine ⟨_, hrun, ?_, ⟨rfl, rfl, rfl, by simp [World.setRow], fun k hk hne => setRow_other w g k _ (fun e => hne e)⟩⟩
  rw [setRow_heap w g _ _ _ _ h]
  rfl
theorem BkBox.touch {w w' : World} {b g n c : Nat} {d x : Int} {A : Option Addr} (h : BkBox w b d x A n c) (ht : Touch (fun j => j = g) w w') (hne : b ≠ g) : BkBox w' b d x A n c := (ht.block b h.cells.2.2.2 hne).trans h
theorem BkBox.cells3 {w : World} {g n c : Nat} {d x : Int} {A : Option Addr} (h : BkBox w g d x A n c) : w.cell? ⟨g, 0, none⟩ = some (.int .i64 d) ∧ w.cell? ⟨g, 1, none⟩ = some (.int .i64 x) ∧ w.cell? ⟨g, 2, none⟩ = some (.slice A n c) := ⟨h.cells.1, h.cells.2.1, h.cells.2.2.1⟩
theorem BkBox.drew {w : World} {g n c : Nat} {d x : Int} {A : Option Addr} (h : BkBox w g d x A n c) : BkBox w.drew g d x A n c := h
theorem bkLetter_made {w1 w2 : World} {b n c : Nat} {d x : Int} {A : Option Addr} (hown2 : w2.ownsRow w1.heap.size 5 1 (.slice (some ⟨w1.heap.size, 0, none⟩) 240 240) 240 (madeCells (Value.int .u8 0).cells (240 * 1)).toList) (hb2 : Below w1.heap.size w1 w2) (hmb : BkBox w1 b d x A n c) :
    ∃ w3, (Builtin.copy_ #[46, 9] 3 #[.slice (some ⟨w1.heap.size, 0, none⟩) 240 240, .string { data := #[66] }]).run Tryz.prog w2 = .ok (.int .i64 1) w3 ∧ Hid (w3.heap[w1.heap.size]? = some (.cells ((splice zeroL 0 [66]).map (Value.int .u8)).toArray 5 (0, 0)) ∧ Touch (fun j => j = w1.heap.size) w1 w3) ∧ BkBox w3 b d x A n c := by
  have hblk2 := made_u8 hown2
  rw [← zeroL_cells] at hblk2
  obtain ⟨w3, hrun3, hblk3, ht3⟩ := bkLetter_run hblk2 3
  have hbl := hmb.cells.2.2.2
  have hs2 := hb2.size
  have ht : Touch (fun j => j = w1.heap.size) w1 w3 := ⟨ht3.os.trans hb2.os, ht3.tape.trans hb2.tape, ht3.output.trans hb2.output, Nat.le_trans hs2 ht3.size, fun j hj hn => (ht3.block j (Nat.lt_of_lt_of_le hj hs2) hn).trans (hb2.block j hj)⟩
  exact ⟨w3, hrun3, Lib.hid ⟨hblk3, ht⟩, hmb.touch ht (by omega)⟩

/-- What a bucket that may be is. -/
theorem mayBk_few {b : BV} (h : mayBk b = true) : 8 + szP b.ps ≤ 240 ∧ (0 ≤ b.d ∧ b.d ≤ 10) ∧ rightB b.x 4 = true ∧ pairsB b.ps = true := by
  unfold mayBk at h
  simp only [Bool.and_eq_true, decide_eq_true_eq] at h
  exact ⟨h.1.1.1.1, ⟨h.1.1.1.2, h.1.1.2⟩, h.1.2, h.2⟩
theorem pairsB_at {ps : List KV} (h : pairsB ps = true) {k : Nat} {y : KV} (hy : ps[k]? = some y) : (1 ≤ y.1.length ∧ y.1.length ≤ 32) ∧ y.2.length ≤ 120 ∧ findI ps y.1 = (k : Int) := by
  have hk := (List.getElem?_eq_some_iff.1 hy).1
  have := List.all_eq_true.1 h k (by simpa using hk)
  rw [okAt_some hy] at this
  simp only [Bool.and_eq_true, decide_eq_true_eq, beq_iff_eq] at this
  exact ⟨this.1.1, this.1.2, this.2⟩
theorem right_1 {x : Int} (h : 0 ≤ x ∧ x < 256) : rightB x ((1 : Nat) : Int) = true := by
  unfold rightB
  simp [h]
theorem right_2 {x : Int} (h : 0 ≤ x ∧ x < 65536) : rightB x ((2 : Nat) : Int) = true := by
  unfold rightB
  simp [h]

theorem RPairs.bytes {w : World} {B n : Nat} {A : Option Addr} {ps : List KV} (h : RPairs w B A n ps) : ∀ y ∈ ps, AllBytes y.1 ∧ AllBytes y.2 := by
  intro y hy
  obtain ⟨k, hk, rfl⟩ := List.getElem_of_mem hy
  obtain ⟨b, off, e, hb, hat⟩ := h.2 (by rw [← h.len]; exact Nat.lt_of_le_of_lt (Nat.zero_le _) hk)
  obtain ⟨_, _, _, _, _, _, _, _, hk1, _, hv1, _⟩ := hat k _ (List.getElem?_eq_getElem hk)
  exact ⟨hk1.bytes, hv1.bytes⟩
theorem pageBk_bytes {b : BV} (hm : mayBk b = true) (hall : ∀ y ∈ b.ps, AllBytes y.1 ∧ AllBytes y.2) : AllBytes (pageBk b) := by
  obtain ⟨f1, f2, f3, f4⟩ := mayBk_few hm
  refine ((AllBytes.append ?_ ?_).append (fun y hy => by have := List.eq_of_mem_replicate hy; omega))
  · intro y hy
    simp only [bkHeadL, List.mem_cons, List.mem_append] at hy
    rcases hy with rfl | hy | hy | hy
    · decide
    · exact putB_bytes _ _ y hy
    · exact putB_bytes _ _ y hy
    · exact putB_bytes _ _ y hy
  · intro z hz
    obtain ⟨y, hy, hz⟩ := List.mem_flatMap.1 hz
    obtain ⟨k, hk, he⟩ := List.getElem_of_mem hy
    have hpk := pairsB_at f4 (k := k) (y := y) (by rw [List.getElem?_eq_getElem hk, he])
    simp only [pairL, List.mem_cons, List.mem_append] at hz
    rcases hz with rfl | rfl | hz | hz
    · omega
    · omega
    · exact (hall y hy).1 z hz
    · exact (hall y hy).2 z hz

theorem page_done (b : BV) (hsz : 8 + szP b.ps ≤ 240) : splice zeroL 0 (bkHeadL b ++ pairsL b.ps) = pageBk b := by
  unfold splice pageBk zeroL
  rw [List.take_zero, List.nil_append, Nat.zero_add, List.drop_replicate, List.length_append, bkHeadL_length, pairsL_length, List.append_assoc]
theorem page_head (b : BV) : splice (splice zeroL 0 [66]) 1 ([putB b.d 1, putB b.x 4, putB (b.ps.length : Int) 2] : List (List Int)).flatten = splice zeroL 0 (bkHeadL b ++ pairsL (b.ps.take 0)) := by
  have h := splice_two (L := zeroL) (d := [66]) (e := ([putB b.d 1, putB b.x 4, putB (b.ps.length : Int) 2] : List (List Int)).flatten) (a := 0) (by simp [putB_length, zeroL_length])
  have e : bkHeadL b ++ pairsL (b.ps.take 0) = [66] ++ ([putB b.d 1, putB b.x 4, putB (b.ps.length : Int) 2] : List (List Int)).flatten := by
    simp [bkHeadL, pairsL]
  rw [e, ← h]
  rfl
theorem page_pair {b : BV} {k : Nat} {y : KV} (hy : b.ps[k]? = some y) (hm : mayBk b = true) : splice (splice zeroL 0 (bkHeadL b ++ pairsL (b.ps.take k))) (8 + szP (b.ps.take k)) ([putB (y.1.length : Int) 1, putB (y.2.length : Int) 1, y.1, y.2] : List (List Int)).flatten = splice zeroL 0 (bkHeadL b ++ pairsL (b.ps.take (k + 1))) := by
  obtain ⟨h1, h2, h3, h4⟩ := mayBk_few hm
  obtain ⟨p1, p2, p3⟩ := pairsB_at h4 hy
  have e1 : ([putB (y.1.length : Int) 1, putB (y.2.length : Int) 1, y.1, y.2] : List (List Int)).flatten = pairL y := by
    rw [putB_one (by omega), putB_one (by omega)]
    simp [pairL]
  have hs := szP_step hy
  have hle := szP_take_le b.ps (k + 1)
  have hl : (bkHeadL b ++ pairsL (b.ps.take k)).length = 8 + szP (b.ps.take k) := by rw [List.length_append, bkHeadL_length, pairsL_length]
  have h := splice_two (L := zeroL) (d := bkHeadL b ++ pairsL (b.ps.take k)) (e := pairL y) (a := 0) (by rw [hl, zeroL_length, pairL_length]; omega)
  rw [hl, Nat.zero_add] at h
  rw [e1, h, pairsL_step hy, List.append_assoc]
end Go.Proofs.YtfbljmkjiaklfaaGreatDoor

/-
  Contract of bucket.Put. Condition: pairs of few bytes; numbers are ints.
-/
namespace Go.Proofs.YtfbljmkjiaklfaaGreatDoor
open Go.RowKit
set_option maxRecDepth 100000
set_option linter.unusedVariables false

/-- The first three parts of a page, and lay over them. -/
theorem bkHead_parts {w3 w4 w5 w6 : World} {g g4 g5 g6 n W0 : Nat} {d x : Int} (hg : g < w3.heap.size) (hg4 : w3.drew.heap.size ≤ g4) (hg5 : w4.heap.size ≤ g5) (hg6 : w5.heap.size ≤ g6)
    (hr4 : RB w4 w4.heap.size (some ⟨g4, 0, none⟩) 1 (putB d 1)) (hr5 : RB w5 w5.heap.size (some ⟨g5, 0, none⟩) 4 (putB x 4)) (hr6 : RB w6 w6.heap.size (some ⟨g6, 0, none⟩) 2 (putB (n : Int) 2))
    (hb4 : Below w3.drew.heap.size w3.drew w4) (hb5 : Below w4.heap.size w4 w5) (hb6 : Below w5.heap.size w5 w6)
    (hp : w3.heap[g]? = some (.cells ((splice zeroL 0 [66]).map (Value.int .u8)).toArray 5 (0, 0))) (hs : W0 ≤ g) (hn : n ≤ 116) :
    Below w3.heap.size w3 w6 ∧ ∀ c, Calls Tryz.prog 184 #[.slice (some ⟨g, 0, none⟩) 240 240, .int .i64 1, .slice (some ⟨w6.heap.size, 0, none⟩) 3 c] (w6.alloc (.cells #[.slice (some ⟨g4, 0, none⟩) 1 1, .slice (some ⟨g5, 0, none⟩) 4 4, .slice (some ⟨g6, 0, none⟩) 2 2] 46 (0, 0))) fun e w' => e = .returned (.int .i64 8) ∧ w'.heap[g]? = some (.cells ((splice (splice zeroL 0 [66]) 1 ([putB d 1, putB x 4, putB (n : Int) 2] : List (List Int)).flatten).map (Value.int .u8)).toArray 5 (0, 0)) ∧ Touch (fun j => j = g) w3 w' := by
  have hs3 : w3.drew.heap.size = w3.heap.size := rfl
  rw [hs3] at hg4 hb4
  have s4 := hb4.size
  have s5 := hb5.size
  have s6 := hb6.size
  rw [hs3] at s4
  have b36 : Below w3.heap.size w3 w6 := ((show Below w3.heap.size w3 w4 from ⟨hb4.os, hb4.tape, hb4.output, hb4.size, hb4.block⟩).trans (hb5.mono s4)).trans (hb6.mono (Nat.le_trans s4 s5))
  refine ⟨b36, fun c => ?_⟩
  have p4 : Part w4 g (some ⟨g4, 0, none⟩) 1 1 (putB d 1) := ⟨by decide, Nat.le_refl _, hr4, fun y hy _ => by cases hy; show g4 ≠ g; omega⟩
  have p5 : Part w5 g (some ⟨g5, 0, none⟩) 4 4 (putB x 4) := ⟨by decide, Nat.le_refl _, hr5, fun y hy _ => by cases hy; show g5 ≠ g; omega⟩
  have p6 : Part w6 g (some ⟨g6, 0, none⟩) 2 2 (putB (n : Int) 2) := ⟨by decide, Nat.le_refl _, hr6, fun y hy _ => by cases hy; show g6 ≠ g; omega⟩
  have hX : Below w6.heap.size w6 (w6.alloc (.cells #[.slice (some ⟨g4, 0, none⟩) 1 1, .slice (some ⟨g5, 0, none⟩) 4 4, .slice (some ⟨g6, 0, none⟩) 2 2] 46 (0, 0))) := (Below.refl _ _).alloc (Nat.le_refl _) _
  have hgX := (hX.block g (by omega)).trans ((b36.block g hg).trans hp)
  have hL := bkLay_any (a := 1) (c := c) hgX (by rw [length_splice _ _ _ (by rw [zeroL_length]; decide), zeroL_length]) (parts3 46 (by omega) ((p4.below hb5).below hb6) (p5.below hb6) p6) (by decide) (by simp [putB_length])
  have e : 1 + ([putB d 1, putB x 4, putB (n : Int) 2] : List (List Int)).flatten.length = 8 := by simp [putB_length]
  rw [e] at hL
  refine hL.mono ?_
  rintro e w' ⟨h1, h2, h3⟩
  refine ⟨h1, h2, ?_⟩
  have hb := b36.trans (hX.mono (by omega))
  exact ⟨h3.os.trans hb.os, h3.tape.trans hb.tape, h3.output.trans hb.output, Nat.le_trans hb.size h3.size, fun j hj hn => (h3.block j (Nat.lt_of_lt_of_le hj hb.size) hn).trans (hb.block j hj)⟩

/-- A pair in a variable's block. -/
def PBox (w : World) (b : Nat) (u v : Value) : Prop := w.heap[b]? = some (.cells #[u, v] 88 (0, 0))
theorem PBox.new (w : World) (u v : Value) : PBox (w.alloc (.cells #[u, v] 88 (0, 0))) w.heap.size u v := heap_alloc_new w _
theorem PBox.cells {w : World} {b : Nat} {u v : Value} (h : PBox w b u v) : w.cell? ⟨b, 0, none⟩ = some u ∧ w.cell? ⟨b, 1, none⟩ = some v := by
  constructor <;> (rw [cell_of_row _ _ _ _ _ (0, 0) h]; rfl)
theorem PBox.lt {w : World} {b : Nat} {u v : Value} (h : PBox w b u v) : b < w.heap.size := (Array.getElem?_eq_some_iff.1 h).1
theorem PBox.below {w w' : World} {b : Nat} {u v : Value} (h : PBox w b u v) (hb : Below w.heap.size w w') : PBox w' b u v := (hb.block b h.lt).trans h
theorem PBox.touch {w w' : World} {b g : Nat} {u v : Value} (h : PBox w b u v) (ht : Touch (fun j => j = g) w w') (hne : b ≠ g) : PBox w' b u v := (ht.block b h.lt hne).trans h
theorem PBox.drew {w : World} {b : Nat} {u v : Value} (h : PBox w b u v) : PBox w.drew b u v := h

/-- A pair's four parts, and lay over them. -/
theorem bkPair_parts {X w4 w5 : World} {g g4 g5 a kn kc vn vc B : Nat} {ka va : Option Addr} {k v L : List Int} (hg : g < X.heap.size) (hg4 : X.drew.heap.size ≤ g4) (hg5 : w4.heap.size ≤ g5)
    (hr4 : RB w4 w4.heap.size (some ⟨g4, 0, none⟩) 1 (putB (kn : Int) 1)) (hr5 : RB w5 w5.heap.size (some ⟨g5, 0, none⟩) 1 (putB (vn : Int) 1))
    (hb4 : Below X.drew.heap.size X.drew w4) (hb5 : Below w4.heap.size w4 w5)
    (hp : X.heap[g]? = some (.cells (L.map (Value.int .u8)).toArray 5 (0, 0))) (hL : L.length = 240) (hk : RB X B ka kn k) (hv : RB X B va vn v) (hBg : B ≤ g) (hkc : kn ≤ kc ∧ kn ≤ maxLen) (hvc : vn ≤ vc ∧ vn ≤ maxLen) (ha : a + (2 + kn + vn) ≤ 240) :
    Below X.heap.size X w5 ∧ ∀ c, Calls Tryz.prog 184 #[.slice (some ⟨g, 0, none⟩) 240 240, .int .i64 (a : Int), .slice (some ⟨w5.heap.size, 0, none⟩) 4 c] (w5.alloc (.cells #[.slice (some ⟨g4, 0, none⟩) 1 1, .slice (some ⟨g5, 0, none⟩) 1 1, .slice ka kn kc, .slice va vn vc] 46 (0, 0))) fun e w' => e = .returned (.int .i64 ((a + (2 + kn + vn) : Nat) : Int)) ∧ w'.heap[g]? = some (.cells ((splice L a ([putB (kn : Int) 1, putB (vn : Int) 1, k, v] : List (List Int)).flatten).map (Value.int .u8)).toArray 5 (0, 0)) ∧ Touch (fun j => j = g) X w' := by
  have hs3 : X.drew.heap.size = X.heap.size := rfl
  rw [hs3] at hg4 hb4
  have s4 := hb4.size
  have s5 := hb5.size
  rw [hs3] at s4
  have b35 : Below X.heap.size X w5 := (show Below X.heap.size X w4 from ⟨hb4.os, hb4.tape, hb4.output, hb4.size, hb4.block⟩).trans (hb5.mono s4)
  refine ⟨b35, fun c => ?_⟩
  have ap : ∀ {A : Option Addr} {n : Nat} {l : List Int}, RB X B A n l → ∀ y, A = some y → 0 < n → y.block ≠ g := by
    intro A n l h y hy hn
    obtain ⟨b, off, e, hb, _⟩ := h.at_ hn
    rw [e] at hy
    cases hy
    show b ≠ g
    omega
  have p4 : Part w4 g (some ⟨g4, 0, none⟩) 1 1 (putB (kn : Int) 1) := ⟨by decide, Nat.le_refl _, hr4, fun y hy _ => by cases hy; show g4 ≠ g; omega⟩
  have p5 : Part w5 g (some ⟨g5, 0, none⟩) 1 1 (putB (vn : Int) 1) := ⟨by decide, Nat.le_refl _, hr5, fun y hy _ => by cases hy; show g5 ≠ g; omega⟩
  have hBX : B ≤ X.heap.size := by omega
  have pk : Part X g ka kn kc k := ⟨hkc.2, hkc.1, hk.more hBX, ap hk⟩
  have pv : Part X g va vn vc v := ⟨hvc.2, hvc.1, hv.more hBX, ap hv⟩
  have hX : Below w5.heap.size w5 (w5.alloc (.cells #[.slice (some ⟨g4, 0, none⟩) 1 1, .slice (some ⟨g5, 0, none⟩) 1 1, .slice ka kn kc, .slice va vn vc] 46 (0, 0))) := (Below.refl _ _).alloc (Nat.le_refl _) _
  have hgX := (hX.block g (by omega)).trans ((b35.block g hg).trans hp)
  have e : ([putB (kn : Int) 1, putB (vn : Int) 1, k, v] : List (List Int)).flatten.length = 2 + kn + vn := by simp [putB_length, hk.len, hv.len]; omega
  have hLY := bkLay_any (a := a) (c := c) hgX hL (parts4 46 (by omega) (p4.below hb5) p5 (pk.below b35) (pv.below b35)) (by decide) (by rw [e]; exact ha)
  rw [e] at hLY
  refine hLY.mono ?_
  rintro e w' ⟨h1, h2, h3⟩
  refine ⟨h1, h2, ?_⟩
  have hb := b35.trans (hX.mono (by omega))
  exact ⟨h3.os.trans hb.os, h3.tape.trans hb.tape, h3.output.trans hb.output, Nat.le_trans hb.size h3.size, fun j hj hn => (h3.block j (Nat.lt_of_lt_of_le hj hb.size) hn).trans (hb.block j hj)⟩

set_option maxHeartbeats 6400000 in
theorem bkPut_any {w : World} {B n : Nat} {A : Option Addr} {ps : List KV} (d x : Int) (c : Nat) (hr : RPairs w B A n ps) (hB : B ≤ w.heap.size) (hm : n ≤ maxLen) (hsz : szP ps ≤ 4611686018427387904) (hd : -9223372036854775808 ≤ d ∧ d ≤ 9223372036854775807) (hx : -9223372036854775808 ≤ x ∧ x ≤ 9223372036854775807) :
    Calls Tryz.prog 129 #[.agg #[.int .i64 d, .int .i64 x, .slice A n c]] w fun e w' => ∃ A' n' c', e = .returned (.tuple #[.slice A' n' c', .int .i64 (putBk ⟨d, x, ps⟩).2]) ∧ n' ≤ c' ∧ RB w' w'.heap.size A' n' (putBk ⟨d, x, ps⟩).1 ∧ Below w.heap.size w w' := by
  obtain ⟨i0, hi, hz0, hz1, hz2⟩ := info_parts info_u8
  have hbox : Below w.heap.size w (w.alloc (BkObj d x A n c)) := (Below.refl _ _).alloc (Nat.le_refl _) _
  have HM := Lib.hid (bkMayBe_any d x c (hr.below (hbox.mono hB)) (Nat.le_trans hB hbox.size) hm hsz)
  have HBX := Lib.hid (BkBox.new w d x A n c)
  obtain ⟨c0, c1, c2, hbl⟩ := HBX.out.cells
  have HB := Lib.hid hbox
  have HR := Lib.hid hr
  cases hmb : mayBk ⟨d, x, ps⟩ with
  | false =>
    have hP : putBk ⟨d, x, ps⟩ = ([], 1) := by unfold putBk; rw [if_neg (by rw [hmb]; decide)]
    rw [hmb] at HM
    rw [hP]
    clear hP hmb hbox hr
    unfold BkObj at *
    go_enter Tryz.func129, Tryz.ntmps129
    go_wp2_with fail
    refine HM.out.mono ?_
    rintro e w1 ⟨rfl, hb1⟩
    have hF := Lib.hid (HB.out.trans (hb1.mono HB.out.size))
    clear hb1 c0 c1 c2
    go_wp2
    go_ret2
    exact ⟨none, 0, 0, rfl, Nat.le_refl _, RB.nil_, hF.out⟩
  | true =>
    obtain ⟨f1, f2, f3, f4⟩ := mayBk_few hmb
    have f1 : 8 + szP ps ≤ 240 := f1
    have f2 : 0 ≤ d ∧ d ≤ 10 := f2
    have f3 : rightB x ((4 : Nat) : Int) = true := f3
    have hn : n ≤ 116 := by have := szP_len ps; rw [hr.len] at this; omega
    have hP : putBk ⟨d, x, ps⟩ = (pageBk ⟨d, x, ps⟩, 0) := by unfold putBk; rw [if_pos hmb]
    have HPD := Lib.hid (page_done ⟨d, x, ps⟩ f1)
    have HPL := Lib.hid (pageBk_length (b := ⟨d, x, ps⟩) f1)
    have HPH := Lib.hid (page_head ⟨d, x, ps⟩)
    have HPP := Lib.hid (fun k (y : KV) (hy : ps[k]? = some y) => And.intro (pairsB_at f4 hy) (page_pair (b := ⟨d, x, ps⟩) hy hmb))
    have HQ1 := Lib.hid (fun w => bkPutNil_any d 1 w (right_1 (by omega)) (by decide) hd)
    have HQ2 := Lib.hid (fun w => bkPutNil_any x 4 w f3 (by decide) hx)
    have HQ3 := Lib.hid (fun w => bkPutNil_any (n : Int) 2 w (right_2 (by omega)) (by decide) (by omega))
    have HLEN := Lib.hid hr.len
    have HSZ := Lib.hid f1
    have HBY := Lib.hid (pageBk_bytes hmb hr.bytes)
    rw [hmb] at HM
    rw [hP]
    clear hP hmb hbox hr f1 f2 f3 f4
    unfold BkObj at *
    go_enter Tryz.func129, Tryz.ntmps129
    go_wp2_with fail
    refine HM.out.mono ?_
    rintro e w1 ⟨rfl, hb1⟩
    have hbx1 := HBX.out.below hb1
    have hb01 := HB.out.trans (hb1.mono HB.out.size)
    have hs1 := hb01.size
    clear hb1 c0 c1 c2
    obtain ⟨c0, c1, c2, hbl1⟩ := hbx1.cells
    go_wp2_with (first
      | (refine wpList_make_full w1 rfl _ _ 46 rfl w1.heap.size 5 i0 (.int .u8 0) 1 Tryz.underlying46 hi hz0 hz1 .i64 .i64 _ _ 240 rfl rfl (by simp) (by simp) (by rw [hz2]; decide) (by decide) (Nat.le_refl _) ?_; intro w2 hown2 hg2; have hb2 : Below w1.heap.size w1 w2 := (Below.refl _ _).grown hg2 (Nat.le_refl _) (by simp); obtain ⟨w3, hrun3, HK3, hbx3⟩ := bkLetter_made hown2 hb2 hbx1; obtain ⟨c0, c1, c2, hbl3⟩ := hbx3.cells; clear hown2 hg2 hb2))
    have HG3 := Lib.hid HK3.out.1
    have HT3 := Lib.hid HK3.out.2
    have hgw : w1.heap.size < w3.heap.size := (Array.getElem?_eq_some_iff.1 HG3.out).1
    have hbW3 := Lib.hid (hb01.trans (HT3.out.below (B := w.heap.size) (fun j e => by rw [e]; exact hs1) hs1))
    have c3 := hbx3.drew.cells3
    have HBX3 := Lib.hid hbx3
    have tok1 : True := trivial
    clear hbx1 hb01 hbx3 c0 c1 c2 hbl3 HM HBX HB HK3
    go_wp2_with fail
    go_region_held3 (fun w' => w'.cell? ⟨w.heap.size, 0, none⟩ = some (.int .i64 d) ∧ w'.cell? ⟨w.heap.size, 1, none⟩ = some (.int .i64 x) ∧ w'.cell? ⟨w.heap.size, 2, none⟩ = some (.slice A n c))
      (first | with_reducible exact c8 | with_reducible exact c7 | with_reducible exact c6 | with_reducible exact c5 | with_reducible exact c4 | with_reducible exact c3 | exact c3)
      (first
        | (go_at_call 173; have _t := tok1; clear tok1; refine (HQ1.out _).mono ?_; rintro e w4 ⟨g4, rfl, hg4, hr4, hb4⟩; have tok2 : True := trivial; have hbx4 := HBX3.out.drew.below hb4; have c4 := hbx4.cells3)
        | (go_at_call 173; have _t := tok2; clear tok2; refine (HQ2.out _).mono ?_; rintro e w5 ⟨g5, rfl, hg5, hr5, hb5⟩; have tok3 : True := trivial; have hbx5 := hbx4.below hb5; have c5 := hbx5.cells3)
        | (go_at_call 173; have _t := tok3; clear tok3; refine (HQ3.out _).mono ?_; rintro e w6 ⟨g6, rfl, hg6, hr6, hb6⟩; have tok4 : True := trivial; have hbx6 := hbx5.below hb6; have c6 := hbx6.cells3; have c7 := (hbx6.below ((Below.refl w6.heap.size w6).alloc (Nat.le_refl _) (.cells #[.slice (some ⟨g4, 0, none⟩) 1 1, .slice (some ⟨g5, 0, none⟩) 4 4, .slice (some ⟨g6, 0, none⟩) 2 2] 46 (0, 0)))).cells3; have HL6 := Lib.hid (bkHead_parts hgw hg4 hg5 hg6 hr4 hr5 hr6 hb4 hb5 hb6 HG3.out hs1 (by omega)))
        | (go_at_call 184; have _t := tok4; clear tok4; refine (HL6.out.2 3).mono ?_; rintro e w7 ⟨rfl, hblk7, ht7⟩; have hbx7 := HBX3.out.touch ht7 (by omega); have c8 := hbx7.cells3))
    have HG7 := Lib.hid (show w7.heap[w1.heap.size]? = some (.cells ((splice zeroL 0 (bkHeadL ⟨d, x, ps⟩ ++ pairsL (ps.take 0))).map (Value.int .u8)).toArray 5 (0, 0)) from by
      have := HPH.out
      rw [HLEN.out] at this
      rw [← this]
      exact hblk7)
    have HB7 := Lib.hid (hbW3.out.trans (ht7.below (B := w.heap.size) (fun j e => by rw [e]; exact hs1) hbW3.out.size))
    obtain ⟨d0, d1, d2⟩ := hbx7.cells3
    clear c3 c4 c5 c6 c7 c8 hbx4 hbx5 hbx6 hbx7 hblk7 ht7 hr4 hr5 hr6 hb4 hb5 hb6 hg4 hg5 hg6 HL6 HBX3 HG3 HT3 hbW3 HQ1 HQ2 HQ3 HPH _t
    go_wp2_with fail
    clear d0 d1 d2
    go_loopw [5, 31] (fun av i wr => ∃ k : Nat, k ≤ n ∧ i = .int .i64 k ∧ av = .int .i64 ((8 + szP (ps.take k) : Nat) : Int) ∧ Hid (wr.heap[w1.heap.size]? = some (.cells ((splice zeroL 0 (bkHeadL ⟨d, x, ps⟩ ++ pairsL (ps.take k))).map (Value.int .u8)).toArray 5 (0, 0))) ∧ Hid (Below w.heap.size w wr)) (fun _ i _ => n - (intOf i).toNat)
    case atStart => exact ⟨0, Nat.zero_le _, rfl, rfl, HG7, HB7⟩
    case round =>
      clear HG7 HB7
      obtain ⟨k, hk, rfl, rfl, hg, hb⟩ := hrel
      by_cases hlt : k < n
      · obtain ⟨b, off, rfl, hbB, hat⟩ := HR.out.2 (by omega)
        obtain ⟨y, hy⟩ : ∃ y, ps[k]? = some y := ⟨_, List.getElem?_eq_getElem (by rw [HLEN.out]; exact hlt)⟩
        obtain ⟨⟨⟨p1, p2⟩, p3, _⟩, p4⟩ := HPP.out k y hy
        have hst := szP_step hy
        obtain ⟨ka, kn, kc, va, vn, vc, h0, h1, h2, h3, h4, h5⟩ := (hat k y hy).keep hbB (fun b o hbb => hb.out.cell (p := ⟨b, o, none⟩) (Nat.lt_of_lt_of_le hbb hB))
        have hle := szP_take_le ps (k + 1)
        rw [h2.len] at hst p1 p2 p4
        rw [h4.len] at hst p3 p4
        have HST := Lib.hid hst
        have HNX := Lib.hid p4
        have HAK := Lib.hid (show 8 + szP (ps.take k) + (2 + kn + vn) = 8 + szP (ps.take (k + 1)) by omega)
        have hlt' : (k : Int) < (n : Int) := by omega
        have HLK := Lib.hid (show (splice zeroL 0 (bkHeadL ⟨d, x, ps⟩ ++ pairsL (ps.take k))).length = 240 from by
          rw [length_splice _ _ _ (by rw [List.length_append, bkHeadL_length, pairsL_length, zeroL_length]; omega), zeroL_length])
        have hat : 8 + szP (ps.take k) + (2 + kn + vn) ≤ 240 := by omega
        have hgx : w1.heap.size < wr.heap.size := (Array.getElem?_eq_some_iff.1 hg.out).1
        have hX : Below wr.heap.size wr (wr.alloc (.cells #[.slice ka kn kc, .slice va vn vc] 88 (0, 0))) := (Below.refl _ _).alloc (Nat.le_refl _) _
        have HPB := Lib.hid (PBox.new wr (.slice ka kn kc) (.slice va vn vc))
        have HKV := Lib.hid (And.intro (h2.alloc (Nat.le_trans hB hb.out.size) (.cells #[.slice ka kn kc, .slice va vn vc] 88 (0, 0))) (And.intro (h4.alloc (Nat.le_trans hB hb.out.size) (.cells #[.slice ka kn kc, .slice va vn vc] 88 (0, 0))) (And.intro h3 h5)))
        have HGX := Lib.hid ((hX.block _ hgx).trans hg.out)
        have HQ1 := Lib.hid (fun w => bkPutNil_any (kn : Int) 1 w (right_1 (by omega)) (by decide) (by omega))
        have HQ2 := Lib.hid (fun w => bkPutNil_any (vn : Int) 1 w (right_1 (by omega)) (by decide) (by omega))
        have HBX := Lib.hid (hb.out.trans (hX.mono hb.out.size))
        have hgX : w1.heap.size < (wr.alloc (.cells #[.slice ka kn kc, .slice va vn vc] 88 (0, 0))).heap.size := Nat.lt_of_lt_of_le hgx hX.size
        have hBg : B ≤ w1.heap.size := Nat.le_trans hB hs1
        have c3 := HPB.out.drew.cells
        have tok1 : True := trivial
        clear hst hle p4 h2 h4 h3 h5 hy c0 c1 c2 hX hbl
        generalize splice zeroL 0 (bkHeadL ⟨d, x, ps⟩ ++ pairsL (ps.take k)) = Lk at hg HGX HNX HLK
        generalize 8 + szP (ps.take k) = ak at *
        go_wp2_with fail
        go_region_held3 (fun w' => w'.cell? ⟨wr.heap.size, 0, none⟩ = some (.slice ka kn kc) ∧ w'.cell? ⟨wr.heap.size, 1, none⟩ = some (.slice va vn vc))
          (first | with_reducible exact c7 | with_reducible exact c6 | with_reducible exact c5 | with_reducible exact c4 | with_reducible exact c3 | exact c3)
          (first
            | (go_at_call 173; have _t := tok1; clear tok1; refine (HQ1.out _).mono ?_; rintro e w4 ⟨g4, rfl, hg4, hr4, hb4⟩; have tok2 : True := trivial; have hpb4 := HPB.out.drew.below hb4; have c4 := hpb4.cells)
            | (go_at_call 173; have _t := tok2; clear tok2; refine (HQ2.out _).mono ?_; rintro e w5 ⟨g5, rfl, hg5, hr5, hb5⟩; have tok3 : True := trivial; have hpb5 := hpb4.below hb5; have c5 := hpb5.cells; have c6 := (hpb5.below ((Below.refl w5.heap.size w5).alloc (Nat.le_refl _) (.cells #[.slice (some ⟨g4, 0, none⟩) 1 1, .slice (some ⟨g5, 0, none⟩) 1 1, .slice ka kn kc, .slice va vn vc] 46 (0, 0)))).cells; have HL6 := Lib.hid (bkPair_parts (a := ak) hgX hg4 hg5 hr4 hr5 hb4 hb5 HGX.out HLK.out HKV.out.1 HKV.out.2.1 hBg HKV.out.2.2.1 HKV.out.2.2.2 hat))
            | (go_at_call 184; have _t := tok3; clear tok3; refine (HL6.out.2 4).mono ?_; rintro e w6 ⟨rfl, hblk6, ht6⟩; have hpb6 := HPB.out.touch ht6 (by omega); have c7 := hpb6.cells))
        have HE := Lib.hid (show w6.heap[w1.heap.size]? = some (.cells ((splice zeroL 0 (bkHeadL ⟨d, x, ps⟩ ++ pairsL (ps.take (k + 1)))).map (Value.int .u8)).toArray 5 (0, 0)) from by rw [← HNX.out]; exact hblk6)
        have HT := Lib.hid (HBX.out.trans (ht6.below (B := w.heap.size) (fun j e => by rw [e]; exact hs1) HBX.out.size))
        clear c3 c4 c5 c6 c7 hpb4 hpb5 hpb6 hblk6 ht6 hr4 hr5 hb4 hb5 hg4 hg5 HL6 HPB HKV HGX HQ1 HQ2 HBX HNX HLK hg hb h0 h1
        go_wp2
        go_roundw
        case rel => exact ⟨k + 1, by omega, by go_num, by rw [← HAK.out]; congr 1, HE, HT⟩
        case measure => simp [intOf]; omega
      · obtain rfl : k = n := by omega
        have e : ps.take k = ps := List.take_of_length_le (by rw [HLEN.out]; exact Nat.le_refl _)
        rw [e] at hg ⊢
        have HE := Lib.hid (show RB wr wr.heap.size (some ⟨w1.heap.size, 0, none⟩) 240 (pageBk ⟨d, x, ps⟩) from by
          have hgo := hg.out
          rw [HPD.out] at hgo
          refine ⟨HPL.out, HBY.out, fun _ => ⟨w1.heap.size, 0, rfl, (Array.getElem?_eq_some_iff.1 hgo).1, fun j hj => ?_⟩⟩
          rw [Nat.zero_add, cell_of_row wr _ j _ _ (0, 0) hgo, List.getElem?_toArray, List.getElem?_map, List.getElem?_eq_getElem (by rw [HPL.out]; exact hj)]
          rfl)
        clear e hg
        go_wp2
        go_ret2
        exact ⟨_, 240, 240, rfl, Nat.le_refl _, HE.out, hb.out⟩
end Go.Proofs.YtfbljmkjiaklfaaGreatDoor

/-
  A page as pairs, said over plain lists; contracts of bucket.number and cut. Condition: a page of 240 bytes, a place within it.
-/
namespace Go.Proofs.YtfbljmkjiaklfaaGreatDoor
open Go.RowKit
set_option maxRecDepth 100000
set_option linter.unusedVariables false

theorem getR_int {l : List Int} (hb : AllBytes l) (a s : Int) : -9223372036854775808 ≤ (getR l a s).1 ∧ (getR l a s).1 ≤ 9223372036854775807 := by
  unfold getR
  split
  · split
    · exact ⟨by decide, by decide⟩
    · show -9223372036854775808 ≤ numOf _ ∧ numOf _ ≤ 9223372036854775807
      rw [numOf_eq _ ((hb.drop _).take _)]
      generalize beOf _ = x
      unfold wrap64
      omega
  · exact ⟨by decide, by decide⟩
theorem getR_byte {l : List Int} (hb : AllBytes l) (a : Nat) : ∃ x : Nat, x < 256 ∧ (getR l (a : Int) 1).1 = (x : Int) ∧ (a < l.length → l[a]?.getD 0 = (x : Int)) := by
  have h0 := hb.getD a
  unfold getR
  rw [if_pos ⟨by decide, by omega⟩]
  split
  · exact ⟨0, by decide, rfl, fun h => by omega⟩
  · rename_i h
    have ha : a < l.length := by omega
    refine ⟨(l[a]?.getD 0).toNat, by omega, ?_, fun _ => by omega⟩
    have e : (l.drop ((a : Int).toNat)).take ((1 : Int).toNat) = [l[a]?.getD 0] := by
      rw [Int.toNat_natCast, List.getElem?_eq_getElem ha, List.drop_eq_getElem_cons ha]
      rfl
    rw [e]
    show numOf [l[a]?.getD 0] = _
    rw [numOf_eq _ (fun x hx => by obtain rfl : x = _ := by simpa using hx
                                   exact h0)]
    show wrap64 (0 * 256 + l[a]?.getD 0) = _
    unfold wrap64
    omega

/-- How long a key and a value at a place of a page are, and where the next pair stands. -/
def kN (l : List Int) (a : Nat) : Nat := ((getR l (a : Int) 1).1).toNat
def vN (l : List Int) (a : Nat) : Nat := ((getR l ((a + 1 : Nat) : Int) 1).1).toNat
def cutE (l : List Int) (a : Nat) : Nat := a + 2 + kN l a + vN l a
def cutK (l : List Int) (a : Nat) : List Int := (l.drop (a + 2)).take (kN l a)
def cutV (l : List Int) (a : Nat) : List Int := (l.drop (a + 2 + kN l a)).take (vN l a)
theorem kN_eq {l : List Int} (hb : AllBytes l) (a : Nat) : kN l a < 256 ∧ (getR l (a : Int) 1).1 = (kN l a : Int) := by
  obtain ⟨x, h1, h2, _⟩ := getR_byte hb a
  unfold kN
  rw [h2]
  exact ⟨by omega, by omega⟩
theorem vN_eq {l : List Int} (hb : AllBytes l) (a : Nat) : vN l a < 256 ∧ (getR l ((a + 1 : Nat) : Int) 1).1 = (vN l a : Int) := by
  obtain ⟨x, h1, h2, _⟩ := getR_byte hb (a + 1)
  unfold vN
  rw [h2]
  exact ⟨by omega, by omega⟩

/-- The pairs of a page, from some place on; c at most. -/
def cutsL (l : List Int) : Nat → Nat → List KV
  | 0, _ => []
  | c + 1, a => if 240 < cutE l a then [] else (cutK l a, cutV l a) :: cutsL l c (cutE l a)
theorem cutsL_zero (l : List Int) (a : Nat) : cutsL l 0 a = [] := rfl
theorem cutsL_stop {l : List Int} {c a : Nat} (h : 240 < cutE l a) : cutsL l c a = [] := by
  cases c with
  | zero => rfl
  | succ c => unfold cutsL; rw [if_pos h]
theorem cutsL_go {l : List Int} {c a : Nat} (h : ¬ 240 < cutE l a) : cutsL l (c + 1) a = (cutK l a, cutV l a) :: cutsL l c (cutE l a) := by
  show (if 240 < cutE l a then [] else (cutK l a, cutV l a) :: cutsL l c (cutE l a)) = _
  rw [if_neg h]
/-- A page, read. -/
def cntBk (l : List Int) : Nat := ((getR l 6 2).1).toNat
def readBk (l : List Int) : BV := ⟨(getR l 1 1).1, (getR l 2 4).1, cutsL l (cntBk l) 8⟩
/-- Parse. -/
def parseBk (l : List Int) : BV × Int := if l.length = 240 ∧ mayBk (readBk l) = true ∧ pageBk (readBk l) = l then (readBk l, 0) else (⟨0, 0, []⟩, 4)

set_option maxHeartbeats 400000 in
theorem bkNumber_any {w : World} {B n c : Nat} {A : Option Addr} {l : List Int} (a s : Int) (hr : RB w B A n l) (hc : n ≤ c) (hm : n ≤ maxLen) :
    Calls Tryz.prog 208 #[.slice A n c, .int .i64 a, .int .i64 s] w fun e w' => e = .returned (.int .i64 (getR l a s).1) ∧ w = w' := by
  have HG := Lib.hid (Get_any A n c B l a s w hr hc hm)
  generalize getR l a s = r at HG ⊢
  go_enter Tryz.func208, Tryz.ntmps208
  go_wp2_with fail
  refine HG.out.mono ?_
  rintro e w' ⟨rfl, rfl⟩
  go_wp2
  go_ret
  exact ⟨rfl, rfl⟩

set_option maxHeartbeats 1600000 in
theorem bkCut_beyond {w : World} {B n c : Nat} {A : Option Addr} {l : List Int} (a : Nat) (hr : RB w B A n l) (hB : B ≤ w.heap.size) (hn : n = 240) (hc : n ≤ c) (ha : a ≤ 240) (he : 240 < cutE l a) :
    Calls Tryz.prog 209 #[.slice A n c, .int .i64 (a : Int)] w fun e w' => e = .returned (.tuple #[.agg #[.slice none 0 0, .slice none 0 0], .int .i64 (cutE l a : Int)]) ∧ Below w.heap.size w w' := by
  have hX : Below w.heap.size w (w.alloc (.cells #[.slice none 0 0, .slice none 0 0] 88 (0, 0))) := (Below.refl _ _).alloc (Nat.le_refl _) _
  have hk := kN_eq hr.bytes a
  have hv := vN_eq hr.bytes a
  have H1 := bkNumber_any (a : Int) 1 (hr.below (hX.mono hB)) hc (by subst hn; decide)
  have H2 := bkNumber_any ((a + 1 : Nat) : Int) 1 (hr.below (hX.mono hB)) hc (by subst hn; decide)
  rw [hk.2] at H1
  rw [hv.2] at H2
  rw [show ((a + 1 : Nat) : Int) = (a : Int) + 1 by omega] at H2
  have HX := Lib.hid hX
  have H1 := Lib.hid H1
  have H2 := Lib.hid H2
  have hk256 := hk.1
  have hv256 := hv.1
  have hE := Lib.hid (show cutE l a = a + 2 + kN l a + vN l a from rfl)
  rw [hE.out] at he
  rw [hE.out]
  clear hE hX hk hv hr hc
  subst hn
  generalize kN l a = k at *
  generalize vN l a = v at *
  go_enter Tryz.func209, Tryz.ntmps209
  go_wp2_with fail
  refine H1.out.mono ?_
  rintro e w' ⟨rfl, rfl⟩
  go_wp2_with fail
  refine H2.out.mono ?_
  rintro e w' ⟨rfl, rfl⟩
  go_wp2
  obtain ⟨d0, d1⟩ := (PBox.new w (.slice none 0 0) (.slice none 0 0)).cells
  refine bodyPost_ret (v := .tuple #[.agg #[.slice none 0 0, .slice none 0 0], .int .i64 (a + 2 + k + v : Int)]) (by
    simp [results, Tryz.results209, go_sem, d0, d1]) rfl ?_
  exact ⟨rfl, HX.out⟩

set_option maxHeartbeats 1600000 in
theorem bkCut_within {w : World} {B n c : Nat} {A : Option Addr} {l : List Int} (a : Nat) (hr : RB w B A n l) (hB : B ≤ w.heap.size) (hn : n = 240) (hc : n ≤ c) (he : ¬ 240 < cutE l a) :
    Calls Tryz.prog 209 #[.slice A n c, .int .i64 (a : Int)] w fun e w' => ∃ ka va, e = .returned (.tuple #[.agg #[.slice ka (kN l a) (kN l a), .slice va (vN l a) (vN l a)], .int .i64 (cutE l a : Int)]) ∧ RB w B ka (kN l a) (cutK l a) ∧ RB w B va (vN l a) (cutV l a) ∧ Below w.heap.size w w' ∧ ∀ y, (ka = some y ∨ va = some y) → ∃ x, A = some x ∧ y.block = x.block := by
  have hX : Below w.heap.size w (w.alloc (.cells #[.slice none 0 0, .slice none 0 0] 88 (0, 0))) := (Below.refl _ _).alloc (Nat.le_refl _) _
  have hk := kN_eq hr.bytes a
  have hv := vN_eq hr.bytes a
  have H1 := bkNumber_any (a : Int) 1 (hr.below (hX.mono hB)) hc (by subst hn; decide)
  have H2 := bkNumber_any ((a + 1 : Nat) : Int) 1 (hr.below (hX.mono hB)) hc (by subst hn; decide)
  rw [hk.2] at H1
  rw [hv.2] at H2
  rw [show ((a + 1 : Nat) : Int) = (a : Int) + 1 by omega] at H2
  have HX := Lib.hid hX
  have H1 := Lib.hid H1
  have H2 := Lib.hid H2
  have hk256 := hk.1
  have hv256 := hv.1
  have hE := Lib.hid (show cutE l a = a + 2 + kN l a + vN l a from rfl)
  rw [hE.out] at he
  rw [hE.out]
  obtain ⟨b, off, rfl, hb, hcell⟩ := hr.at_ (by omega)
  have rk : RB w B (some ⟨b, off + (a + 2), none⟩) (kN l a) (cutK l a) := by
    refine ⟨by unfold cutK; rw [List.length_take, List.length_drop, hr.len]; omega, (hr.bytes.drop _).take _, fun _ => ⟨b, off + (a + 2), rfl, hb, fun j hj => ?_⟩⟩
    rw [Nat.add_assoc, hcell (a + 2 + j) (by omega)]
    unfold cutK
    rw [List.getElem?_take, if_pos hj, List.getElem?_drop]
  have rv : RB w B (some ⟨b, off + (a + 2 + kN l a), none⟩) (vN l a) (cutV l a) := by
    refine ⟨by unfold cutV; rw [List.length_take, List.length_drop, hr.len]; omega, (hr.bytes.drop _).take _, fun _ => ⟨b, off + (a + 2 + kN l a), rfl, hb, fun j hj => ?_⟩⟩
    rw [Nat.add_assoc, hcell (a + 2 + kN l a + j) (by omega)]
    unfold cutV
    rw [List.getElem?_take, if_pos hj, List.getElem?_drop]
  have RK := Lib.hid rk
  have RV := Lib.hid rv
  have RK0 := Lib.hid (fun (h : kN l a = 0) (X : Option Addr) => show RB w B X (kN l a) (cutK l a) from ⟨rk.1, rk.2.1, fun hp => by omega⟩)
  have RV0 := Lib.hid (fun (h : vN l a = 0) (X : Option Addr) => show RB w B X (vN l a) (cutV l a) from ⟨rv.1, rv.2.1, fun hp => by omega⟩)
  clear hE hX hk hv hr hcell rk rv
  subst hn
  generalize kN l a = k at *
  generalize vN l a = v at *
  generalize cutK l a = K at *
  generalize cutV l a = V at *
  go_enter Tryz.func209, Tryz.ntmps209
  go_wp2_with fail
  refine H1.out.mono ?_
  rintro e w' ⟨rfl, rfl⟩
  go_wp2_with fail
  refine H2.out.mono ?_
  rintro e w' ⟨rfl, rfl⟩
  rcases Nat.eq_zero_or_pos k with k0 | k0 <;> rcases Nat.eq_zero_or_pos v with v0 | v0
  · subst k0 v0
    go_wp2_with fail
    go_region
    go_wp2
    have hpb := (PBox.new w (.slice (some ⟨b, off, none⟩) 0 0) (.slice (some ⟨b, off, none⟩) 0 0)).drew
    have HE := Lib.hid (show Below w.heap.size w (w.alloc (.cells #[.slice (some ⟨b, off, none⟩) 0 0, .slice (some ⟨b, off, none⟩) 0 0] 88 (0, 0))).drew from ((Below.refl _ _).alloc (Nat.le_refl _) _).drew)
    obtain ⟨d0, d1⟩ := hpb.cells
    refine bodyPost_ret (v := .tuple #[.agg #[.slice (some ⟨b, off, none⟩) 0 0, .slice (some ⟨b, off, none⟩) 0 0], .int .i64 ((a : Int) + 2)]) (by
      simp [results, Tryz.results209, go_sem, d0, d1]) rfl ?_
    exact ⟨_, _, rfl, RK0.out trivial _, RV0.out trivial _, HE.out, fun y hy => ⟨_, rfl, by rcases hy with hy | hy <;> (cases hy; rfl)⟩⟩
  · subst k0
    have hv0 : ¬ v = 0 := by omega
    go_wp2_with fail
    go_region
    go_wp2
    have hpb := (PBox.new w (.slice (some ⟨b, off, none⟩) 0 0) (.slice (some ⟨b, off + (a + 2), none⟩) v v)).drew
    have HE := Lib.hid (show Below w.heap.size w (w.alloc (.cells #[.slice (some ⟨b, off, none⟩) 0 0, .slice (some ⟨b, off + (a + 2), none⟩) v v] 88 (0, 0))).drew from ((Below.refl _ _).alloc (Nat.le_refl _) _).drew)
    obtain ⟨d0, d1⟩ := hpb.cells
    refine bodyPost_ret (v := .tuple #[.agg #[.slice (some ⟨b, off, none⟩) 0 0, .slice (some ⟨b, off + (a + 2), none⟩) v v], .int .i64 ((a : Int) + 2 + (v : Int))]) (by
      simp [results, Tryz.results209, go_sem, d0, d1]) rfl ?_
    exact ⟨_, _, rfl, RK0.out trivial _, RV.out, HE.out, fun y hy => ⟨_, rfl, by rcases hy with hy | hy <;> (cases hy; rfl)⟩⟩
  · subst v0
    have hk0 : ¬ k = 0 := by omega
    go_wp2_with fail
    go_region
    go_wp2
    have hpb := (PBox.new w (.slice (some ⟨b, off + (a + 2), none⟩) k k) (.slice (some ⟨b, off, none⟩) 0 0)).drew
    have HE := Lib.hid (show Below w.heap.size w (w.alloc (.cells #[.slice (some ⟨b, off + (a + 2), none⟩) k k, .slice (some ⟨b, off, none⟩) 0 0] 88 (0, 0))).drew from ((Below.refl _ _).alloc (Nat.le_refl _) _).drew)
    obtain ⟨d0, d1⟩ := hpb.cells
    refine bodyPost_ret (v := .tuple #[.agg #[.slice (some ⟨b, off + (a + 2), none⟩) k k, .slice (some ⟨b, off, none⟩) 0 0], .int .i64 ((a : Int) + 2 + (k : Int))]) (by
      simp [results, Tryz.results209, go_sem, d0, d1]) rfl ?_
    exact ⟨_, _, rfl, RK.out, RV0.out trivial _, HE.out, fun y hy => ⟨_, rfl, by rcases hy with hy | hy <;> (cases hy; rfl)⟩⟩
  · have hv0 : ¬ v = 0 := by omega
    have hk0 : ¬ k = 0 := by omega
    go_wp2_with fail
    go_region
    go_wp2
    have hpb := (PBox.new w (.slice (some ⟨b, off + (a + 2), none⟩) k k) (.slice (some ⟨b, off + (a + 2 + k), none⟩) v v)).drew
    have HE := Lib.hid (show Below w.heap.size w (w.alloc (.cells #[.slice (some ⟨b, off + (a + 2), none⟩) k k, .slice (some ⟨b, off + (a + 2 + k), none⟩) v v] 88 (0, 0))).drew from ((Below.refl _ _).alloc (Nat.le_refl _) _).drew)
    obtain ⟨d0, d1⟩ := hpb.cells
    refine bodyPost_ret (v := .tuple #[.agg #[.slice (some ⟨b, off + (a + 2), none⟩) k k, .slice (some ⟨b, off + (a + 2 + k), none⟩) v v], .int .i64 ((a : Int) + 2 + (k : Int) + (v : Int))]) (by
      simp [results, Tryz.results209, go_sem, d0, d1]) rfl ?_
    exact ⟨_, _, rfl, RK.out, RV.out, HE.out, fun y hy => ⟨_, rfl, by rcases hy with hy | hy <;> (cases hy; rfl)⟩⟩
end Go.Proofs.YtfbljmkjiaklfaaGreatDoor

/-
  Words for a list of pairs while it is built by append (rows of two cells each); what keeps it; how it is read; append of one pair. Plain facts; no condition beyond what each says.
-/
namespace Go.Proofs.YtfbljmkjiaklfaaGreatDoor
open Go.RowKit
set_option maxRecDepth 100000
set_option linter.unusedVariables false

theorem info_pair : (Tryz.prog.info? 88).map (fun i => (i.zero, i.size, i.bytes)) = some (some (.agg #[.slice none 0 0, .slice none 0 0]), 2, 48) := by kernel_rfl

theorem bkOwnAt {w : World} {base e size m : Nat} {v : Value} {xs : List Value} (h : w.ownsRow base e size v m xs) : ∀ g, v.ownBlock = some g → base ≤ g ∧ g < w.heap.size := by
  intro g hg
  rcases h.2 with ⟨rfl, _⟩ | ⟨g', cap, cur, rfl, hb, hh, _⟩
  · simp [Value.ownBlock] at hg
  · simp [Value.ownBlock] at hg
    subst hg
    exact ⟨hb, (Array.getElem?_eq_some_iff.1 hh).1⟩
theorem bkOwnStays {w w' : World} {base e size m : Nat} {v : Value} {xs : List Value} (h : w.ownsRow base e size v m xs) (hk : ∀ g, v.ownBlock = some g → w'.heap[g]? = w.heap[g]?) : w'.ownsRow base e size v m xs := by
  rcases h.2 with h' | ⟨g, cap, cur, rfl, hg, hb, h3⟩
  · exact ⟨h.1, .inl h'⟩
  · exact ⟨h.1, .inr ⟨g, cap, cur, rfl, hg, (hk g (by simp [Value.ownBlock])).trans hb, h3⟩⟩

/-- A slice of bytes apart from the blocks F and from a row. -/
def KFar (w : World) (F : Nat → Prop) (v : Value) (A : Option Addr) (n c : Nat) (l : List Int) : Prop :=
  n ≤ c ∧ n ≤ maxLen ∧ RB w w.heap.size A n l ∧ ∀ a, A = some a → 0 < n → ¬ F a.block ∧ v.ownBlock ≠ some a.block
/-- The list l of pairs, in a row from block base on, apart from the blocks F. -/
structure KRow (w : World) (F : Nat → Prop) (base : Nat) (v : Value) (l : List KV) : Prop where
  row : ∃ vs, w.ownsRow base 88 2 v l.length vs ∧ ∀ (i : Nat) (x : KV), l[i]? = some x → ∃ (ka : Option Addr) (kn kc : Nat) (va : Option Addr) (vn vc : Nat), vs[i * 2]? = some (.slice ka kn kc) ∧ vs[i * 2 + 1]? = some (.slice va vn vc) ∧ KFar w F v ka kn kc x.1 ∧ KFar w F v va vn vc x.2
  out : ∀ r, v.ownBlock = some r → ¬ F r

section
variable {w w' : World} {F F' : Nat → Prop} {base : Nat} {v : Value} {l : List KV}

theorem KRow.start (w : World) (F : Nat → Prop) (base : Nat) : KRow w F base (.slice none 0 0) [] :=
  ⟨⟨[], ⟨rfl, .inl ⟨rfl, rfl⟩⟩, fun i x h => by simp at h⟩, fun r h => by simp [Value.ownBlock] at h⟩
theorem KFar.keep {A : Option Addr} {n c : Nat} {b : List Int} (h : KFar w F v A n c b) (hs : w.heap.size ≤ w'.heap.size) (hF : ∀ k, k < w.heap.size → ¬ F k → ¬ F' k) (hk : ∀ k, k < w.heap.size → ¬ F k → v.ownBlock ≠ some k → w'.heap[k]? = w.heap[k]?) : KFar w' F' v A n c b := by
  obtain ⟨h1, h2, h3, h4⟩ := h
  refine ⟨h1, h2, ⟨h3.1, h3.2.1, fun hn => ?_⟩, fun a ha hn => ?_⟩
  · obtain ⟨bb, o, e, hbb, hc⟩ := h3.2.2 hn
    obtain ⟨q1, q2⟩ := h4 _ e hn
    exact ⟨bb, o, e, Nat.lt_of_lt_of_le hbb hs, fun j hj => (World.cell?_of_block (a := ⟨bb, o + j, none⟩) (hk bb hbb q1 q2)).trans (hc j hj)⟩
  · obtain ⟨bb, o, e, hbb, hc⟩ := h3.2.2 hn
    obtain ⟨q1, q2⟩ := h4 a ha hn
    rw [e] at ha
    cases ha
    exact ⟨hF _ hbb q1, q2⟩
/-- Blocks that are not F's, and were there, stand. -/
theorem KRow.keep (h : KRow w F base v l) (hs : w.heap.size ≤ w'.heap.size) (hF : ∀ k, k < w.heap.size → ¬ F k → ¬ F' k) (hk : ∀ k, k < w.heap.size → ¬ F k → w'.heap[k]? = w.heap[k]?) : KRow w' F' base v l := by
  obtain ⟨vs, h1, h2⟩ := h.row
  refine ⟨⟨vs, bkOwnStays h1 (fun g hg => hk g (bkOwnAt h1 g hg).2 (h.out g hg)), fun i x hx => ?_⟩, fun r hr => hF r (bkOwnAt h1 r hr).2 (h.out r hr)⟩
  obtain ⟨ka, kn, kc, va, vn, vc, h3, h4, h5, h6⟩ := h2 i x hx
  exact ⟨ka, kn, kc, va, vn, vc, h3, h4, h5.keep hs hF (fun k hk1 hk2 _ => hk k hk1 hk2), h6.keep hs hF (fun k hk1 hk2 _ => hk k hk1 hk2)⟩
theorem KRow.below (h : KRow w F base v l) (hb : Below w.heap.size w w') : KRow w' F base v l := h.keep hb.size (fun _ _ h => h) (fun k hk _ => hb.block k hk)
theorem KRow.setCell (h : KRow w F base v l) {p : Addr} (hp : F p.block) (u : Value) : KRow (w.setCell p u) F base v l :=
  h.keep (by simp [World.setCell]) (fun _ _ h => h) (fun k _ hf => Below.heap_setCell _ _ _ _ (fun e => hf (by rw [e]; exact hp)))

/-- The list has one more: new blocks are laid ahead of the append. -/
theorem KRow.push {X w1 : World} {v' : Value} {ka va : Option Addr} {kn kc vn vc : Nat} {x : KV} (h : KRow w F base v l) (hFlt : ∀ k, F k → k < w.heap.size) (hu : KFar w F v ka kn kc x.1) (hu2 : KFar w F v va vn vc x.2) {vs : List Value} (hvs : w.ownsRow base 88 2 v l.length vs) (hvl : ∀ (i : Nat) (x : KV), l[i]? = some x → ∃ (ka : Option Addr) (kn kc : Nat) (va : Option Addr) (vn vc : Nat), vs[i * 2]? = some (.slice ka kn kc) ∧ vs[i * 2 + 1]? = some (.slice va vn vc) ∧ KFar w F v ka kn kc x.1 ∧ KFar w F v va vn vc x.2)
    (hX : Below w.heap.size w X) (hown : w1.ownsRow base 88 2 v' (l.length + 1) (vs ++ [.slice ka kn kc, .slice va vn vc])) (hg : X.grownBy w1 v.ownBlock) (hl : v'.ownBlock = v.ownBlock ∨ ∃ r, v'.ownBlock = some r ∧ w.heap.size ≤ r) :
    KRow w1 F base v' (l ++ [x]) ∧ w.heap.size ≤ w1.heap.size ∧ ∀ k, k < w.heap.size → v.ownBlock ≠ some k → w1.heap[k]? = w.heap[k]? := by
  have hs : w.heap.size ≤ w1.heap.size := Nat.le_trans hX.size hg.size
  have hall : ∀ k, k < w.heap.size → v.ownBlock ≠ some k → w1.heap[k]? = w.heap[k]? := fun k hk hne => (hg.block k (Nat.lt_of_lt_of_le hk hX.size) (fun e => hne e.symm)).trans (hX.block k hk)
  have far : ∀ {A : Option Addr} {n c : Nat} {y : List Int}, KFar w F v A n c y → KFar w1 F v' A n c y := fun {A n c y} ha => by
    obtain ⟨h1, h2, h3, h4⟩ := ha.keep (w' := w1) (F' := F) hs (fun _ _ h => h) (fun k hk1 _ hk3 => hall k hk1 hk3)
    refine ⟨h1, h2, h3, fun a hA hn => ⟨(h4 a hA hn).1, fun e => ?_⟩⟩
    rcases hl with q | ⟨rr, q, hrr⟩
    · exact (h4 a hA hn).2 (q.symm.trans e)
    · rw [q] at e
      injection e with e
      obtain ⟨bb, o, e2, hbb, _⟩ := ha.2.2.1.2.2 hn
      rw [e2] at hA
      cases hA
      have : rr = bb := e
      omega
  have hlen : (l ++ [x]).length = l.length + 1 := by simp
  have hvlen : vs.length = l.length * 2 := hvs.1
  refine ⟨⟨⟨vs ++ [.slice ka kn kc, .slice va vn vc], by rw [hlen]; exact hown, fun i y hy => ?_⟩, fun r hr => ?_⟩, hs, hall⟩
  · rcases Nat.lt_or_ge i l.length with hi | hi
    · rw [List.getElem?_append_left hi] at hy
      obtain ⟨ka', kn', kc', va', vn', vc', h3, h4, h5, h6⟩ := hvl i y hy
      exact ⟨ka', kn', kc', va', vn', vc', by rw [List.getElem?_append_left (by omega)]; exact h3, by rw [List.getElem?_append_left (by omega)]; exact h4, far h5, far h6⟩
    · rw [List.getElem?_append_right hi] at hy
      have hi0 : i - l.length = 0 := by
        have := (List.getElem?_eq_some_iff.1 hy).1
        simp at this
        omega
      rw [hi0] at hy
      obtain rfl : x = y := by simpa using hy
      obtain rfl : i = l.length := by omega
      refine ⟨ka, kn, kc, va, vn, vc, ?_, ?_, far hu, far hu2⟩
      · rw [List.getElem?_append_right (by omega), hvlen, Nat.sub_self]; rfl
      · rw [List.getElem?_append_right (by omega), hvlen, show l.length * 2 + 1 - l.length * 2 = 1 by omega]; rfl
  · rcases hl with a | ⟨rr, a, hrr⟩
    · exact h.out r (a.symm.trans hr)
    · rw [a] at hr
      injection hr with hr
      intro hf
      have := hFlt r hf
      omega

theorem KRow.shape (h : KRow w F base v l) : ∃ A c, v = .slice A l.length c ∧ l.length ≤ c := by
  obtain ⟨vs, h1, h2⟩ := h.row
  rcases h1.2 with ⟨rfl, h0⟩ | ⟨g, cap, cur, rfl, hb, hg, hc, _⟩
  · rw [h0]; exact ⟨none, 0, rfl, Nat.le_refl _⟩
  · exact ⟨_, cap, rfl, hc⟩
/-- How it is read. -/
theorem KRow.pairs {A : Option Addr} {n c : Nat} (h : KRow w F base (.slice A n c) l) : n = l.length ∧ n ≤ c ∧ RPairs w w.heap.size A n l := by
  obtain ⟨vs, h1, h2⟩ := h.row
  rcases h1.2 with ⟨e, h0⟩ | ⟨g, cap, cur, e, hb, hg, hc, _, _, htake⟩
  · cases e
    exact ⟨h0.symm, Nat.le_refl _, h0, fun hn => absurd hn (by omega)⟩
  · cases e
    refine ⟨rfl, hc, rfl, fun hn => ⟨g, 0, rfl, (Array.getElem?_eq_some_iff.1 hg).1, fun i y hy => ?_⟩⟩
    have hi := (List.getElem?_eq_some_iff.1 hy).1
    obtain ⟨ka, kn, kc, va, vn, vc, h3, h4, h5, h6⟩ := h2 i y hy
    refine ⟨ka, kn, kc, va, vn, vc, ?_, ?_, h5.2.2.1, ⟨h5.1, h5.2.1⟩, h6.2.2.1, ⟨h6.1, h6.2.1⟩⟩
    · rw [Nat.zero_add, cell_of_row w g (i * 2) cur _ (0, 0) hg, ← h3, ← htake, List.getElem?_take, if_pos (by omega)]
      simp
    · rw [Nat.zero_add, cell_of_row w g (i * 2 + 1) cur _ (0, 0) hg, ← h4, ← htake, List.getElem?_take, if_pos (by omega)]
      simp
end

theorem wpList_append_pair {w : World} {ops : Array Oper} {rest : List Oper} {o : Oper} {a : Act} {Q : Exit → Act → World → Prop} (hgd : o.guard = none) (s x : Operand)
    (ho : o.op = .call { callee := .builtin .append, args := #[s, x], argTypes := #[31, 31] })
    (base : Nat) (v : Value) (n : Nat) (xs : List Value) (hs : a.eval s = v) (b : Nat) (z u : Value) (T : TypeId) (hx : a.eval x = .slice (some ⟨b, 0, none⟩) 1 1)
    (hown : w.ownsRow base 88 2 v n xs) (hb : w.heap[b]? = some (.cells #[z, u] T)) (hz : z.oneCell' = true) (hu : u.oneCell' = true) (h63 : n ≤ 4294967296) (hbase : base ≤ w.heap.size)
    (h : ∀ A' c' w', w'.ownsRow base 88 2 (.slice A' (n + 1) c') (n + 1) (xs ++ [z, u]) → w.grownBy w' v.ownBlock → ((Value.slice A' (n + 1) c').ownBlock = v.ownBlock ∨ (Value.slice A' (n + 1) c').ownBlock = some w.heap.size) → wpList Tryz.prog ops Q rest (a.put o.dst (.slice A' (n + 1) c')) w') : wpList Tryz.prog ops Q (o :: rest) a w := by
  obtain ⟨i0, hi, hz0, hz1, hz2⟩ := info_parts info_pair
  refine wpList_append_own_at w hgd s x _ ho base _ i0 (.agg #[.slice none 0 0, .slice none 0 0]) 2 48 Tryz.underlying31 hi hz0 hz1 hz2 rfl (by decide) v n _ hs hown ⟨b, 0, none⟩ 1 1 [z, u] hx rfl (World.news_of_block (cs := #[z, u]) hb) (fun y hy => ?_) (by unfold maxLen; omega) (by omega) hbase ?_
  · rcases List.mem_cons.1 hy with rfl | hy
    · exact hz
    · obtain rfl := List.mem_singleton.1 hy; exact hu
  intro v' w' h1 h2 _ h4
  obtain ⟨g, cap, rfl, _⟩ := h1.form (Nat.succ_pos _)
  exact h _ cap w' h1 h2 h4

/-- A box with a slice set anew. -/
theorem BkBox.set2 {w : World} {g n c n' c' : Nat} {d x : Int} {A A' : Option Addr} (h : BkBox w g d x A n c) : BkBox (w.setCell ⟨g, 2, none⟩ (.slice A' n' c')) g d x A' n' c' := heap_setCell_same w g 2 _ _ (.slice A' n' c') h
theorem BkBox.store {w : World} {g n c n' c' : Nat} {d x d' x' : Int} {A A' : Option Addr} (h : BkBox w g d x A n c) : BkBox (((w.setCell ⟨g, 0, none⟩ (.int .i64 d')).setCell ⟨g, 1, none⟩ (.int .i64 x')).setCell ⟨g, 2, none⟩ (.slice A' n' c')) g d' x' A' n' c' := by
  have h1 := heap_setCell_same w g 0 _ _ (.int .i64 d') h
  have h2 := heap_setCell_same _ g 1 _ _ (.int .i64 x') h1
  exact heap_setCell_same _ g 2 _ _ (.slice A' n' c') h2
theorem BkBox.frozen {w : World} {g n c : Nat} {d x : Int} {A : Option Addr} (h : BkBox w g d x A n c) (i : Nat) : w.frozen? ⟨g, i, none⟩ = false := by
  have h' : w.heap[g]? = some (.cells #[.int .i64 d, .int .i64 x, .slice A n c] 83 (0, 0)) := h
  simp [World.frozen?, h']
theorem BkBox.apart {w : World} {g b i n c : Nat} {d x : Int} {A : Option Addr} {u : Value} (h : BkBox w b d x A n c) (hne : b ≠ g) : BkBox (w.setCell ⟨g, i, none⟩ u) b d x A n c := (Below.heap_setCell _ _ _ _ hne).trans h
end Go.Proofs.YtfbljmkjiaklfaaGreatDoor
