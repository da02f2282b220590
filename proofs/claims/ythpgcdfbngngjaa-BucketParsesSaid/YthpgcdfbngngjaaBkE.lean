/-
  Contract of bucket.Put. Condition: pairs of few bytes; numbers are ints.
-/
import Derived.Test.YthpgcdfbngngjaaBkD
import Derived.Deep.RegionHeld3
import Derived.Lib.BufferWrite
namespace Go.Proofs.Ythpgcdfbngngjaa
open Go.RowKit
set_option maxRecDepth 100000
set_option linter.unusedVariables false

/-- Put of one number alone. -/
theorem bkPutNil_any (x : Int) (k : Nat) (w : World) (hs : rightB x (k : Int) = true) (hk8 : k ≤ 8) (hx : -9223372036854775808 ≤ x ∧ x ≤ 9223372036854775807) :
    Calls Try.prog 31 #[.slice none 0 0, .int .i64 x, .int .i64 (k : Int)] w fun e w' => ∃ g, e = .returned (.slice (some ⟨g, 0, none⟩) k k) ∧ w.heap.size ≤ g ∧ RB w' w'.heap.size (some ⟨g, 0, none⟩) k (putB x k) ∧ Below w.heap.size w w' := by
  refine (Put_any none 0 0 0 [] x (k : Int) w RB.nil_ (Nat.zero_le _) (Nat.le_refl _) (by decide) hx.1 hx.2).mono ?_
  rintro e w' ⟨v, rfl, ⟨g, rfl, hg, hh⟩, hb⟩
  have e1 : putR [] x (k : Int) = putB x k := by
    unfold putR
    rw [if_pos hs, Int.toNat_natCast, List.nil_append]
  rw [e1] at hh
  refine ⟨g, by rw [e1, putB_length], hg, ⟨putB_length _ _, putB_bytes _ _, fun _ => ⟨g, 0, rfl, (Array.getElem?_eq_some_iff.1 hh).1, fun j hj => ?_⟩⟩, hb⟩
  rw [Nat.zero_add, cell_of_row w' g j _ _ (0, 0) hh, List.getElem?_toArray, List.getElem?_map, List.getElem?_eq_getElem (by rw [putB_length]; exact hj)]
  rfl

/-- A part that stands in a world, apart from block g. -/
structure Part (w : World) (g : Nat) (A : Option Addr) (n c : Nat) (l : List Int) : Prop where
  hm : n ≤ maxLen
  hc : n ≤ c
  hr : RB w w.heap.size A n l
  hg : ∀ x, A = some x → 0 < n → x.block ≠ g
theorem Part.below {w w' : World} {g n c : Nat} {A : Option Addr} {l : List Int} (h : Part w g A n c l) (hb : Below w.heap.size w w') : Part w' g A n c l := ⟨h.hm, h.hc, (h.hr.below hb).more hb.size, h.hg⟩
theorem Part.at_ {w w' : World} {g n c b off : Nat} {A : Option Addr} {l : List Int} (h : Part w g A n c l) (hb : Below w.heap.size w w') (hcell : w'.cell? ⟨b, off, none⟩ = some (.slice A n c)) : PartAt w' g b off l :=
  ⟨A, n, c, hcell, h.hm, h.hc, (h.hr.below hb).more hb.size, h.hg⟩
theorem parts3 {w : World} {g n1 n2 n3 c1 c2 c3 : Nat} {A1 A2 A3 : Option Addr} {l1 l2 l3 : List Int} (T : TypeId) (hg : g < w.heap.size) (h1 : Part w g A1 n1 c1 l1) (h2 : Part w g A2 n2 c2 l2) (h3 : Part w g A3 n3 c3 l3) : RParts (w.alloc (.cells #[.slice A1 n1 c1, .slice A2 n2 c2, .slice A3 n3 c3] T (0, 0))) g (some ⟨w.heap.size, 0, none⟩) 3 [l1, l2, l3] := by
  have hX : Below w.heap.size w (w.alloc (.cells #[.slice A1 n1 c1, .slice A2 n2 c2, .slice A3 n3 c3] T (0, 0))) := (Below.refl _ _).alloc (Nat.le_refl _) _
  have hh := heap_alloc_new w (.cells #[.slice A1 n1 c1, .slice A2 n2 c2, .slice A3 n3 c3] T (0, 0))
  refine ⟨rfl, fun _ => ⟨w.heap.size, 0, rfl, by omega, by simp, fun j l hj => ?_⟩⟩
  match j, hj with
  | 0, hj => obtain rfl : l1 = l := by simpa using hj
             exact h1.at_ hX (by rw [cell_of_row _ _ _ _ _ (0, 0) hh]; rfl)
  | 1, hj => obtain rfl : l2 = l := by simpa using hj
             exact h2.at_ hX (by rw [cell_of_row _ _ _ _ _ (0, 0) hh]; rfl)
  | 2, hj => obtain rfl : l3 = l := by simpa using hj
             exact h3.at_ hX (by rw [cell_of_row _ _ _ _ _ (0, 0) hh]; rfl)
theorem parts4 {w : World} {g n1 n2 n3 n4 c1 c2 c3 c4 : Nat} {A1 A2 A3 A4 : Option Addr} {l1 l2 l3 l4 : List Int} (T : TypeId) (hg : g < w.heap.size) (h1 : Part w g A1 n1 c1 l1) (h2 : Part w g A2 n2 c2 l2) (h3 : Part w g A3 n3 c3 l3) (h4 : Part w g A4 n4 c4 l4) : RParts (w.alloc (.cells #[.slice A1 n1 c1, .slice A2 n2 c2, .slice A3 n3 c3, .slice A4 n4 c4] T (0, 0))) g (some ⟨w.heap.size, 0, none⟩) 4 [l1, l2, l3, l4] := by
  have hX : Below w.heap.size w (w.alloc (.cells #[.slice A1 n1 c1, .slice A2 n2 c2, .slice A3 n3 c3, .slice A4 n4 c4] T (0, 0))) := (Below.refl _ _).alloc (Nat.le_refl _) _
  have hh := heap_alloc_new w (.cells #[.slice A1 n1 c1, .slice A2 n2 c2, .slice A3 n3 c3, .slice A4 n4 c4] T (0, 0))
  refine ⟨rfl, fun _ => ⟨w.heap.size, 0, rfl, by omega, by simp, fun j l hj => ?_⟩⟩
  match j, hj with
  | 0, hj => obtain rfl : l1 = l := by simpa using hj
             exact h1.at_ hX (by rw [cell_of_row _ _ _ _ _ (0, 0) hh]; rfl)
  | 1, hj => obtain rfl : l2 = l := by simpa using hj
             exact h2.at_ hX (by rw [cell_of_row _ _ _ _ _ (0, 0) hh]; rfl)
  | 2, hj => obtain rfl : l3 = l := by simpa using hj
             exact h3.at_ hX (by rw [cell_of_row _ _ _ _ _ (0, 0) hh]; rfl)
  | 3, hj => obtain rfl : l4 = l := by simpa using hj
             exact h4.at_ hX (by rw [cell_of_row _ _ _ _ _ (0, 0) hh]; rfl)

theorem putB_one {x : Int} (h : 0 ≤ x ∧ x < 256) : putB x 1 = [x] := by
  show [] ++ [x % 256] = [x]
  rw [List.nil_append, Int.emod_eq_of_lt h.1 h.2]
/-- A page of noughts. -/
def zeroL : List Int := List.replicate 240 0
theorem zeroL_length : zeroL.length = 240 := List.length_replicate
theorem zeroL_cells : zeroL.map (Value.int .u8) = List.replicate 240 (Value.int .u8 0) := by unfold zeroL; rw [List.map_replicate]
/-- The letter over a page of noughts. -/
theorem bkLetter_run {w : World} {g : Nat} (h : w.heap[g]? = some (.cells (zeroL.map (Value.int .u8)).toArray 5 (0, 0))) (ty : TypeId) : ∃ w', (Builtin.copy_ #[22, 9] ty #[.slice (some ⟨g, 0, none⟩) 240 240, .string { data := #[66] }]).run Try.prog w = .ok (.int .i64 1) w' ∧ w'.heap[g]? = some (.cells ((splice zeroL 0 [66]).map (Value.int .u8)).toArray 5 (0, 0)) ∧ Touch (fun j => j = g) w w' := by
  have hrun := Lib.run_copy_row_string (P := Try.prog) w 22 9 ty 5 g 0 240 240 { data := #[66] } _ 5 Try.underlying22 size_u8'' h (by decide) (by rw [List.size_toArray, List.length_map, zeroL_length]; decide)
  refine ⟨_, hrun, ?_, ⟨rfl, rfl, rfl, by simp [World.setRow], fun k hk hne => setRow_other w g k _ (fun e => hne e)⟩⟩
  rw [setRow_heap w g _ _ _ _ h]
  rfl
theorem BkBox.touch {w w' : World} {b g n c : Nat} {d x : Int} {A : Option Addr} (h : BkBox w b d x A n c) (ht : Touch (fun j => j = g) w w') (hne : b ≠ g) : BkBox w' b d x A n c := (ht.block b h.cells.2.2.2 hne).trans h
theorem BkBox.cells3 {w : World} {g n c : Nat} {d x : Int} {A : Option Addr} (h : BkBox w g d x A n c) : w.cell? ⟨g, 0, none⟩ = some (.int .i64 d) ∧ w.cell? ⟨g, 1, none⟩ = some (.int .i64 x) ∧ w.cell? ⟨g, 2, none⟩ = some (.slice A n c) := ⟨h.cells.1, h.cells.2.1, h.cells.2.2.1⟩
theorem BkBox.drew {w : World} {g n c : Nat} {d x : Int} {A : Option Addr} (h : BkBox w g d x A n c) : BkBox w.drew g d x A n c := h
theorem bkLetter_made {w1 w2 : World} {b n c : Nat} {d x : Int} {A : Option Addr} (hown2 : w2.ownsRow w1.heap.size 5 1 (.slice (some ⟨w1.heap.size, 0, none⟩) 240 240) 240 (madeCells (Value.int .u8 0).cells (240 * 1)).toList) (hb2 : Below w1.heap.size w1 w2) (hmb : BkBox w1 b d x A n c) :
    ∃ w3, (Builtin.copy_ #[22, 9] 3 #[.slice (some ⟨w1.heap.size, 0, none⟩) 240 240, .string { data := #[66] }]).run Try.prog w2 = .ok (.int .i64 1) w3 ∧ Hid (w3.heap[w1.heap.size]? = some (.cells ((splice zeroL 0 [66]).map (Value.int .u8)).toArray 5 (0, 0)) ∧ Touch (fun j => j = w1.heap.size) w1 w3) ∧ BkBox w3 b d x A n c := by
  have hblk2 := made_u8 hown2
  rw [← zeroL_cells] at hblk2
  obtain ⟨w3, hrun3, hblk3, ht3⟩ := bkLetter_run hblk2 3
  have hbl := hmb.cells.2.2.2
  have hs2 := hb2.size
  have ht : Touch (fun j => j = w1.heap.size) w1 w3 := ⟨ht3.os.trans hb2.os, ht3.tape.trans hb2.tape, ht3.output.trans hb2.output, Nat.le_trans hs2 ht3.size, fun j hj hn => (ht3.block j (Nat.lt_of_lt_of_le hj hs2) hn).trans (hb2.block j hj)⟩
  exact ⟨w3, hrun3, Lib.hid ⟨hblk3, ht⟩, hmb.touch ht (by omega)⟩

/-- What a bucket that may be is. -/
theorem mayBk_few {b : BV} (h : mayBk b = true) : 8 + szP b.ps ≤ 240 ∧ (0 ≤ b.d ∧ b.d ≤ 10) ∧ rightB b.x 4 = true ∧ pairsB b.ps = true := by
  unfold mayBk at h
  simp only [Bool.and_eq_true, decide_eq_true_eq] at h
  exact ⟨h.1.1.1.1, ⟨h.1.1.1.2, h.1.1.2⟩, h.1.2, h.2⟩
theorem pairsB_at {ps : List KV} (h : pairsB ps = true) {k : Nat} {y : KV} (hy : ps[k]? = some y) : (1 ≤ y.1.length ∧ y.1.length ≤ 32) ∧ y.2.length ≤ 120 ∧ findI ps y.1 = (k : Int) := by
  have hk := (List.getElem?_eq_some_iff.1 hy).1
  have := List.all_eq_true.1 h k (by simpa using hk)
  rw [okAt_some hy] at this
  simp only [Bool.and_eq_true, decide_eq_true_eq, beq_iff_eq] at this
  exact ⟨this.1.1, this.1.2, this.2⟩
theorem right_1 {x : Int} (h : 0 ≤ x ∧ x < 256) : rightB x ((1 : Nat) : Int) = true := by
  unfold rightB
  simp [h]
theorem right_2 {x : Int} (h : 0 ≤ x ∧ x < 65536) : rightB x ((2 : Nat) : Int) = true := by
  unfold rightB
  simp [h]

theorem RPairs.bytes {w : World} {B n : Nat} {A : Option Addr} {ps : List KV} (h : RPairs w B A n ps) : ∀ y ∈ ps, AllBytes y.1 ∧ AllBytes y.2 := by
  intro y hy
  obtain ⟨k, hk, rfl⟩ := List.getElem_of_mem hy
  obtain ⟨b, off, e, hb, hat⟩ := h.2 (by rw [← h.len]; exact Nat.lt_of_le_of_lt (Nat.zero_le _) hk)
  obtain ⟨_, _, _, _, _, _, _, _, hk1, _, hv1, _⟩ := hat k _ (List.getElem?_eq_getElem hk)
  exact ⟨hk1.bytes, hv1.bytes⟩
theorem pageBk_bytes {b : BV} (hm : mayBk b = true) (hall : ∀ y ∈ b.ps, AllBytes y.1 ∧ AllBytes y.2) : AllBytes (pageBk b) := by
  obtain ⟨f1, f2, f3, f4⟩ := mayBk_few hm
  refine ((AllBytes.append ?_ ?_).append (fun y hy => by have := List.eq_of_mem_replicate hy; omega))
  · intro y hy
    simp only [bkHeadL, List.mem_cons, List.mem_append] at hy
    rcases hy with rfl | hy | hy | hy
    · decide
    · exact putB_bytes _ _ y hy
    · exact putB_bytes _ _ y hy
    · exact putB_bytes _ _ y hy
  · intro z hz
    obtain ⟨y, hy, hz⟩ := List.mem_flatMap.1 hz
    obtain ⟨k, hk, he⟩ := List.getElem_of_mem hy
    have hpk := pairsB_at f4 (k := k) (y := y) (by rw [List.getElem?_eq_getElem hk, he])
    simp only [pairL, List.mem_cons, List.mem_append] at hz
    rcases hz with rfl | rfl | hz | hz
    · omega
    · omega
    · exact (hall y hy).1 z hz
    · exact (hall y hy).2 z hz

theorem page_done (b : BV) (hsz : 8 + szP b.ps ≤ 240) : splice zeroL 0 (bkHeadL b ++ pairsL b.ps) = pageBk b := by
  unfold splice pageBk zeroL
  rw [List.take_zero, List.nil_append, Nat.zero_add, List.drop_replicate, List.length_append, bkHeadL_length, pairsL_length, List.append_assoc]
theorem page_head (b : BV) : splice (splice zeroL 0 [66]) 1 ([putB b.d 1, putB b.x 4, putB (b.ps.length : Int) 2] : List (List Int)).flatten = splice zeroL 0 (bkHeadL b ++ pairsL (b.ps.take 0)) := by
  have h := splice_two (L := zeroL) (d := [66]) (e := ([putB b.d 1, putB b.x 4, putB (b.ps.length : Int) 2] : List (List Int)).flatten) (a := 0) (by simp [putB_length, zeroL_length])
  have e : bkHeadL b ++ pairsL (b.ps.take 0) = [66] ++ ([putB b.d 1, putB b.x 4, putB (b.ps.length : Int) 2] : List (List Int)).flatten := by
    simp [bkHeadL, pairsL]
  rw [e, ← h]
  rfl
theorem page_pair {b : BV} {k : Nat} {y : KV} (hy : b.ps[k]? = some y) (hm : mayBk b = true) : splice (splice zeroL 0 (bkHeadL b ++ pairsL (b.ps.take k))) (8 + szP (b.ps.take k)) ([putB (y.1.length : Int) 1, putB (y.2.length : Int) 1, y.1, y.2] : List (List Int)).flatten = splice zeroL 0 (bkHeadL b ++ pairsL (b.ps.take (k + 1))) := by
  obtain ⟨h1, h2, h3, h4⟩ := mayBk_few hm
  obtain ⟨p1, p2, p3⟩ := pairsB_at h4 hy
  have e1 : ([putB (y.1.length : Int) 1, putB (y.2.length : Int) 1, y.1, y.2] : List (List Int)).flatten = pairL y := by
    rw [putB_one (by omega), putB_one (by omega)]
    simp [pairL]
  have hs := szP_step hy
  have hle := szP_take_le b.ps (k + 1)
  have hl : (bkHeadL b ++ pairsL (b.ps.take k)).length = 8 + szP (b.ps.take k) := by rw [List.length_append, bkHeadL_length, pairsL_length]
  have h := splice_two (L := zeroL) (d := bkHeadL b ++ pairsL (b.ps.take k)) (e := pairL y) (a := 0) (by rw [hl, zeroL_length, pairL_length]; omega)
  rw [hl, Nat.zero_add] at h
  rw [e1, h, pairsL_step hy, List.append_assoc]
end Go.Proofs.Ythpgcdfbngngjaa
