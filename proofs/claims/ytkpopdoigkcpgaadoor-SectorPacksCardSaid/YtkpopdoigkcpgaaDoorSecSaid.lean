/-
  What the program's own Right, Pack and Unpack of sectors are to answer, as statements: proved in a text of its own, used by the law's walks. And the statement package's own check. Condition: the table that crc.Step reads holds what the program's text lays in it.
-/
import Derived.Test.YtkpopdoigkcpgaaDoorSecRef
import Derived.Test.YtkpopdoigkcpgaaDoorEqual
import Derived.Test.YtkpopdoigkcpgaaDoorPut
namespace Go.Proofs.YtkpopdoigkcpgaaDoor
open Go.RowKit
set_option linter.unusedVariables false

def SecRightSaid : Prop := ∀ (p s : Int) (w : World), Calls Tryd.prog 10 #[.int .i64 p, .int .i64 s] w fun e w' => e = .returned (.bool (secR p s)) ∧ w = w'
def PackSaid : Prop := ∀ (A : Option Addr) (n c B : Nat) (l : List Int) (p s : Int) (w : World), RB w B A n l → B ≤ w.heap.size → n ≤ c → n ≤ 140737488355000 → Tab w → 0 < w.heap.size →
  Calls Tryd.prog 7 #[.int .i64 p, .int .i64 s, .slice A n c] w fun e w' => ∃ v, e = .returned (.tuple #[v, .int .i64 (packR p s l).2]) ∧ w'.ownsRow w.heap.size 5 1 v (packR p s l).1.length ((packR p s l).1.map (Value.int .u8)) ∧ Below w.heap.size w w'
def UnpackSaid : Prop := ∀ (A : Option Addr) (n c B : Nat) (l : List Int) (w : World), RB w B A n l → B ≤ w.heap.size → n ≤ c → n ≤ 140737488355000 → Tab w → 0 < w.heap.size →
  Calls Tryd.prog 12 #[.slice A n c] w fun e w' => ∃ A' n' c', e = .returned (.tuple #[.int .i64 (unpackR l).1, .int .i64 (unpackR l).2.1, .slice A' n' c', .int .i64 (unpackR l).2.2.2]) ∧ n' ≤ c' ∧ RB w' w'.heap.size A' n' (unpackR l).2.2.1 ∧ Below w.heap.size w w'

/-- Noughts. -/
def zeros (n : Nat) : List Int := List.replicate n 0
theorem zeros_length (n : Nat) : (zeros n).length = n := List.length_replicate ..
theorem zeros_bytes (n : Nat) : AllBytes (zeros n) := fun x hx => by
  obtain rfl := (List.mem_replicate.1 hx).2
  decide
theorem RB.made {w : World} {base g n : Nat} (h : w.ownsRow base 5 1 (.slice (some ⟨g, 0, none⟩) n n) n (madeCells (Value.int .u8 0).cells (n * 1)).toList) : RB w w.heap.size (some ⟨g, 0, none⟩) n (zeros n) := by
  refine RB.of_own (base := base) (e := 5) (c := n) ?_ (zeros_bytes n)
  rw [show (Value.int .u8 0).cells = #[Value.int .u8 0] from rfl, toList_madeCells_one, Nat.mul_one] at h
  rw [zeros, List.map_replicate]
  exact h

theorem zero_sec : secR 3 7 = true := by decide
theorem zero_not : ¬ isSec (zeros 256) := by
  rintro ⟨_, h, _⟩
  have e1 : numOf ((zeros 256).take 4) = 0 := by decide +kernel
  have e2 : sumOf ((zeros 256).drop 4) ≠ 0 := by decide +kernel
  rw [e1] at h
  exact e2 (by exact_mod_cast h.symm)

set_option maxHeartbeats 1600000 in
theorem secAwake_any (hP : PackSaid) (hU : UnpackSaid) (w : World) (ht : Tab w) (hg : 0 < w.heap.size) : Calls Tryd.prog 6 #[] w fun e w' => e = .returned (.bool true) ∧ Below w.heap.size w w' := by
  obtain ⟨i0, hi, hz0, hz1, hz2⟩ := info_parts info_u8
  have hz := zeros_bytes 240
  have hpk : packR 3 7 (zeros 240) = (secL 3 7 (zeros 240), 0) := by unfold packR; rw [if_pos ⟨zero_sec, zeros_length 240⟩]
  have hup := unpack_pack hz zero_sec (zeros_length 240)
  have hun : unpackR (zeros 256) = (0, 0, [], 4) := by unfold unpackR; rw [if_neg zero_not]
  have HP := Lib.hid hpk
  have HU := Lib.hid hup
  have HN := Lib.hid hun
  have hlen : (secL 3 7 (zeros 240)).length = 256 := by rw [secL_length, zeros_length]
  have hby := secL_bytes 3 7 hz
  clear hpk hup hun
  have HL := Lib.hid hlen
  clear hlen
  go_enter Tryd.func6, Tryd.ntmps6
  go_wp2_with (refine wpList_make_full w rfl _ _ 22 rfl w.heap.size 5 i0 (.int .u8 0) 1 Tryd.underlying22 hi hz0 hz1 .i64 .i64 _ _ 240 rfl rfl rfl rfl (by rw [hz2]; decide) (by decide) (Nat.le_refl _) ?_; intro w1 hown1 hg1; have hb1 : Below w.heap.size w w1 := (Below.refl _ _).grown hg1 (Nat.le_refl _) (by simp); have hr1 := RB.made hown1; clear hown1 hg1)
  have ht1 := ht.below hb1 hg
  have hs1 := hb1.size
  refine (hP _ _ _ _ _ 3 7 _ hr1 (Nat.le_refl _) (Nat.le_refl _) (by decide) ht1 (Nat.lt_of_lt_of_le hg hs1)).mono ?_
  rw [HP.out]
  rintro e w2 ⟨v2, rfl, hown2, hb2⟩
  have hown2' : w2.ownsRow w1.heap.size 5 1 v2 (secL 3 7 (zeros 240)).length ((secL 3 7 (zeros 240)).map (Value.int .u8)) := hown2
  rw [HL.out] at hown2'
  obtain ⟨A2, c2, rfl, hc2, hr2⟩ := read_own hown2' hby
  have hb02 := hb1.trans (hb2.mono hs1)
  have hs2 := hb02.size
  have ht2 := ht.below hb02 hg
  clear hown2 hown2' hr1
  go_wp2_with fail
  refine (hU _ _ _ _ _ _ hr2 (Nat.le_refl _) hc2 (by decide) ht2 (Nat.lt_of_lt_of_le hg hs2)).mono ?_
  rw [HU.out]
  rintro e w3 ⟨A3, n3, c3, rfl, hc3, hr3, hb3⟩
  have hb03 := hb02.trans (hb3.mono hs2)
  have hs3 := hb03.size
  have ht3 := ht.below hb03 hg
  obtain rfl : n3 = 240 := hr3.len.symm.trans (zeros_length 240)
  clear hr2 hr3
  go_wp2_with (refine wpList_make_full w3 rfl _ _ 22 rfl w3.heap.size 5 i0 (.int .u8 0) 1 Tryd.underlying22 hi hz0 hz1 .i64 .i64 _ _ 256 rfl rfl rfl rfl (by rw [hz2]; decide) (by decide) (Nat.le_refl _) ?_; intro w4 hown4 hg4; have hb4 : Below w3.heap.size w3 w4 := (Below.refl _ _).grown hg4 (Nat.le_refl _) (by simp); have hr4 := RB.made hown4; clear hown4 hg4)
  have hb04 := hb03.trans (hb4.mono hs3)
  have hs4 := hb04.size
  have ht4 := ht.below hb04 hg
  refine (hU _ _ _ _ _ _ hr4 (Nat.le_refl _) (Nat.le_refl _) (by decide) ht4 (Nat.lt_of_lt_of_le hg hs4)).mono ?_
  rw [HN.out]
  rintro e w5 ⟨A5, n5, c5, rfl, hc5, hr5, hb5⟩
  have hb05 := hb04.trans (hb5.mono hs4)
  clear hr4 hr5
  go_wp2
  go_ret
  exact ⟨rfl, hb05⟩

end Go.Proofs.YtkpopdoigkcpgaaDoor
