/-
  Contract of cmd.Same at two commands that are the same. Conditions: lines lie in memory.
-/
import Derived.Test.YtombdkebjbhacaaCmdS
namespace Go.Proofs.Ytombdkebjbhacaa
open Go.RowKit Go.Maps
set_option maxRecDepth 100000
set_option linter.unusedVariables false

set_option maxHeartbeats 6400000 in
theorem sameSelf_any (x : Cm) (w : World) {A A' : Option Addr} {n m B B' : Nat} (c d : Nat) (hr : RL w B A n x.ls) (hr' : RL w B' A' m x.ls) (hm : n ≤ maxLen) (hm' : m ≤ maxLen) (hB : B ≤ w.heap.size) (hB' : B' ≤ w.heap.size) :
    Calls Try.prog 15 #[.agg (cmC x (.slice A n c)), .agg (cmC x (.slice A' m d))] w fun e w' => e = .returned (.bool true) ∧ Below w.heap.size w w' := by
  obtain ⟨w2, hw2⟩ : ∃ w2, w2 = (w.alloc (.cells (cmC x (.slice A n c)) 24)).alloc (.cells (cmC x (.slice A' m d)) 24) := ⟨_, rfl⟩
  have b0 : Below w.heap.size w (w.alloc (.cells (cmC x (.slice A n c)) 24)) := (Below.refl _ _).alloc (Nat.le_refl _) _
  have s0 : (w.alloc (.cells (cmC x (.slice A n c)) 24)).heap.size = w.heap.size + 1 := by simp
  have b1 : Below (w.heap.size + 1) (w.alloc (.cells (cmC x (.slice A n c)) 24)) w2 := by rw [hw2]; exact (Below.refl _ _).alloc (by omega) _
  have m1 : CmAt w2 w.heap.size x (.slice A n c) := (b1.block _ (by omega)).trans (heap_alloc_new w _)
  have m2 : CmAt w2 (w.heap.size + 1) x (.slice A' m d) := by
    have := heap_alloc_new (w.alloc (.cells (cmC x (.slice A n c)) 24)) (.cells (cmC x (.slice A' m d)) 24)
    rw [s0] at this
    unfold CmAt
    rw [hw2]; exact this
  have hb2 := b0.trans (b1.mono (by omega))
  have hl1 := m1.lt
  have hl2 := m2.lt
  have hBw : B ≤ w2.heap.size := by omega
  have hBw' : B' ≤ w2.heap.size := by omega
  have hbd : Below w2.heap.size w2 w2.drew := (Below.refl _ _).drew
  have hcmp : ∀ W, (Op.equalIn 10000 50 (.agg ((nums11 x).map (Value.int .i64)).toArray) (.agg ((nums11 x).map (Value.int .i64)).toArray)).run Try.prog W = .ok true W := fun W => by
    have := same11 x x W
    rwa [decide_eq_true (⟨rfl, rfl, rfl, rfl, rfl, rfl, rfl, rfl, rfl, rfl, rfl⟩)] at this
  have hstr : (x.nm.toList == x.nm.toList) = true := by simp
  obtain ⟨c0, c1, c2, c3, c4, c5, c6, c7, c8, c9, c10, c11, c12⟩ := m1.cells
  obtain ⟨d0, d1, d2, d3, d4, d5, d6, d7, d8, d9, d10, d11, d12⟩ := m2.cells
  have KK := Lib.hid (show ∀ w' : World, Below w2.drew.heap.size w2.drew w' → Below w2.heap.size w2 w' from fun w' hb => hbd.trans hb)
  have KB := Lib.hid (show ∀ W w' : World, Below w2.heap.size w2 W → Below W.heap.size W w' → Below w2.heap.size w2 w' from fun W w' h1 h2 => h1.trans (h2.mono h1.size))
  have KR := Lib.hid (show ∀ W : World, Below w2.heap.size w2 W → RL W B A n x.ls ∧ RL W B' A' m x.ls from fun W hW => ⟨hr.below ((hb2.mono hB).trans (hW.mono hBw)), hr'.below ((hb2.mono hB').trans (hW.mono hBw'))⟩)
  go_enter Try.func15, Try.ntmps15
  go_wp2_with fail
  rw [← hw2]
  clear hw2 b0 s0 b1
  have tok1 : True := trivial
  go_region_held3 (fun W => W.cell? ⟨w.heap.size, 0, none⟩ = some (.int .i64 x.k) ∧ W.cell? ⟨w.heap.size, 1, none⟩ = some (.int .i64 x.y) ∧ W.cell? ⟨w.heap.size, 2, none⟩ = some (.int .i64 x.n) ∧ W.cell? ⟨w.heap.size, 3, none⟩ = some (.int .i64 x.f) ∧ W.cell? ⟨w.heap.size, 4, none⟩ = some (.int .i64 x.o) ∧ W.cell? ⟨w.heap.size, 5, none⟩ = some (.int .i64 x.d) ∧ W.cell? ⟨w.heap.size, 6, none⟩ = some (.int .i64 x.p) ∧ W.cell? ⟨w.heap.size, 7, none⟩ = some (.int .i64 x.c) ∧ W.cell? ⟨w.heap.size, 8, none⟩ = some (.int .i64 x.i) ∧ W.cell? ⟨w.heap.size, 9, none⟩ = some (.int .i64 x.a) ∧ W.cell? ⟨w.heap.size, 10, none⟩ = some (.bool x.ab) ∧ W.cell? ⟨w.heap.size, 11, none⟩ = some (.string x.nm) ∧ W.cell? ⟨w.heap.size, 12, none⟩ = some (.slice A n c) ∧ W.cell? ⟨w.heap.size + 1, 0, none⟩ = some (.int .i64 x.k) ∧ W.cell? ⟨w.heap.size + 1, 1, none⟩ = some (.int .i64 x.y) ∧ W.cell? ⟨w.heap.size + 1, 2, none⟩ = some (.int .i64 x.n) ∧ W.cell? ⟨w.heap.size + 1, 3, none⟩ = some (.int .i64 x.f) ∧ W.cell? ⟨w.heap.size + 1, 4, none⟩ = some (.int .i64 x.o) ∧ W.cell? ⟨w.heap.size + 1, 5, none⟩ = some (.int .i64 x.d) ∧ W.cell? ⟨w.heap.size + 1, 6, none⟩ = some (.int .i64 x.p) ∧ W.cell? ⟨w.heap.size + 1, 7, none⟩ = some (.int .i64 x.c) ∧ W.cell? ⟨w.heap.size + 1, 8, none⟩ = some (.int .i64 x.i) ∧ W.cell? ⟨w.heap.size + 1, 9, none⟩ = some (.int .i64 x.a) ∧ W.cell? ⟨w.heap.size + 1, 10, none⟩ = some (.bool x.ab) ∧ W.cell? ⟨w.heap.size + 1, 11, none⟩ = some (.string x.nm) ∧ W.cell? ⟨w.heap.size + 1, 12, none⟩ = some (.slice A' m d))
    (first | with_reducible exact ⟨c0, c1, c2, c3, c4, c5, c6, c7, c8, c9, c10, c11, c12, d0, d1, d2, d3, d4, d5, d6, d7, d8, d9, d10, d11, d12⟩ | exact ⟨c0, c1, c2, c3, c4, c5, c6, c7, c8, c9, c10, c11, c12, d0, d1, d2, d3, d4, d5, d6, d7, d8, d9, d10, d11, d12⟩)
    (first
      | (have _t := tok1; clear tok1; go_at_call 25; refine Calls.mono (numbers_any x (.slice A n c) _) ?_; rintro e w3 ⟨rfl, b3⟩; have b3 := KK.out _ b3; obtain ⟨c0, c1, c2, c3, c4, c5, c6, c7, c8, c9, c10, c11, c12⟩ := (m1.keep (b3.block _ hl1)).cells; obtain ⟨d0, d1, d2, d3, d4, d5, d6, d7, d8, d9, d10, d11, d12⟩ := (m2.keep (b3.block _ hl2)).cells; have tok2 : True := trivial)
      | (have _t := tok2; clear tok2; go_at_call 25; refine Calls.mono (numbers_any x (.slice A' m d) _) ?_; rintro e w4 ⟨rfl, b4⟩; have b4 := KB.out _ _ b3 b4; obtain ⟨c0, c1, c2, c3, c4, c5, c6, c7, c8, c9, c10, c11, c12⟩ := (m1.keep (b4.block _ hl1)).cells; obtain ⟨d0, d1, d2, d3, d4, d5, d6, d7, d8, d9, d10, d11, d12⟩ := (m2.keep (b4.block _ hl2)).cells; have tok3 : True := trivial)
      | (have _t := tok3; clear tok3; go_at_call 26; have hsz4 := b4.size; refine Calls.mono (EqualLn_any c d (KR.out _ b4).1 (KR.out _ b4).2 hm hm' (Nat.le_trans hBw hsz4) (Nat.le_trans hBw' hsz4)) ?_; rintro e w5 ⟨rfl, b5⟩; have b5 := KB.out _ _ b4 b5; obtain ⟨c0, c1, c2, c3, c4, c5, c6, c7, c8, c9, c10, c11, c12⟩ := (m1.keep (b5.block _ hl1)).cells; obtain ⟨d0, d1, d2, d3, d4, d5, d6, d7, d8, d9, d10, d11, d12⟩ := (m2.keep (b5.block _ hl2)).cells))
  go_wp2_with fail
  go_ret
  exact ⟨by simp, hb2.trans (b5.mono hb2.size)⟩
end Go.Proofs.Ytombdkebjbhacaa
