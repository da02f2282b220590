/-
  Contract of the law's own check: a command is read from its bytes. No condition.
-/
import Derived.Test.YtombdkebjbhacaaCmdU
namespace Go.Proofs.Ytombdkebjbhacaa
open Go.RowKit Go.Maps
set_option maxRecDepth 100000
set_option linter.unusedVariables false

def lx0 : Ln := ⟨100, 5010, 0, -3⟩
def cx0 : Cm := ⟨7, 2020, 0, 0, 0, 0, 0, 0, 0, 0, false, ⟨#[]⟩, [lx0]⟩
theorem lx0_ok : LnOk lx0 := by
  show B64 100 ∧ B64 5010 ∧ B64 0 ∧ B64 (-3)
  unfold B64; omega
theorem cx0_ok : CmOk cx0 := by
  refine ⟨?_, ?_, b64_0, b64_0, b64_0, b64_0, b64_0, b64_0, b64_0, b64_0, fun l hl => ?_⟩
  · show B64 7; unfold B64; omega
  · show B64 2020; unfold B64; omega
  · rw [List.mem_singleton.1 hl]; exact lx0_ok
theorem cx0_may : mayC cx0 = true := by decide
theorem cx0_len : (encL cx0).length = 43 := by decide
theorem dec_nil : decP [] = (cm0, 14) := by
  unfold decP
  rw [if_neg (fun h => by
    have : mayC (readP []) = false := by decide
    rw [this] at h
    exact absurd h.1 (by decide))]
theorem enc_x0 (w : World) : Calls Try.prog 8 #[.agg #[.int .i64 7, .int .i64 2020, .int .i64 0, .int .i64 0, .int .i64 0, .int .i64 0, .int .i64 0, .int .i64 0, .int .i64 0, .int .i64 0, .bool false, .string ⟨#[]⟩, .slice (some ⟨w.heap.size, 0, none⟩) 1 1]] (w.alloc (.cells #[.int .i64 100, .int .i64 5010, .int .i64 0, .int .i64 (-3)] 42)) fun e w' => ∃ A c, e = .returned (.tuple #[.slice A 43 c, .int .i64 0]) ∧ 43 ≤ c ∧ RB w' w'.heap.size A 43 (encL cx0) ∧ Below w.heap.size w w' := by
  have hb : Below w.heap.size w (w.alloc (.cells #[.int .i64 100, .int .i64 5010, .int .i64 0, .int .i64 (-3)] 42)) := (Below.refl _ _).alloc (Nat.le_refl _) _
  have hn := heap_alloc_new w (.cells #[.int .i64 100, .int .i64 5010, .int .i64 0, .int .i64 (-3)] 42)
  have hs : (w.alloc (.cells #[.int .i64 100, .int .i64 5010, .int .i64 0, .int .i64 (-3)] 42)).heap.size = w.heap.size + 1 := by simp
  have hr : RL (w.alloc (.cells #[.int .i64 100, .int .i64 5010, .int .i64 0, .int .i64 (-3)] 42)) (w.heap.size + 1) (some ⟨w.heap.size, 0, none⟩) 1 cx0.ls := by
    refine ⟨rfl, fun l hl => cx0_ok.2.2.2.2.2.2.2.2.2.2 l hl, fun _ => ⟨w.heap.size, 0, rfl, Nat.lt_succ_self _, fun j y hy => ?_⟩⟩
    have hj : j = 0 := by
      have := (List.getElem?_eq_some_iff.1 hy).1
      have : j < 1 := this
      omega
    subst hj
    obtain rfl : lx0 = y := by simpa [cx0] using hy
    exact ⟨cell_of_row _ _ 0 _ _ (0, 0) hn, cell_of_row _ _ 1 _ _ (0, 0) hn, cell_of_row _ _ 2 _ _ (0, 0) hn, cell_of_row _ _ 3 _ _ (0, 0) hn⟩
  refine (encode_any cx0 cx0_ok (some ⟨w.heap.size, 0, none⟩) 1 1 (w.heap.size + 1) _ hr (by omega) (Nat.le_refl _) (by decide) (by decide)).mono ?_
  rintro e w' ⟨b2, v, rfl, ho⟩
  rw [if_pos cx0_may, cx0_len] at ho
  rw [if_pos cx0_may]
  obtain ⟨A, c, rfl, hc, hrb⟩ := read_own ho (encL_bytes cx0)
  exact ⟨A, c, rfl, hc, hrb, hb.trans (b2.mono (by omega))⟩
theorem dec_x0 (W : World) (A : Option Addr) (c B : Nat) (hc : 43 ≤ c) (hr : RB W B A 43 (encL cx0)) (hB : B ≤ W.heap.size) : Calls Try.prog 17 #[.slice A 43 c] W fun e w' => ∃ g o d, e = .returned (.tuple #[.agg #[.int .i64 7, .int .i64 2020, .int .i64 0, .int .i64 0, .int .i64 0, .int .i64 0, .int .i64 0, .int .i64 0, .int .i64 0, .int .i64 0, .bool false, .string ⟨#[]⟩, .slice (some ⟨g, o, none⟩) 1 d], .int .i64 0]) ∧ g < w'.heap.size ∧ w'.cell? ⟨g, o + 3, none⟩ = some (.int .i64 (-3)) ∧ Below W.heap.size W w' := by
  refine (decode_any hr hB hc (by decide)).mono ?_
  rintro e w' ⟨b2, u, rfl, ho⟩
  rw [dec_enc cx0 cx0_ok cx0_may] at ho ⊢
  obtain ⟨A2, d, rfl, hd⟩ := ho.shape
  have hrl := (ho.read (fun l hl => cx0_ok.2.2.2.2.2.2.2.2.2.2 l hl)).2.2
  obtain ⟨g, o, rfl, hg, hcell⟩ := hrl.2.2 (by decide)
  have h3 := (hcell 0 lx0 rfl).2.2.2
  rw [show o + 0 * 4 + 3 = o + 3 by omega] at h3
  exact ⟨g, o, d, rfl, hg, h3, b2⟩
theorem dec_n0 (W : World) : Calls Try.prog 17 #[.slice none 0 0] W fun e w' => ∃ A d, e = .returned (.tuple #[.agg #[.int .i64 0, .int .i64 0, .int .i64 0, .int .i64 0, .int .i64 0, .int .i64 0, .int .i64 0, .int .i64 0, .int .i64 0, .int .i64 0, .bool false, .string ⟨#[]⟩, .slice A 0 d], .int .i64 14]) ∧ Below W.heap.size W w' := by
  refine (decode_any (w := W) (A := none) (n := 0) (c := 0) (B := 0) (b := []) RB.nil_ (Nat.zero_le _) (Nat.le_refl _) (by decide)).mono ?_
  rintro e w' ⟨b2, u, rfl, ho⟩
  rw [dec_nil] at ho ⊢
  obtain ⟨A2, d, rfl, hd⟩ := ho.shape
  exact ⟨A2, d, rfl, b2⟩
set_option maxHeartbeats 1600000 in
theorem awake36_any (w : World) : Calls Try.prog 7 #[] w fun e w' => e = .returned (.bool true) ∧ Below w.heap.size w w' := by
  have HE := Lib.hid (enc_x0 w)
  go_enter Try.func7, Try.ntmps7
  go_wp2_with fail
  refine HE.out.mono ?_
  rintro e w1 ⟨A, c, rfl, hc, hr, b1⟩
  have HD := Lib.hid (dec_x0 w1 A c _ hc hr (Nat.le_refl _))
  clear HE hr
  go_wp2_with fail
  refine HD.out.mono ?_
  rintro e w2 ⟨g, o, d, rfl, hg, h3, b2⟩
  obtain ⟨w3, hw3⟩ : ∃ w3, w3 = w2.alloc (.cells #[.int .i64 7, .int .i64 2020, .int .i64 0, .int .i64 0, .int .i64 0, .int .i64 0, .int .i64 0, .int .i64 0, .int .i64 0, .int .i64 0, .bool false, .string ⟨#[]⟩, .slice (some ⟨g, o, none⟩) 1 d] 24) := ⟨_, rfl⟩
  have b3 : Below w2.heap.size w2 w3 := by rw [hw3]; exact (Below.refl _ _).alloc (Nat.le_refl _) _
  have m3 : w3.heap[w2.heap.size]? = some (.cells #[.int .i64 7, .int .i64 2020, .int .i64 0, .int .i64 0, .int .i64 0, .int .i64 0, .int .i64 0, .int .i64 0, .int .i64 0, .int .i64 0, .bool false, .string ⟨#[]⟩, .slice (some ⟨g, o, none⟩) 1 d] 24 (0, 0)) := by rw [hw3]; exact heap_alloc_new w2 _
  have s3 := (Array.getElem?_eq_some_iff.1 m3).1
  have HN := Lib.hid (dec_n0 w3)
  have BB := Lib.hid (b1.trans (b2.mono b1.size))
  clear HD b1 b2
  go_wp2_with fail
  rw [← hw3]
  clear hw3
  refine HN.out.mono ?_
  rintro e w4 ⟨A4, d4, rfl, b4⟩
  obtain ⟨w5, hw5⟩ : ∃ w5, w5 = w4.alloc (.cells #[.int .i64 0, .int .i64 0, .int .i64 0, .int .i64 0, .int .i64 0, .int .i64 0, .int .i64 0, .int .i64 0, .int .i64 0, .int .i64 0, .bool false, .string ⟨#[]⟩, .slice A4 0 d4] 24) := ⟨_, rfl⟩
  have b5 : Below w4.heap.size w4 w5 := by rw [hw5]; exact (Below.refl _ _).alloc (Nat.le_refl _) _
  have b35 := b4.trans (b5.mono b4.size)
  have m5 := (b35.block _ s3).trans m3
  have c12 := cell_of_row w5 w2.heap.size 12 _ _ (0, 0) m5
  have h35 := (b35.cell (p := ⟨g, o + 3, none⟩) (by show g < w3.heap.size; have := b3.size; omega)).trans ((b3.cell (p := ⟨g, o + 3, none⟩) hg).trans h3)
  have B5 := Lib.hid (BB.out.trans ((b3.trans (b35.mono b3.size)).mono BB.out.size))
  have K1 := Lib.hid (asks_any 16)
  have K2 := Lib.hid (known_any 1)
  simp only [List.getElem?_toArray, List.getElem?_cons_zero, List.getElem?_cons_succ] at c12
  clear b3 m3 s3 HN BB b4 b5 b35 m5 h3
  rw [hw5] at c12 h35 B5
  clear hw5
  go_wp2_with (first
    | (go_at_call 13; refine (K1.out _).mono ?_; rintro e w' ⟨rfl, rfl⟩)
    | (go_at_call 11; refine (K2.out _).mono ?_; rintro e w' ⟨rfl, rfl⟩))
  go_ret
  exact ⟨rfl, B5.out⟩
end Go.Proofs.Ytombdkebjbhacaa
