/-
  The check of the law of enc: it returns true. No condition.
-/
import Derived.Test.YtiknkbpojmgbhaaGreatEncM
import Derived.Test.YtiknkbpojmgbhaaGreatLawP32
import Derived.Test.YtiknkbpojmgbhaaGreatEncF
namespace Go.Proofs.YtiknkbpojmgbhaaGreat
open Go.RowKit Go.Maps
set_option maxRecDepth 100000
set_option linter.unusedVariables false

abbrev awN32 : Nd := ⟨0, 1, 0, 0, 0, true, 9, 0, 0, 0, 0, 0⟩
abbrev awL32 : Ln := ⟨0, 0, 1, 9⟩
abbrev awM32 : Ln := ⟨0, 0, 0, 4⟩
theorem awN32_ok : ZbR awN32 := by intro v hv; simp only [List.mem_cons, List.not_mem_nil, or_false] at hv; rcases hv with rfl | rfl | rfl | rfl | rfl | rfl | rfl | rfl | rfl | rfl | rfl <;> omega
theorem awL32_ok : Za7 awL32 := ⟨⟨by decide, by decide⟩, ⟨by decide, by decide⟩, ⟨by decide, by decide⟩, ⟨by decide, by decide⟩⟩
theorem awM32_ok : Za7 awM32 := ⟨⟨by decide, by decide⟩, ⟨by decide, by decide⟩, ⟨by decide, by decide⟩, ⟨by decide, by decide⟩⟩
theorem aw32_pre : (preNew (Zau [awN32]) 2020 [awL32]).1 = (1, false, 0) := by decide +kernel
theorem aw32_len : (Zau [awN32]).C.length ≤ 100000 := by decide +kernel
theorem aw32_len2 : (preNew (Zau [awN32]) 2020 [awL32]).2.C.length ≤ 90000 := by decide +kernel
theorem aw32_new : (encNew (preNew (Zau [awN32]) 2020 [awL32]).2 2020 1 [awM32]).1 = (2, false, 0) := by decide +kernel
theorem aw32_node : (nodeAt (encNew (preNew (Zau [awN32]) 2020 [awL32]).2 2020 1 [awM32]).2 2020 1).map (fun n => (n.pr, n.en)) = some (5, 4) := by decide +kernel
/-- A line in a block of its own. -/
theorem line_lit32 {w : World} {W : World} {c : Nat} {x : Ln} {T : TypeId} (hx : Za7 x) (hc : c ≠ w.heap.size) (h : Za (fun k => k = c) (w.alloc (.cells #[.int .i64 x.f, .int .i64 x.o, .int .i64 x.n, .int .i64 x.a] T)) W) : RL W W.heap.size (some ⟨w.heap.size, 0, none⟩) 1 [x] := by
  have hb : W.heap[w.heap.size]? = some (.cells #[.int .i64 x.f, .int .i64 x.o, .int .i64 x.n, .int .i64 x.a] T (0, 0)) := (h.block w.heap.size (by simp) (fun e => hc e.symm)).trans (heap_alloc_new w _)
  refine ⟨rfl, fun y hy => by obtain rfl := List.mem_singleton.1 hy; exact hx, fun _ => ⟨w.heap.size, 0, rfl, (Array.getElem?_eq_some_iff.1 hb).1, fun j y hy => ?_⟩⟩
  obtain ⟨hj, hy'⟩ := List.getElem?_eq_some_iff.1 hy
  have : j = 0 := by simp at hj; omega
  subst this
  cases hy
  exact ⟨cell_of_row W _ 0 _ _ (0, 0) hb, cell_of_row W _ 1 _ _ (0, 0) hb, cell_of_row W _ 2 _ _ (0, 0) hb, cell_of_row W _ 3 _ _ (0, 0) hb⟩
set_option maxHeartbeats 6400000 in
theorem awake32_any (w : World) : Calls Tryz.prog 8 #[] w fun e w' => e = .returned (.bool true) ∧ Below w.heap.size w w' := by
  obtain ⟨w1, hw1⟩ : ∃ w1, w1 = w.alloc (.cells #[.int .i64 0, .int .i64 1, .int .i64 0, .int .i64 0, .int .i64 0, .bool true, .int .i64 9, .int .i64 0, .int .i64 0, .int .i64 0, .int .i64 0, .int .i64 0] 40 (0, 0)) := ⟨_, rfl⟩
  have hb1 : Below w.heap.size w w1 := by rw [hw1]; exact (Below.refl _ _).alloc (Nat.le_refl _) _
  have hk1 : w1.heap[w.heap.size]? = some (.cells #[.int .i64 0, .int .i64 1, .int .i64 0, .int .i64 0, .int .i64 0, .bool true, .int .i64 9, .int .i64 0, .int .i64 0, .int .i64 0, .int .i64 0, .int .i64 0] 40 (0, 0)) := by rw [hw1]; exact heap_alloc_new w _
  have HBG := Lib.hid (begun32_any (cap := 1) (l := [awN32]) (Enc.R.one (E := NdE) (x := awN32) hk1 awN32_ok) (by omega))
  have HB1 := Lib.hid hb1
  clear hb1 hk1
  go_enter Tryz.func8, Tryz.ntmps8
  go_wp2_with fail
  rw [← hw1]
  clear hw1
  refine HBG.out.mono ?_
  rintro u w2 ⟨v, m, c, x, rfl, h2⟩
  have hb2 : Below w.heap.size w w2 := HB1.out.trans (h2.was.mono HB1.out.size)
  obtain ⟨X, hX⟩ := h2.view_
  have hcw := hX.lt c hX.xc
  obtain ⟨w3, hw3⟩ : ∃ w3, w3 = w2.alloc (.cells #[.int .i64 0, .int .i64 0, .int .i64 1, .int .i64 9] 34 (0, 0)) := ⟨_, rfl⟩
  have hb3 : Below w2.heap.size w2 w3 := by rw [hw3]; exact (Below.refl _ _).alloc (Nat.le_refl _) _
  have hcB : w.heap.size ≤ c := by
    obtain ⟨X', p, q, r, a, z1, z2, z3, z4, z5, z6, z7, z8, z9⟩ := h2
    exact Nat.le_trans HB1.out.size (z7 c z1.xc).1
  have HP := Lib.hid (preNew_any (cap := 1) (hX.below hb3) (y := 2020) (by unfold ZS; omega) (l := [awL32]) (fun W hW => line_lit32 (w := w2) (x := awL32) awL32_ok (Nat.ne_of_lt hcw) (by rw [hw3] at hW; exact hW)) (Nat.le_refl 1) (by unfold maxLen; omega) aw32_len)
  rw [aw32_pre] at HP
  have HB3 := Lib.hid (And.intro (hb2.trans (hb3.mono hb2.size)) (And.intro hcB hcw))
  clear h2 hX hb2 hb3 hcB hcw HBG HB1
  go_wp2_with fail
  rw [← hw3]
  clear hw3
  refine HP.out.mono ?_
  rintro u w4 ⟨rfl, h4, t4⟩
  have hb4 : Below w.heap.size w w4 := HB3.out.1.trans (t4.below (fun k hk => by rw [hk]; exact HB3.out.2.1) HB3.out.1.size)
  have hcw4 := h4.lt c h4.xc
  obtain ⟨w5, hw5⟩ : ∃ w5, w5 = w4.alloc (.cells #[.int .i64 0, .int .i64 0, .int .i64 0, .int .i64 4] 34 (0, 0)) := ⟨_, rfl⟩
  have hb5 : Below w4.heap.size w4 w5 := by rw [hw5]; exact (Below.refl _ _).alloc (Nat.le_refl _) _
  have HN := Lib.hid (ZlJ (cap := 1) (h4.below hb5) (y := 2020) (f := 1) (by unfold ZS; omega) (by unfold ZS; omega) (l := [awM32]) (fun W hW => line_lit32 (w := w4) (x := awM32) awM32_ok (Nat.ne_of_lt hcw4) (by rw [hw5] at hW; exact hW)) (Nat.le_refl 1) (by unfold maxLen; omega) aw32_len2)
  rw [aw32_new] at HN
  have HB5 := Lib.hid (And.intro (hb4.trans (hb5.mono hb4.size)) HB3.out.2.1)
  clear h4 t4 hb4 hcw4 hb5 HP HB3
  go_wp2_with fail
  rw [← hw5]
  clear hw5
  refine HN.out.mono ?_
  rintro u w6 ⟨rfl, h6, t6⟩
  have HG := Lib.hid (ZfE h6 2020 1 (by unfold ZS; omega) (by unfold ZS; omega))
  have hn := aw32_node
  generalize nodeAt (encNew (preNew (Zau [awN32]) 2020 [awL32]).2 2020 1 [awM32]).2 2020 1 = o at HG hn
  obtain ⟨z, rfl, hz⟩ := Option.map_eq_some_iff.1 hn
  have HB6 := Lib.hid (show Below w.heap.size w w6 from HB5.out.1.trans (t6.below (fun k hk => by rw [hk]; exact HB5.out.2) HB5.out.1.size))
  have HZ := Lib.hid hz
  clear h6 t6 hn hz HN HB5
  simp only [ndW, ndO, Option.getD_some] at HG
  go_wp2_with fail
  refine HG.out.mono ?_
  rintro u w7 ⟨rfl, _, h7⟩
  have hz := HZ.out
  obtain ⟨zy, zi, zp, zf, zo, zab, zli, zpr, zen, zex, zla, zca⟩ := z
  simp only [Prod.mk.injEq] at hz ⊢
  obtain ⟨hz1, hz2⟩ := hz
  subst hz1 hz2
  obtain ⟨w8, hw8⟩ : ∃ w8, w8 = w7.alloc (.cells #[.int .i64 zy, .int .i64 zi, .int .i64 zp, .int .i64 zf, .int .i64 zo, .bool zab, .int .i64 zli, .int .i64 5, .int .i64 4, .int .i64 zex, .int .i64 zla, .int .i64 zca] 40 (0, 0)) := ⟨_, rfl⟩
  have hb8 : Below w7.heap.size w7 w8 := by rw [hw8]; exact (Below.refl _ _).alloc (Nat.le_refl _) _
  have h67 := HB6.out.trans (h7.mono HB6.out.size)
  have HE := Lib.hid (h67.trans (hb8.mono h67.size))
  clear h7 hb8 h67 HG HZ HB6
  go_wp2_with fail
  rw [← hw8]
  go_ret
  exact ⟨rfl, HE.out⟩
end Go.Proofs.YtiknkbpojmgbhaaGreat
