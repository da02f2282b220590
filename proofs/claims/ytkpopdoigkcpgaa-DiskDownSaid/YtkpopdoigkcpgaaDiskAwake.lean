/-
  The statement package's own check over a disk, over any disk that answers as it is to: it answers true; what was there stays. No condition.
-/
import Derived.Test.YtkpopdoigkcpgaaDiskLaw
namespace Go.Proofs.Ytkpopdoigkcpgaa
open Go.RowKit
set_option linter.unusedVariables false

/-- One number in a new block. -/
theorem RI.one (w : World) {u : Int} (e : TypeId) (h : -9223372036854775808 ≤ u ∧ u ≤ 9223372036854775807) : RI (w.alloc (.cells #[.int .i64 u] e)) (w.heap.size + 1) (some ⟨w.heap.size, 0, none⟩) 1 [u] := by
  refine ⟨rfl, fun x hx => ?_, fun _ => ⟨w.heap.size, 0, rfl, Nat.lt_succ_self _, fun j hj => ?_⟩⟩
  · obtain rfl : x = u := by simpa using hx
    exact h
  · obtain rfl : j = 0 := by omega
    rw [cell_of_row (w.alloc (.cells #[.int .i64 u] e)) w.heap.size 0 #[.int .i64 u] e (0, 0) (heap_alloc_new w _)]
    rfl

set_option maxHeartbeats 3200000 in
theorem diskAwake_any {D : World → (Nat → Prop) → Addr → DS → Prop} (api : DiskApi D) (w : World) : Calls Try.prog 7 #[] w fun e w' => e = .returned (.bool true) ∧ Below w.heap.size w w' := by
  have s1 := DS.write_at (S := DS.new 4) rfl (i := 1) (by decide) (reps_length 256 7) rfl
  have s3 := DS.write_at (S := chk2) rfl (i := 1) (by decide) (reps_length 256 8) rfl
  have s4 := DS.write_at (S := chk3) rfl (i := 2) (by decide) (reps_length 256 9) rfl
  obtain ⟨E1, L1, E2, L2, N⟩ := chk_end
  have HS1 := Lib.hid s1
  have HS3 := Lib.hid s3
  have HS4 := Lib.hid s4
  have HE1 := Lib.hid E1
  have HL1 := Lib.hid L1
  have HE2 := Lib.hid E2
  have HL2 := Lib.hid L2
  have HN := Lib.hid N
  clear s1 s3 s4 E1 L1 E2 L2 N
  go_enter Try.func7, Try.ntmps7
  go_wp2_with fail
  refine (law_new api (w0 := w) (by decide) (by decide) (Below.refl _ _)).mono ?_
  rintro e w1 ⟨p, F1, rfl, h1⟩
  go_wp2_with fail
  refine (law_sector api h1 (by decide)).mono ?_
  rintro e w2 ⟨g1, rfl, hg1, hr1, h2, _⟩
  go_wp2_with fail
  refine (law_write api h2 1 hr1 (by decide) (by decide) (by decide) hg1).mono ?_
  rw [show (DS.new (Int.toNat 4)) = DS.new 4 from rfl, HS1.out.1, HS1.out.2]
  rintro e w3 ⟨rfl, F3, h3, _⟩
  go_wp2_with fail
  refine (law_flush api h3).mono ?_
  rw [show ((DS.new 4).put (Int.toNat 1) (reps 256 7)).flushE = 0 from rfl, show ((DS.new 4).put (Int.toNat 1) (reps 256 7)).flush = chk2 from rfl]
  rintro e w4 ⟨rfl, F4, h4, _⟩
  clear h1 h2 h3 hr1
  go_wp2_with fail
  refine (law_sector api h4 (by decide)).mono ?_
  rintro e w5 ⟨g5, rfl, hg5, hr5, h5, _⟩
  go_wp2_with fail
  refine (law_write api h5 1 hr5 (by decide) (by decide) (by decide) hg5).mono ?_
  rw [HS3.out.1, HS3.out.2]
  rintro e w6 ⟨rfl, F6, h6, _⟩
  clear h4 h5 hr5
  go_wp2_with fail
  refine (law_sector api h6 (by decide)).mono ?_
  rintro e w7 ⟨g7, rfl, hg7, hr7, h7, _⟩
  go_wp2_with fail
  refine (law_write api h7 2 hr7 (by decide) (by decide) (by decide) hg7).mono ?_
  rw [show chk2.put (Int.toNat 1) (reps 256 8) = chk3 from rfl, HS4.out.1, HS4.out.2]
  rintro e w8 ⟨rfl, F8, h8, _⟩
  clear h6 h7 hr7
  go_wp2_with fail
  have h9 : LawSt D w (w8.alloc (.cells #[.int .i64 1] 3)) F8 p chk4 := LawSt.later api h8 ((Below.refl _ _).alloc (Nat.le_refl _) _)
  have hlt8 := h8.lt api
  refine (law_crash api h9 (RI.one w8 3 (by decide)) (by decide) (by decide) (fun _ a ha hf => by cases ha; have := hlt8 _ hf; simp at this)).mono ?_
  rintro e w10 ⟨rfl, F10, h10, _⟩
  clear h8 h9
  go_wp2_with fail
  refine (law_read api h10 1).mono ?_
  rw [HE1.out, HL1.out]
  rintro e w11 ⟨A11, n11, c11, rfl, hc11, hr11, h11, _⟩
  go_wp2_with fail
  refine (law_read api h11 2).mono ?_
  rw [HE2.out, HL2.out]
  rintro e w12 ⟨A12, n12, c12, rfl, hc12, hr12, h12, hb12⟩
  have hr11' := hr11.below hb12
  obtain rfl : n11 = 256 := hr11.len.symm.trans (reps_length 256 7)
  obtain rfl : n12 = 256 := hr12.len.symm.trans (reps_length 256 9)
  obtain ⟨b1, o1, rfl, _, k1⟩ := hr11'.at_ (by decide)
  obtain ⟨b2, o2, rfl, _, k2⟩ := hr12.at_ (by decide)
  have q1 := k1 0 (by decide)
  have q2 := k2 0 (by decide)
  rw [Nat.add_zero, reps_getD (by decide)] at q1 q2
  clear k1 k2 hr11 hr11' hr12 hb12 h10 h11
  go_wp2_with fail
  refine (law_size api h12).mono ?_
  rw [HN.out]
  rintro e w13 ⟨rfl, h13⟩
  go_wp2
  go_ret
  exact ⟨rfl, h13.below⟩

end Go.Proofs.Ytkpopdoigkcpgaa
