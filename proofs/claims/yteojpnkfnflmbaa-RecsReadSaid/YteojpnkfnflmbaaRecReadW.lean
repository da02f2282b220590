/-
  RecsRead by the walk: it returns true. Condition: the pair came in as the statement opens it.
-/
import Derived.Test.YteojpnkfnflmbaaRecH
import Derived.Test.YteojpnkfnflmbaaRecI
namespace Go.Proofs.Yteojpnkfnflmbaa
open Go.RowKit
set_option maxRecDepth 100000
set_option linter.unusedVariables false

/-- A box that was made stands. -/
theorem box_stands {w W : World} {o : Obj} (h : Below (w.alloc o).heap.size (w.alloc o) W) : W.heap[w.heap.size]? = some o :=
  (h.block _ (by simp)).trans (box_last w o rfl)

theorem nodeV_is (r : Option (List Int × List Int)) : ∃ a0 a1 a2 a3 a4 a5 a6 a7 a8 a9 a10 a11, nodeV r = .agg #[.int .i64 a0, .int .i64 a1, .int .i64 a2, .int .i64 a3, .int .i64 a4, .bool a5, .int .i64 a6, .int .i64 a7, .int .i64 a8, .int .i64 a9, .int .i64 a10, .int .i64 a11] := by
  cases r with
  | none => exact ⟨_, _, _, _, _, _, _, _, _, _, _, _, rfl⟩
  | some q => exact ⟨_, _, _, _, _, _, _, _, _, _, _, _, rfl⟩
theorem docV_is (r : Option (List Int × List Int)) : ∃ b0 b1 b2 b3 b4, docV r = .agg #[.int .i64 b0, .int .i64 b1, .int .i64 b2, .int .i64 b3, .int .i64 b4] := by
  cases r with
  | none => exact ⟨_, _, _, _, _, rfl⟩
  | some q => exact ⟨_, _, _, _, _, rfl⟩
theorem docLineV_is (r : Option (List Int × List Int)) : ∃ c0 c1 c2 c3, docLineV r = .agg #[.int .i64 c0, .int .i64 c1, .int .i64 c2, .int .i64 c3] := by
  cases r with
  | none => exact ⟨_, _, _, _, rfl⟩
  | some q => exact ⟨_, _, _, _, rfl⟩
theorem entryV_is (r : Option (List Int × List Int)) : ∃ f0 f1 f2 f3 f4 f5, entryV r = .agg #[.int .i64 f0, .int .i64 f1, .int .i64 f2, .int .i64 f3, .int .i64 f4, .int .i64 f5] := by
  cases r with
  | none => exact ⟨_, _, _, _, _, _, rfl⟩
  | some q => exact ⟨_, _, _, _, _, _, rfl⟩
theorem lineV_is (r : Option (List Int × List Int)) : ∃ x0 x1 x2 x3, lineV r = .agg #[.int .i64 x0, .int .i64 x1, .int .i64 x2, .int .i64 x3] := by
  cases r with
  | none => exact ⟨_, _, _, _, rfl⟩
  | some q => exact ⟨_, _, _, _, rfl⟩

set_option maxHeartbeats 12800000 in
theorem recsRead_any (ka : Option Addr) (kn kc : Nat) (va : Option Addr) (vn vc : Nat) (w : World) (p : KV) (hin : PairIn w ka kn kc va vn vc p) :
    Calls Try.prog 4 #[.agg #[.slice ka kn kc, .slice va vn vc]] w fun e w' => e = .returned (.bool true) ∧ Below w.heap.size w w' := by
  obtain ⟨u0, hw1⟩ : ∃ w1, w1 = w.alloc (.cells #[.slice ka kn kc, .slice va vn vc] 36) := ⟨_, rfl⟩
  have hT : Below w.heap.size w u0 := by rw [hw1]; exact (Below.refl _ _).alloc (Nat.le_refl _) _
  have HC : Hid (∀ W, Below u0.heap.size u0 W → W.cell? ⟨w.heap.size, 0, none⟩ = some (.slice ka kn kc) ∧ W.cell? ⟨w.heap.size, 1, none⟩ = some (.slice va vn vc)) := Lib.hid fun W hW => by
    have h0 : W.heap[w.heap.size]? = some (.cells #[.slice ka kn kc, .slice va vn vc] 36 (0, 0)) := (hW.block _ (by rw [hw1]; simp)).trans (by rw [hw1]; exact box_last w _ rfl)
    exact ⟨box_cell0 h0, box_cell1 h0⟩
  obtain ⟨d0, d1⟩ := HC.out _ (Below.refl _ _)
  by_cases big : 100 < kn ∨ 300 < vn
  · have hT' := Lib.hid hT
    clear hT hin HC
    by_cases b1 : 100 < kn
    · have k1 : decide ((kn : Int) > 100) = true := decide_eq_true (by omega)
      go_enter Try.func4, Try.ntmps4
      go_wp2_with fail
      rw [← hw1]
      clear hw1
      go_wp2_with fail
      refine Calls.mono (recAwake_any _) ?_
      rintro e w1 ⟨rfl, hb⟩
      have HE := Lib.hid (hT'.out.trans (hb.mono hT'.out.size))
      clear hb d0 d1
      go_wp2
      go_ret
      exact ⟨rfl, HE.out⟩
    · have k1 : decide ((kn : Int) > 100) = false := decide_eq_false (by omega)
      have k2 : decide ((vn : Int) > 300) = true := decide_eq_true (by omega)
      go_enter Try.func4, Try.ntmps4
      go_wp2_with fail
      rw [← hw1]
      clear hw1
      go_wp2_with fail
      refine Calls.mono (recAwake_any _) ?_
      rintro e w1 ⟨rfl, hb⟩
      have HE := Lib.hid (hT'.out.trans (hb.mono hT'.out.size))
      clear hb d0 d1
      go_wp2
      go_ret
      exact ⟨rfl, HE.out⟩
  have k1 : decide ((kn : Int) > 100) = false := decide_eq_false (by omega)
  have k2 : decide ((vn : Int) > 300) = false := decide_eq_false (by omega)
  have recNode : Hid (∀ W, Below w.heap.size w W → Calls Try.prog 19 #[.agg #[.slice ka kn kc, .slice va vn vc]] W fun e w' => e = .returned (.tuple #[nodeV (numsR p 78 2 10), .bool (numsR p 78 2 10).isSome]) ∧ Below W.heap.size W w') := Lib.hid (fun W hb => recNodeOf_any ka kn kc va vn vc p w.heap.size W (hin.hk.below hb) (hin.hv.below hb) hb.size hin.hkc hin.hvc hin.hkm hin.hvm)
  have refNode : Hid (∀ W, Below w.heap.size w W → Calls Try.prog 20 #[.agg #[.slice ka kn kc, .slice va vn vc]] W fun e w' => e = .returned (.tuple #[nodeV (numsR p 78 2 10), .bool (numsR p 78 2 10).isSome]) ∧ Below W.heap.size W w') := Lib.hid (fun W hb => refNodeOf_any ka kn kc va vn vc p w.heap.size W (hin.hk.below hb) (hin.hv.below hb) hb.size hin.hkc hin.hvc hin.hkm hin.hvm)
  obtain ⟨a0, a1, a2, a3, a4, a5, a6, a7, a8, a9, a10, a11, hNode⟩ := nodeV_is (numsR p 78 2 10)
  rw [hNode] at recNode refNode
  clear hNode
  generalize (numsR p 78 2 10).isSome = okNode at recNode refNode
  have recDoc : Hid (∀ W, Below w.heap.size w W → Calls Try.prog 21 #[.agg #[.slice ka kn kc, .slice va vn vc]] W fun e w' => e = .returned (.tuple #[docV (numsR p 68 1 4), .bool (numsR p 68 1 4).isSome]) ∧ Below W.heap.size W w') := Lib.hid (fun W hb => recDocOf_any ka kn kc va vn vc p w.heap.size W (hin.hk.below hb) (hin.hv.below hb) hb.size hin.hkc hin.hvc hin.hkm hin.hvm)
  have refDoc : Hid (∀ W, Below w.heap.size w W → Calls Try.prog 22 #[.agg #[.slice ka kn kc, .slice va vn vc]] W fun e w' => e = .returned (.tuple #[docV (numsR p 68 1 4), .bool (numsR p 68 1 4).isSome]) ∧ Below W.heap.size W w') := Lib.hid (fun W hb => refDocOf_any ka kn kc va vn vc p w.heap.size W (hin.hk.below hb) (hin.hv.below hb) hb.size hin.hkc hin.hvc hin.hkm hin.hvm)
  obtain ⟨b0, b1, b2, b3, b4, hDoc⟩ := docV_is (numsR p 68 1 4)
  rw [hDoc] at recDoc refDoc
  clear hDoc
  generalize (numsR p 68 1 4).isSome = okDoc at recDoc refDoc
  have recDocLine : Hid (∀ W, Below w.heap.size w W → Calls Try.prog 23 #[.agg #[.slice ka kn kc, .slice va vn vc]] W fun e w' => e = .returned (.tuple #[docLineV (numsR p 76 2 4), .bool (numsR p 76 2 4).isSome]) ∧ Below W.heap.size W w') := Lib.hid (fun W hb => recDocLineOf_any ka kn kc va vn vc p w.heap.size W (hin.hk.below hb) (hin.hv.below hb) hb.size hin.hkc hin.hvc hin.hkm hin.hvm)
  have refDocLine : Hid (∀ W, Below w.heap.size w W → Calls Try.prog 24 #[.agg #[.slice ka kn kc, .slice va vn vc]] W fun e w' => e = .returned (.tuple #[docLineV (numsR p 76 2 4), .bool (numsR p 76 2 4).isSome]) ∧ Below W.heap.size W w') := Lib.hid (fun W hb => refDocLineOf_any ka kn kc va vn vc p w.heap.size W (hin.hk.below hb) (hin.hv.below hb) hb.size hin.hkc hin.hvc hin.hkm hin.hvm)
  obtain ⟨c0, c1, c2, c3, hDocLine⟩ := docLineV_is (numsR p 76 2 4)
  rw [hDocLine] at recDocLine refDocLine
  clear hDocLine
  generalize (numsR p 76 2 4).isSome = okDocLine at recDocLine refDocLine
  have recEntry : Hid (∀ W, Below w.heap.size w W → Calls Try.prog 25 #[.agg #[.slice ka kn kc, .slice va vn vc]] W fun e w' => e = .returned (.tuple #[entryV (numsR p 69 1 5), .bool (numsR p 69 1 5).isSome]) ∧ Below W.heap.size W w') := Lib.hid (fun W hb => recEntryOf_any ka kn kc va vn vc p w.heap.size W (hin.hk.below hb) (hin.hv.below hb) hb.size hin.hkc hin.hvc hin.hkm hin.hvm)
  have refEntry : Hid (∀ W, Below w.heap.size w W → Calls Try.prog 26 #[.agg #[.slice ka kn kc, .slice va vn vc]] W fun e w' => e = .returned (.tuple #[entryV (numsR p 69 1 5), .bool (numsR p 69 1 5).isSome]) ∧ Below W.heap.size W w') := Lib.hid (fun W hb => refEntryOf_any ka kn kc va vn vc p w.heap.size W (hin.hk.below hb) (hin.hv.below hb) hb.size hin.hkc hin.hvc hin.hkm hin.hvm)
  obtain ⟨f0, f1, f2, f3, f4, f5, hEntry⟩ := entryV_is (numsR p 69 1 5)
  rw [hEntry] at recEntry refEntry
  clear hEntry
  generalize (numsR p 69 1 5).isSome = okEntry at recEntry refEntry
  have recLine : Hid (∀ W, Below w.heap.size w W → Calls Try.prog 27 #[.agg #[.slice ka kn kc, .slice va vn vc]] W fun e w' => e = .returned (.tuple #[lineV (numsR p 74 2 3), .bool (numsR p 74 2 3).isSome]) ∧ Below W.heap.size W w') := Lib.hid (fun W hb => recLineOf_any ka kn kc va vn vc p w.heap.size W (hin.hk.below hb) (hin.hv.below hb) hb.size hin.hkc hin.hvc hin.hkm hin.hvm)
  have refLine : Hid (∀ W, Below w.heap.size w W → Calls Try.prog 28 #[.agg #[.slice ka kn kc, .slice va vn vc]] W fun e w' => e = .returned (.tuple #[lineV (numsR p 74 2 3), .bool (numsR p 74 2 3).isSome]) ∧ Below W.heap.size W w') := Lib.hid (fun W hb => refLineOf_any ka kn kc va vn vc p w.heap.size W (hin.hk.below hb) (hin.hv.below hb) hb.size hin.hkc hin.hvc hin.hkm hin.hvm)
  obtain ⟨x0, x1, x2, x3, hLine⟩ := lineV_is (numsR p 74 2 3)
  rw [hLine] at recLine refLine
  clear hLine
  generalize (numsR p 74 2 3).isSome = okLine at recLine refLine
  clear hin big
  have P0 := Lib.hid (Below.refl u0.heap.size u0)
  have HT := Lib.hid hT
  clear hT
  go_enter Try.func4, Try.ntmps4
  go_wp2_with fail
  rw [← hw1]
  clear hw1
  go_wp2_with fail
  refine Calls.mono (recNode.out _ HT.out) ?_
  rintro e v1 ⟨rfl, hb⟩
  have hs : Below u0.heap.size u0 (v1.alloc (.cells #[.int .i64 a0, .int .i64 a1, .int .i64 a2, .int .i64 a3, .int .i64 a4, .bool a5, .int .i64 a6, .int .i64 a7, .int .i64 a8, .int .i64 a9, .int .i64 a10, .int .i64 a11] 23)) := hb.alloc hb.size _
  have hT := HT.out.trans (hs.mono HT.out.size)
  have hP := P0.out.trans (hs.mono P0.out.size)
  clear d0 d1 HT hb
  obtain ⟨d0, d1⟩ := HC.out _ hP
  have HT := Lib.hid hT
  have P1 := Lib.hid hP
  have S1 := Lib.hid hs
  have B1 := Lib.hid (fun W (hW : Below (v1.alloc (.cells #[.int .i64 a0, .int .i64 a1, .int .i64 a2, .int .i64 a3, .int .i64 a4, .bool a5, .int .i64 a6, .int .i64 a7, .int .i64 a8, .int .i64 a9, .int .i64 a10, .int .i64 a11] 23)).heap.size (v1.alloc (.cells #[.int .i64 a0, .int .i64 a1, .int .i64 a2, .int .i64 a3, .int .i64 a4, .bool a5, .int .i64 a6, .int .i64 a7, .int .i64 a8, .int .i64 a9, .int .i64 a10, .int .i64 a11] 23)) W) => box_stands hW)
  clear hT hP hs
  go_wp2_with fail
  obtain ⟨u1, hu⟩ : ∃ u, u = v1.alloc (.cells #[.int .i64 a0, .int .i64 a1, .int .i64 a2, .int .i64 a3, .int .i64 a4, .bool a5, .int .i64 a6, .int .i64 a7, .int .i64 a8, .int .i64 a9, .int .i64 a10, .int .i64 a11] 23) := ⟨_, rfl⟩
  rw [← hu] at d0 d1 HT P1 S1 B1 ⊢
  clear hu
  refine Calls.mono (refNode.out _ HT.out) ?_
  rintro e v2 ⟨rfl, hb⟩
  have hs : Below u1.heap.size u1 (v2.alloc (.cells #[.int .i64 a0, .int .i64 a1, .int .i64 a2, .int .i64 a3, .int .i64 a4, .bool a5, .int .i64 a6, .int .i64 a7, .int .i64 a8, .int .i64 a9, .int .i64 a10, .int .i64 a11] 23)) := hb.alloc hb.size _
  have hT := HT.out.trans (hs.mono HT.out.size)
  have hP := P1.out.trans (hs.mono P1.out.size)
  clear d0 d1 HT hb
  obtain ⟨d0, d1⟩ := HC.out _ hP
  have HT := Lib.hid hT
  have P2 := Lib.hid hP
  have S2 := Lib.hid hs
  have B2 := Lib.hid (fun W (hW : Below (v2.alloc (.cells #[.int .i64 a0, .int .i64 a1, .int .i64 a2, .int .i64 a3, .int .i64 a4, .bool a5, .int .i64 a6, .int .i64 a7, .int .i64 a8, .int .i64 a9, .int .i64 a10, .int .i64 a11] 23)).heap.size (v2.alloc (.cells #[.int .i64 a0, .int .i64 a1, .int .i64 a2, .int .i64 a3, .int .i64 a4, .bool a5, .int .i64 a6, .int .i64 a7, .int .i64 a8, .int .i64 a9, .int .i64 a10, .int .i64 a11] 23)) W) => box_stands hW)
  clear hT hP hs
  go_wp2_with fail
  obtain ⟨u2, hu⟩ : ∃ u, u = v2.alloc (.cells #[.int .i64 a0, .int .i64 a1, .int .i64 a2, .int .i64 a3, .int .i64 a4, .bool a5, .int .i64 a6, .int .i64 a7, .int .i64 a8, .int .i64 a9, .int .i64 a10, .int .i64 a11] 23) := ⟨_, rfl⟩
  rw [← hu] at d0 d1 HT P2 S2 B2 ⊢
  clear hu
  refine Calls.mono (recDoc.out _ HT.out) ?_
  rintro e v3 ⟨rfl, hb⟩
  have hs : Below u2.heap.size u2 (v3.alloc (.cells #[.int .i64 b0, .int .i64 b1, .int .i64 b2, .int .i64 b3, .int .i64 b4] 25)) := hb.alloc hb.size _
  have hT := HT.out.trans (hs.mono HT.out.size)
  have hP := P2.out.trans (hs.mono P2.out.size)
  clear d0 d1 HT hb
  obtain ⟨d0, d1⟩ := HC.out _ hP
  have HT := Lib.hid hT
  have P3 := Lib.hid hP
  have S3 := Lib.hid hs
  have B3 := Lib.hid (fun W (hW : Below (v3.alloc (.cells #[.int .i64 b0, .int .i64 b1, .int .i64 b2, .int .i64 b3, .int .i64 b4] 25)).heap.size (v3.alloc (.cells #[.int .i64 b0, .int .i64 b1, .int .i64 b2, .int .i64 b3, .int .i64 b4] 25)) W) => box_stands hW)
  clear hT hP hs
  go_wp2_with fail
  obtain ⟨u3, hu⟩ : ∃ u, u = v3.alloc (.cells #[.int .i64 b0, .int .i64 b1, .int .i64 b2, .int .i64 b3, .int .i64 b4] 25) := ⟨_, rfl⟩
  rw [← hu] at d0 d1 HT P3 S3 B3 ⊢
  clear hu
  refine Calls.mono (refDoc.out _ HT.out) ?_
  rintro e v4 ⟨rfl, hb⟩
  have hs : Below u3.heap.size u3 (v4.alloc (.cells #[.int .i64 b0, .int .i64 b1, .int .i64 b2, .int .i64 b3, .int .i64 b4] 25)) := hb.alloc hb.size _
  have hT := HT.out.trans (hs.mono HT.out.size)
  have hP := P3.out.trans (hs.mono P3.out.size)
  clear d0 d1 HT hb
  obtain ⟨d0, d1⟩ := HC.out _ hP
  have HT := Lib.hid hT
  have P4 := Lib.hid hP
  have S4 := Lib.hid hs
  have B4 := Lib.hid (fun W (hW : Below (v4.alloc (.cells #[.int .i64 b0, .int .i64 b1, .int .i64 b2, .int .i64 b3, .int .i64 b4] 25)).heap.size (v4.alloc (.cells #[.int .i64 b0, .int .i64 b1, .int .i64 b2, .int .i64 b3, .int .i64 b4] 25)) W) => box_stands hW)
  clear hT hP hs
  go_wp2_with fail
  obtain ⟨u4, hu⟩ : ∃ u, u = v4.alloc (.cells #[.int .i64 b0, .int .i64 b1, .int .i64 b2, .int .i64 b3, .int .i64 b4] 25) := ⟨_, rfl⟩
  rw [← hu] at d0 d1 HT P4 S4 B4 ⊢
  clear hu
  refine Calls.mono (recDocLine.out _ HT.out) ?_
  rintro e v5 ⟨rfl, hb⟩
  have hs : Below u4.heap.size u4 (v5.alloc (.cells #[.int .i64 c0, .int .i64 c1, .int .i64 c2, .int .i64 c3] 27)) := hb.alloc hb.size _
  have hT := HT.out.trans (hs.mono HT.out.size)
  have hP := P4.out.trans (hs.mono P4.out.size)
  clear d0 d1 HT hb
  obtain ⟨d0, d1⟩ := HC.out _ hP
  have HT := Lib.hid hT
  have P5 := Lib.hid hP
  have S5 := Lib.hid hs
  have B5 := Lib.hid (fun W (hW : Below (v5.alloc (.cells #[.int .i64 c0, .int .i64 c1, .int .i64 c2, .int .i64 c3] 27)).heap.size (v5.alloc (.cells #[.int .i64 c0, .int .i64 c1, .int .i64 c2, .int .i64 c3] 27)) W) => box_stands hW)
  clear hT hP hs
  go_wp2_with fail
  obtain ⟨u5, hu⟩ : ∃ u, u = v5.alloc (.cells #[.int .i64 c0, .int .i64 c1, .int .i64 c2, .int .i64 c3] 27) := ⟨_, rfl⟩
  rw [← hu] at d0 d1 HT P5 S5 B5 ⊢
  clear hu
  refine Calls.mono (refDocLine.out _ HT.out) ?_
  rintro e v6 ⟨rfl, hb⟩
  have hs : Below u5.heap.size u5 (v6.alloc (.cells #[.int .i64 c0, .int .i64 c1, .int .i64 c2, .int .i64 c3] 27)) := hb.alloc hb.size _
  have hT := HT.out.trans (hs.mono HT.out.size)
  have hP := P5.out.trans (hs.mono P5.out.size)
  clear d0 d1 HT hb
  obtain ⟨d0, d1⟩ := HC.out _ hP
  have HT := Lib.hid hT
  have P6 := Lib.hid hP
  have S6 := Lib.hid hs
  have B6 := Lib.hid (fun W (hW : Below (v6.alloc (.cells #[.int .i64 c0, .int .i64 c1, .int .i64 c2, .int .i64 c3] 27)).heap.size (v6.alloc (.cells #[.int .i64 c0, .int .i64 c1, .int .i64 c2, .int .i64 c3] 27)) W) => box_stands hW)
  clear hT hP hs
  go_wp2_with fail
  obtain ⟨u6, hu⟩ : ∃ u, u = v6.alloc (.cells #[.int .i64 c0, .int .i64 c1, .int .i64 c2, .int .i64 c3] 27) := ⟨_, rfl⟩
  rw [← hu] at d0 d1 HT P6 S6 B6 ⊢
  clear hu
  refine Calls.mono (recEntry.out _ HT.out) ?_
  rintro e v7 ⟨rfl, hb⟩
  have hs : Below u6.heap.size u6 (v7.alloc (.cells #[.int .i64 f0, .int .i64 f1, .int .i64 f2, .int .i64 f3, .int .i64 f4, .int .i64 f5] 29)) := hb.alloc hb.size _
  have hT := HT.out.trans (hs.mono HT.out.size)
  have hP := P6.out.trans (hs.mono P6.out.size)
  clear d0 d1 HT hb
  obtain ⟨d0, d1⟩ := HC.out _ hP
  have HT := Lib.hid hT
  have P7 := Lib.hid hP
  have S7 := Lib.hid hs
  have B7 := Lib.hid (fun W (hW : Below (v7.alloc (.cells #[.int .i64 f0, .int .i64 f1, .int .i64 f2, .int .i64 f3, .int .i64 f4, .int .i64 f5] 29)).heap.size (v7.alloc (.cells #[.int .i64 f0, .int .i64 f1, .int .i64 f2, .int .i64 f3, .int .i64 f4, .int .i64 f5] 29)) W) => box_stands hW)
  clear hT hP hs
  go_wp2_with fail
  obtain ⟨u7, hu⟩ : ∃ u, u = v7.alloc (.cells #[.int .i64 f0, .int .i64 f1, .int .i64 f2, .int .i64 f3, .int .i64 f4, .int .i64 f5] 29) := ⟨_, rfl⟩
  rw [← hu] at d0 d1 HT P7 S7 B7 ⊢
  clear hu
  refine Calls.mono (refEntry.out _ HT.out) ?_
  rintro e v8 ⟨rfl, hb⟩
  have hs : Below u7.heap.size u7 (v8.alloc (.cells #[.int .i64 f0, .int .i64 f1, .int .i64 f2, .int .i64 f3, .int .i64 f4, .int .i64 f5] 29)) := hb.alloc hb.size _
  have hT := HT.out.trans (hs.mono HT.out.size)
  have hP := P7.out.trans (hs.mono P7.out.size)
  clear d0 d1 HT hb
  obtain ⟨d0, d1⟩ := HC.out _ hP
  have HT := Lib.hid hT
  have P8 := Lib.hid hP
  have S8 := Lib.hid hs
  have B8 := Lib.hid (fun W (hW : Below (v8.alloc (.cells #[.int .i64 f0, .int .i64 f1, .int .i64 f2, .int .i64 f3, .int .i64 f4, .int .i64 f5] 29)).heap.size (v8.alloc (.cells #[.int .i64 f0, .int .i64 f1, .int .i64 f2, .int .i64 f3, .int .i64 f4, .int .i64 f5] 29)) W) => box_stands hW)
  clear hT hP hs
  go_wp2_with fail
  obtain ⟨u8, hu⟩ : ∃ u, u = v8.alloc (.cells #[.int .i64 f0, .int .i64 f1, .int .i64 f2, .int .i64 f3, .int .i64 f4, .int .i64 f5] 29) := ⟨_, rfl⟩
  rw [← hu] at d0 d1 HT P8 S8 B8 ⊢
  clear hu
  refine Calls.mono (recLine.out _ HT.out) ?_
  rintro e v9 ⟨rfl, hb⟩
  have hs : Below u8.heap.size u8 (v9.alloc (.cells #[.int .i64 x0, .int .i64 x1, .int .i64 x2, .int .i64 x3] 31)) := hb.alloc hb.size _
  have hT := HT.out.trans (hs.mono HT.out.size)
  have hP := P8.out.trans (hs.mono P8.out.size)
  clear d0 d1 HT hb
  obtain ⟨d0, d1⟩ := HC.out _ hP
  have HT := Lib.hid hT
  have P9 := Lib.hid hP
  have S9 := Lib.hid hs
  have B9 := Lib.hid (fun W (hW : Below (v9.alloc (.cells #[.int .i64 x0, .int .i64 x1, .int .i64 x2, .int .i64 x3] 31)).heap.size (v9.alloc (.cells #[.int .i64 x0, .int .i64 x1, .int .i64 x2, .int .i64 x3] 31)) W) => box_stands hW)
  clear hT hP hs
  go_wp2_with fail
  obtain ⟨u9, hu⟩ : ∃ u, u = v9.alloc (.cells #[.int .i64 x0, .int .i64 x1, .int .i64 x2, .int .i64 x3] 31) := ⟨_, rfl⟩
  rw [← hu] at d0 d1 HT P9 S9 B9 ⊢
  clear hu
  refine Calls.mono (refLine.out _ HT.out) ?_
  rintro e v10 ⟨rfl, hb⟩
  have hs : Below u9.heap.size u9 (v10.alloc (.cells #[.int .i64 x0, .int .i64 x1, .int .i64 x2, .int .i64 x3] 31)) := hb.alloc hb.size _
  have hT := HT.out.trans (hs.mono HT.out.size)
  have hP := P9.out.trans (hs.mono P9.out.size)
  clear d0 d1 HT hb
  obtain ⟨d0, d1⟩ := HC.out _ hP
  have F10 := Below.refl (v10.alloc (.cells #[.int .i64 x0, .int .i64 x1, .int .i64 x2, .int .i64 x3] 31)).heap.size (v10.alloc (.cells #[.int .i64 x0, .int .i64 x1, .int .i64 x2, .int .i64 x3] 31))
  have F9 := hs
  have F8 := S9.out.trans (F9.mono S9.out.size)
  have F7 := S8.out.trans (F8.mono S8.out.size)
  have F6 := S7.out.trans (F7.mono S7.out.size)
  have F5 := S6.out.trans (F6.mono S6.out.size)
  have F4 := S5.out.trans (F5.mono S5.out.size)
  have F3 := S4.out.trans (F4.mono S4.out.size)
  have F2 := S3.out.trans (F3.mono S3.out.size)
  have F1 := S2.out.trans (F2.mono S2.out.size)
  obtain ⟨z1_0, z1_1, z1_2, z1_3, z1_4, z1_5, z1_6, z1_7, z1_8, z1_9, z1_10, z1_11⟩ := node_cells (B1.out _ F1)
  obtain ⟨z2_0, z2_1, z2_2, z2_3, z2_4, z2_5, z2_6, z2_7, z2_8, z2_9, z2_10, z2_11⟩ := node_cells (B2.out _ F2)
  obtain ⟨z3_0, z3_1, z3_2, z3_3, z3_4⟩ := doc_cells (B3.out _ F3)
  obtain ⟨z4_0, z4_1, z4_2, z4_3, z4_4⟩ := doc_cells (B4.out _ F4)
  obtain ⟨z5_0, z5_1, z5_2, z5_3⟩ := docLine_cells (B5.out _ F5)
  obtain ⟨z6_0, z6_1, z6_2, z6_3⟩ := docLine_cells (B6.out _ F6)
  obtain ⟨z7_0, z7_1, z7_2, z7_3, z7_4, z7_5⟩ := entry_cells (B7.out _ F7)
  obtain ⟨z8_0, z8_1, z8_2, z8_3, z8_4, z8_5⟩ := entry_cells (B8.out _ F8)
  obtain ⟨z9_0, z9_1, z9_2, z9_3⟩ := line_cells (B9.out _ F9)
  obtain ⟨z10_0, z10_1, z10_2, z10_3⟩ := line_cells (box_stands F10)
  have HT := Lib.hid hT
  clear hT hP hs P0 P1 P2 P3 P4 P5 P6 P7 P8 P9 S1 S2 S3 S4 S5 S6 S7 S8 S9 B1 B2 B3 B4 B5 B6 B7 B8 B9 F1 F2 F3 F4 F5 F6 F7 F8 F9 F10 HC d0 d1
  clear recNode refNode recDoc refDoc recDocLine refDocLine recEntry refEntry recLine refLine
  go_wp2_with fail
  refine Calls.mono (recAwake_any _) ?_
  rintro e w1 ⟨rfl, hb⟩
  have HE := Lib.hid (HT.out.trans (hb.mono HT.out.size))
  clear hb HT
  go_wp2
  go_ret
  exact ⟨rfl, HE.out⟩

end Go.Proofs.Yteojpnkfnflmbaa
