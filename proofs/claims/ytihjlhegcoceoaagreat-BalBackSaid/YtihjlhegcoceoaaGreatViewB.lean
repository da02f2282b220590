/-
  Contracts of the view's small parts over memory: made, Err, meet, the memory's Get, look, Get, Abort. Conditions: texts and values of at most 2^47 bytes.
-/
import Derived.Test.YtihjlhegcoceoaaGreatViewA
import Derived.StillTailTactics
import Derived.Deep.RegionWith
import Derived.Deep.RegionHeld3
import Derived.Deep.RegionLaw
import Derived.Deep.QuietTactic
import Derived.BigRegion
import Derived.BigQuiet
namespace Go.Proofs.YtihjlhegcoceoaaGreat
open Go.RowKit Go.Maps
set_option maxRecDepth 100000
set_option linter.unusedVariables false

theorem zero_bytes (w : World) : (zeroValue 54).run Tryz.prog w = .ok (.slice none 0 0) w := by kernel_rfl
theorem zero_change (w : World) : (zeroValue 63).run Tryz.prog w = .ok (.agg #[.bool false, .slice none 0 0]) w := by kernel_rfl

section
variable {w w' : World} {X : Nat → Prop} {v m c : Nat} {S : VS}
theorem vMade_nil (w : World) : Calls Tryz.prog 33 #[.pointer none] w fun e w' => e = .returned (.bool false) ∧ w = w' := by
  go_enter Tryz.func33, Tryz.ntmps33
  go_wp2
  go_ret
  exact ⟨rfl, rfl⟩
theorem vMade_zero {r : Nat} (h : w.cell? ⟨r, 0, none⟩ = some .nilIface) : Calls Tryz.prog 33 #[.pointer (some ⟨r, 0, none⟩)] w fun e w' => e = .returned (.bool false) ∧ w = w' := by
  go_enter Tryz.func33, Tryz.ntmps33
  go_wp2
  go_ret
  exact ⟨rfl, rfl⟩
theorem vMade_any (h : ViewAt w X v m c S) : Calls Tryz.prog 33 #[.pointer (some ⟨v, 0, none⟩)] w fun e w' => e = .returned (.bool true) ∧ w = w' := by
  obtain ⟨c0, c1, c2, _⟩ := h.cells
  clear h
  go_enter Tryz.func33, Tryz.ntmps33
  go_wp2
  go_ret
  exact ⟨rfl, rfl⟩
theorem vErr_any (h : ViewAt w X v m c S) : Calls Tryz.prog 15 #[.pointer (some ⟨v, 0, none⟩)] w fun e w' => e = .returned (.int .i64 0) ∧ w = w' := by
  obtain ⟨c0, c1, c2, _⟩ := h.cells
  have HM := Lib.hid (vMade_any h)
  clear h
  go_enter Tryz.func15, Tryz.ntmps15
  go_wp2_with fail
  refine HM.out.mono ?_
  rintro e w' ⟨rfl, rfl⟩
  go_wp2
  go_ret
  exact ⟨rfl, rfl⟩
theorem vMeet_any (h : ViewAt w X v m c S) : Calls Tryz.prog 16 #[.pointer (some ⟨v, 0, none⟩), .int .i64 0] w fun e w' => e = .returned (.int .i64 0) ∧ w = w' := by
  obtain ⟨c0, c1, c2, _⟩ := h.cells
  have fr : w.frozen? ⟨v, 2, none⟩ = false := frozen_of_row w v 2 _ _ h.me
  have hs : w.setCell ⟨v, 2, none⟩ (.int .i64 0) = w := setCell_same h.me rfl
  clear h
  go_enter Tryz.func16, Tryz.ntmps16
  go_wp2
  go_ret
  exact ⟨rfl, rfl⟩

set_option maxHeartbeats 800000 in
theorem memGet_any {W : TL} (h : MapL SV w X m W) (hX : ∀ k, X k → k < w.heap.size) {A : Option Addr} {n k B : Nat} {l : List Int} (hr : RB w B A n l) (hn : n ≤ maxLen) :
    Calls Tryz.prog 144 #[.map (some m), .slice A n k] w fun e w' => ∃ u, e = .returned (.tuple #[u, .bool (lookT W (tx l)).isSome, .int .i64 0]) ∧ SV w' (fun k => k < w.heap.size) u ((lookT W (tx l)).getD []) ∧ Below w.heap.size w w' := by
  have hconv := hr.conv k
  have hlen := hr.len
  obtain ⟨u0, hlook, hnone, hsome⟩ := h.look Tryz.underlying42 zero_bytes (x := tx l) (by rw [tx_length, hlen]; exact hn)
  have hu : SV w X u0 ((lookT W (tx l)).getD []) := by
    cases hl : lookT W (tx l) with
    | none => rw [hnone hl]; exact SV.nil_ _ _ _
    | some d => exact hsome d hl
  have hlook' : (Instr.lookup 42 (.map (some m)) (.string (strOfNums l)) true).run Tryz.prog w = .ok (.tuple #[u0, .bool (lookT W (tx l)).isSome]) w := hlook w rfl
  obtain ⟨A', n', c', rfl, e1, e2, e3, e4⟩ := hu
  have HC := Lib.hid (SCloneN_any c' e3 (Nat.le_refl _) e2)
  generalize (lookT W (tx l)).isSome = bs at hlook' ⊢
  generalize (lookT W (tx l)).getD [] = d at HC e3 ⊢
  generalize strOfNums l = st at hconv hlook'
  clear hlook hnone hsome e3 e4 h hr hlen hX
  go_enter Tryz.func144, Tryz.ntmps144
  go_wp2_with fail
  refine HC.out.mono ?_
  rintro e w' ⟨u, rfl, hs, hb⟩
  go_wp2
  go_ret3
  exact ⟨u, rfl, hs, hb⟩

set_option maxHeartbeats 800000 in
theorem vLook_any (h : ViewAt w X v m c S) {A : Option Addr} {n k B : Nat} {l : List Int} (hr : RB w B A n l) (hB : B ≤ w.heap.size) (hn : n ≤ maxLen) :
    Calls Tryz.prog 42 #[.pointer (some ⟨v, 0, none⟩), .slice A n k] w fun e w' => ∃ u, e = .returned (.tuple #[u, .bool (S.now (tx l)).isSome, .int .i64 0]) ∧ SV w' (fun k => k < w.heap.size) u ((S.now (tx l)).getD []) ∧ Below w.heap.size w w' := by
  obtain ⟨c0, c1, c2, hv⟩ := h.cells
  have hlen := hr.len
  obtain ⟨u0, hlk, n1, s1⟩ := h.chg.look Tryz.underlying43 zero_change (x := tx l) (by rw [tx_length, hlen]; exact hn)
  have hmem := h.mem
  have B1 : Below w.heap.size w w.drew := (Below.refl _ w).drew
  have B2 : Below w.heap.size w (w.alloc (.cells #[.bool false, .slice none 0 0] 63)).drew := ((Below.refl _ w).alloc (Nat.le_refl _) _).drew
  have v1 := (hr.below (B1.mono hB)).conv k
  have v2 := (hr.below (B2.mono hB)).conv k
  have hm : ∀ n (w : World), (method (n + 1) 42 (.map (some m)) "Get").run Tryz.prog w = .ok (144, .map (some m)) w := fun n w => by kernel_rfl
  -- what stands in the changes
  have hch : ∃ (t : Bool) (A' : Option Addr) (n' c' : Nat), u0 = .agg #[.bool t, .slice A' n' c'] ∧ ((lookT S.C (tx l)).isSome = true → (S.now (tx l)).isSome = t ∧ n' ≤ c' ∧ n' ≤ 140737488355328 ∧ RB w w.heap.size A' n' ((S.now (tx l)).getD [])) := by
    cases hl : lookT S.C (tx l) with
    | none => exact ⟨_, _, _, _, n1 hl, fun h => by cases h⟩
    | some d =>
      have hd := s1 d hl
      have hnow : S.now (tx l) = d := by unfold VS.now; rw [hl]
      rw [hnow]
      cases d with
      | none => exact ⟨_, _, _, _, hd, fun _ => ⟨rfl, Nat.le_refl _, Nat.zero_le _, RB.nil_⟩⟩
      | some y =>
        obtain ⟨q, rfl, A', n', c', rfl, e1, e2, e3, _⟩ := hd
        exact ⟨_, _, _, _, rfl, fun _ => ⟨rfl, e1, e2, e3⟩⟩
  obtain ⟨t, A', n', c', rfl, hch⟩ := hch
  have k1 : (Instr.lookup 43 (.map (some c)) (.string (strOfNums l)) true).run Tryz.prog w.drew = .ok (.tuple #[.agg #[.bool t, .slice A' n' c'], .bool (lookT S.C (tx l)).isSome]) w.drew := hlk _ rfl
  have k2 : (Instr.lookup 43 (.map (some c)) (.string (strOfNums l)) true).run Tryz.prog (w.alloc (.cells #[.bool false, .slice none 0 0] 63)).drew = .ok (.tuple #[.agg #[.bool t, .slice A' n' c'], .bool (lookT S.C (tx l)).isSome]) (w.alloc (.cells #[.bool false, .slice none 0 0] 63)).drew := hlk _ (Below.heap_alloc _ _ _ h.chg.lt)
  clear hlk n1 s1
  generalize hst : strOfNums l = st at k1 k2 v1 v2
  cases hb0 : (lookT S.C (tx l)).isSome with
  | true =>
    rw [hb0] at k1 k2
    obtain ⟨g1, g2, g3, g4⟩ := hch hb0
    have hB4 : Below w.heap.size w (w.alloc (.cells #[.bool t, .slice A' n' c'] 63)).drew.drew := ((Below.refl _ w).alloc (Nat.le_refl _) _).drew.drew
    have HC := Lib.hid (SCloneN_any c' ((g4.below hB4).more hB4.size) (Nat.le_refl _) g3)
    have HB4 := Lib.hid hB4
    rw [g1]
    generalize (S.now (tx l)).getD [] = d at HC ⊢
    clear hch g4 g1 h hr hmem B1 B2 hb0 hB4 hst
    go_enter Tryz.func42, Tryz.ntmps42
    go_wp2_with fail
    go_region_with fail
    all_goals
      go_wp2_with fail
      clear k1 k2 v1 v2 hm c0 c1 c2
      have q0 : (w.alloc (.cells #[.bool t, .slice A' n' c'] 63)).drew.cell? ⟨w.heap.size, 0, none⟩ = some (.bool t) := by simp
      have q1 : (w.alloc (.cells #[.bool t, .slice A' n' c'] 63)).drew.cell? ⟨w.heap.size, 1, none⟩ = some (.slice A' n' c') := by simp
      have q2 : w.heap.size < (w.alloc (.cells #[.bool t, .slice A' n' c'] 63)).drew.heap.size := by simp
      have q2' : w.heap.size ≤ (w.alloc (.cells #[.bool t, .slice A' n' c'] 63)).drew.drew.heap.size := by simp
      generalize (w.alloc (.cells #[.bool t, .slice A' n' c'] 63)).drew = w1 at HC HB4 q0 q1 q2 q2' ⊢
      obtain ⟨bx, hbx⟩ : ∃ bx, bx = w.heap.size := ⟨_, rfl⟩
      have HX := Lib.hid hbx
      rw [← hbx] at q0 q1 q2 q2' HB4 ⊢
      clear hbx
      go_region_held3 (fun w' => w'.cell? ⟨bx, 0, none⟩ = some (.bool t) ∧ w'.cell? ⟨bx, 1, none⟩ = some (.slice A' n' c'))
        (first | with_reducible exact q3 | with_reducible exact ⟨q0, q1⟩ | exact ⟨q0, q1⟩)
        (first | (go_at_call 36; refine HC.out.mono ?_; rintro e w' ⟨u, rfl, hs, hb⟩; have q3 := And.intro ((hb.cell (p := ⟨bx, 0, none⟩) q2).trans q0) ((hb.cell (p := ⟨bx, 1, none⟩) q2).trans q1)))
      go_wp2_with fail
      go_ret3
      rw [HX.out] at q2'
      have hB5 := HB4.out
      rw [HX.out] at hB5
      exact ⟨u, rfl, hs.far (fun k hk => Nat.lt_of_lt_of_le hk q2'), hB5.trans (hb.mono q2')⟩
  | false =>
    rw [hb0] at k1 k2
    have hnow : S.now (tx l) = lookT S.W (tx l) := by
      unfold VS.now
      cases hl : lookT S.C (tx l) with
      | none => rfl
      | some d => rw [hl] at hb0; cases hb0
    rw [hnow]
    have hB4 : Below w.heap.size w (w.alloc (.cells #[.bool t, .slice A' n' c'] 63)).drew := ((Below.refl _ w).alloc (Nat.le_refl _) _).drew
    have h4 := h.below hB4
    have HC := Lib.hid (memGet_any h4.mem h4.lt (k := k) (hr.below (hB4.mono hB)) hn)
    have HT := Lib.hid h4
    have HB4 := Lib.hid hB4
    have c0' := h4.cells.1
    generalize (lookT S.W (tx l)).getD [] = d at HC ⊢
    generalize (lookT S.W (tx l)).isSome = bs at HC ⊢
    clear hch h hr hmem B1 B2 hb0 hB4 hst h4 hnow
    go_enter Tryz.func42, Tryz.ntmps42
    go_wp2_with fail
    go_region_with fail
    all_goals
      go_wp2_with fail
      refine HC.out.mono ?_
      rintro e w2 ⟨u, rfl, hs, hb⟩
      have HM := Lib.hid (vMeet_any (HT.out.below hb))
      have HS := Lib.hid hs
      have HB := Lib.hid hb
      clear hs hb
      go_wp2_with fail
      refine HM.out.mono ?_
      rintro e w3 ⟨rfl, rfl⟩
      go_wp2_with fail
      go_ret3
      exact ⟨u, rfl, HS.out.far (fun k hk => Nat.lt_of_lt_of_le hk HB4.out.size), HB4.out.trans (HB.out.mono HB4.out.size)⟩
end

end Go.Proofs.YtihjlhegcoceoaaGreat
