/-
  Contracts of Scan's closure that asks whether a pair's key was changed, and of the library's IndexFunc and DeleteFunc with it. Conditions: texts of at most 2^47 bytes.
-/
import Derived.Test.YtihjlhegcoceoaaGreatViewH
namespace Go.Proofs.YtihjlhegcoceoaaGreat
open Go.RowKit Go.Maps
set_option maxRecDepth 100000
set_option linter.unusedVariables false

section
variable {w w' : World} {X : Nat → Prop} {v m c : Nat} {S : VS}
set_option maxHeartbeats 1600000 in
theorem chd_any (h : ViewAt w X v m c S) {bx : Nat} (hbx : w.cell? ⟨bx, 0, none⟩ = some (.pointer (some ⟨v, 0, none⟩))) (hbl : bx < w.heap.size) {A A' : Option Addr} {n k n' k' B : Nat} {l : List Int} (hr : RB w B A n l) (hB : B ≤ w.heap.size) (hn : n ≤ maxLen) :
    Calls Tryz.prog 18 #[.agg #[.slice A n k, .slice A' n' k'], .pointer (some ⟨bx, 0, none⟩)] w fun e w' => e = .returned (.bool (lookT S.C (tx l)).isSome) ∧ Below w.heap.size w w' := by
  have hlen := hr.len
  obtain ⟨u0, hlk, n1, s1⟩ := h.chg.look Tryz.underlying43 zero_change (x := tx l) (by rw [tx_length, hlen]; exact hn)
  have hch : ∃ (t : Bool) (A3 : Option Addr) (n3 k3 : Nat), u0 = .agg #[.bool t, .slice A3 n3 k3] := by
    cases hl : lookT S.C (tx l) with
    | none => exact ⟨_, _, _, _, n1 hl⟩
    | some d =>
      have hd := s1 d hl
      cases d with
      | none => exact ⟨_, _, _, _, hd⟩
      | some y =>
        obtain ⟨q, rfl, A3, n3, k3, rfl, _⟩ := hd
        exact ⟨_, _, _, _, rfl⟩
  obtain ⟨t, A3, n3, k3, rfl⟩ := hch
  obtain ⟨w1, hw1⟩ : ∃ w1, w1 = w.alloc (.cells #[.slice A n k, .slice A' n' k'] 61 (0, 0)) := ⟨_, rfl⟩
  have B1 : Below w.heap.size w w1 := by rw [hw1]; exact (Below.refl _ w).alloc (Nat.le_refl _) _
  have hs1 : w1.heap.size = w.heap.size + 1 := by rw [hw1]; simp
  have hbk : w1.heap[w.heap.size]? = some (.cells #[.slice A n k, .slice A' n' k'] 61 (0, 0)) := by rw [hw1]; exact heap_alloc_new _ _
  have hC : Below w1.heap.size w1 (w1.alloc (.cells #[.bool false, .slice none 0 0] 63)).drew := ((Below.refl _ w1).alloc (Nat.le_refl _) _).drew
  have b2 := B1.drew
  have b3 := B1.trans (hC.mono B1.size)
  have mk : ∀ W, Below w.heap.size w W → (convert 54 9 (.slice A n k)).run Tryz.prog W = .ok (.string (strOfNums l)) W ∧ (Instr.lookup 43 (.map (some c)) (.string (strOfNums l)) true).run Tryz.prog W = .ok (.tuple #[.agg #[.bool t, .slice A3 n3 k3], .bool (lookT S.C (tx l)).isSome]) W ∧ W.cell? ⟨bx, 0, none⟩ = some (.pointer (some ⟨v, 0, none⟩)) ∧ W.cell? ⟨v, 1, none⟩ = some (.map (some c)) := fun W hW =>
    ⟨(hr.below (hW.mono hB)).conv k, hlk W (hW.block c h.chg.lt), (hW.cell (p := ⟨bx, 0, none⟩) hbl).trans hbx, (h.below hW).cells.2.1⟩
  obtain ⟨p1, p2, p3, p4⟩ := mk _ b2
  obtain ⟨q1, q2, q3, q4⟩ := mk _ b3
  obtain ⟨_, _, r3, r4⟩ := mk _ B1
  have cells : ∀ W : World, W.heap[w.heap.size]? = w1.heap[w.heap.size]? → W.cell? ⟨w.heap.size, 0, none⟩ = some (.slice A n k) := fun W e => by
    rw [hbk] at e
    rw [cell_of_row W _ 0 _ _ (0, 0) e]; rfl
  have d1 := cells w1.drew rfl
  have d2 := cells (w1.alloc (.cells #[.bool false, .slice none 0 0] 63)).drew (Below.heap_alloc _ _ _ (by omega))
  have HFIN := Lib.hid (show ∀ o, Below w.heap.size w (w1.alloc o).drew from fun o => (B1.alloc B1.size o).drew)
  generalize (lookT S.C (tx l)).isSome = bs at p2 q2 ⊢
  generalize strOfNums l = st at p1 p2 q1 q2
  clear hlk n1 s1 mk cells h hr hC b2 b3 B1 hbk hbx
  go_enter Tryz.func18, Tryz.ntmps18
  go_wp2_with fail
  rw [← hw1]
  obtain ⟨bz, hbz⟩ : ∃ bz, bz = w.heap.size := ⟨_, rfl⟩
  have HBZ := Lib.hid hbz
  rw [← hbz] at d1 d2 HFIN ⊢
  clear hw1 hs1 hbz hbl hB
  go_region_with fail
  all_goals
    go_wp2_with fail
    go_ret
    have hh := HFIN.out
    rw [HBZ.out] at hh
    exact ⟨rfl, hh _⟩
end

end Go.Proofs.YtihjlhegcoceoaaGreat
