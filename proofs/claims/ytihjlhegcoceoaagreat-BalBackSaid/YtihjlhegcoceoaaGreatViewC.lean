/-
  Contracts of the view's Get, Abort, Put, Delete, New over memory. Conditions: texts and values of at most 2^47 bytes, fewer than 2^47 changes.
-/
import Derived.Test.YtihjlhegcoceoaaGreatViewB
namespace Go.Proofs.YtihjlhegcoceoaaGreat
open Go.RowKit Go.Maps
set_option maxRecDepth 100000
set_option linter.unusedVariables false

section
variable {w w' : World} {X : Nat → Prop} {v m c : Nat} {S : VS}
set_option maxHeartbeats 800000 in
theorem vGet_any (h : ViewAt w X v m c S) {A : Option Addr} {n k B : Nat} {l : List Int} (hr : RB w B A n l) (hB : B ≤ w.heap.size) (hn : n ≤ maxLen) :
    Calls Tryz.prog 27 #[.pointer (some ⟨v, 0, none⟩), .slice A n k] w fun e w' => ∃ u, e = .returned (.tuple #[u, .bool (S.now (tx l)).isSome]) ∧ SV w' (fun k => k < w.heap.size) u ((S.now (tx l)).getD []) ∧ Below w.heap.size w w' := by
  have HE := Lib.hid (vErr_any h)
  have HL := Lib.hid (vLook_any h (k := k) hr hB hn)
  generalize (S.now (tx l)).getD [] = d at HL ⊢
  generalize (S.now (tx l)).isSome = bs at HL ⊢
  clear h hr
  go_enter Tryz.func27, Tryz.ntmps27
  go_wp2_with fail
  refine HE.out.mono ?_
  rintro e w' ⟨rfl, rfl⟩
  go_wp2_with fail
  refine HL.out.mono ?_
  rintro e w' ⟨u, rfl, hs, hb⟩
  go_wp2_with fail
  go_ret2
  exact ⟨u, rfl, hs, hb⟩
/-- Put. -/
def putE (key val : List Int) : Int := if key.length < 1 ∨ key.length > 32 ∨ val.length > 120 then 1 else 0
def VS.putR (S : VS) (key val : List Int) : VS := if putE key val = 0 then S.put (tx key) val else S

set_option maxHeartbeats 1600000 in
theorem vPut_any (h : ViewAt w X v m c S) {A A' : Option Addr} {n k B n' k' B' : Nat} {l l' : List Int} (hr : RB w B A n l) (hB : B ≤ w.heap.size) (hn : n ≤ maxLen) (hr' : RB w B' A' n' l') (hB' : B' ≤ w.heap.size) (hn' : n' ≤ maxLen) (hC : S.C.length < maxLen) :
    Calls Tryz.prog 31 #[.pointer (some ⟨v, 0, none⟩), .slice A n k, .slice A' n' k'] w fun e w' => e = .returned (.int .i64 (putE l l')) ∧ ViewAt w' X v m c (S.putR l l') ∧ Touch (fun k => k = c) w w' := by
  obtain ⟨c0, c1, c2, hv⟩ := h.cells
  have hlen := hr.len
  have hlen' := hr'.len
  have HM := Lib.hid (vMade_any h)
  have HSAME := Lib.hid (show ViewAt w X v m c S ∧ Touch (fun k => k = c) w w from ⟨h, Touch.refl _ _⟩)
  by_cases b1 : n < 1
  · have e1 : putE l l' = 1 := by unfold putE; rw [hlen]; exact if_pos (.inl b1)
    have e2 : S.putR l l' = S := by unfold VS.putR; rw [e1]; rfl
    have t1 : decide ((n : Int) < 1) = true := by simp; omega
    rw [e1, e2]
    clear e1 e2 h hr hr'
    go_enter Tryz.func31, Tryz.ntmps31
    go_wp2_with fail
    refine HM.out.mono ?_
    rintro e w' ⟨rfl, rfl⟩
    go_wp2_with fail
    go_ret
    exact ⟨rfl, HSAME.out⟩
  have t1 : decide ((n : Int) < 1) = false := by simp; omega
  by_cases b2 : n > 32
  · have e1 : putE l l' = 1 := by unfold putE; rw [hlen]; exact if_pos (.inr (.inl b2))
    have e2 : S.putR l l' = S := by unfold VS.putR; rw [e1]; rfl
    have t2 : decide ((32 : Int) < n) = true := by simp; omega
    rw [e1, e2]
    clear e1 e2 h hr hr'
    go_enter Tryz.func31, Tryz.ntmps31
    go_wp2_with fail
    refine HM.out.mono ?_
    rintro e w' ⟨rfl, rfl⟩
    go_wp2_with fail
    go_ret
    exact ⟨rfl, HSAME.out⟩
  have t2 : decide ((32 : Int) < n) = false := by simp; omega
  by_cases b3 : n' > 120
  · have e1 : putE l l' = 1 := by unfold putE; rw [hlen']; exact if_pos (.inr (.inr b3))
    have e2 : S.putR l l' = S := by unfold VS.putR; rw [e1]; rfl
    have t3 : decide ((120 : Int) < n') = true := by simp; omega
    rw [e1, e2]
    clear e1 e2 h hr hr'
    go_enter Tryz.func31, Tryz.ntmps31
    go_wp2_with fail
    refine HM.out.mono ?_
    rintro e w' ⟨rfl, rfl⟩
    go_wp2_with fail
    go_ret
    exact ⟨rfl, HSAME.out⟩
  have t3 : decide ((120 : Int) < n') = false := by simp; omega
  have e1 : putE l l' = 0 := by unfold putE; rw [hlen, hlen']; exact if_neg (by rintro (a | a | a) <;> omega)
  have e2 : S.putR l l' = S.put (tx l) l' := by unfold VS.putR; rw [e1]; rfl
  rw [e1, e2]
  have B1 : Below w.heap.size w w.drew := (Below.refl _ w).drew
  have v1 := (hr.below (B1.mono hB)).conv k
  have HC := Lib.hid (SCloneN_any (w := w.drew) k' (hr'.below (B1.mono hB')) hB' (by omega))
  -- behind the clone: the store
  have HS := Lib.hid (show ∀ w2 u, Below w.drew.heap.size w.drew w2 → SV w2 (fun k => k < w.drew.heap.size) u l' → (convert 54 9 (.slice A n k)).run Tryz.prog w2 = .ok (.string (strOfNums l)) w2 ∧ w2.cell? ⟨v, 1, none⟩ = some (.map (some c)) ∧
      ∃ w3, (Instr.mapUpdate 43 (.map (some c)) (.string (strOfNums l)) (.agg #[.bool true, u])).run Tryz.prog w2 = .ok () w3 ∧ (convert 54 9 (.slice A n k)).run Tryz.prog w3 = .ok (.string (strOfNums l)) w3 ∧ w3.cell? ⟨v, 1, none⟩ = some (.map (some c)) ∧ ViewAt w3 X v m c (S.put (tx l) l') ∧ Touch (fun k => k = c) w w3 from by
    intro w2 u hb2 hs2
    have h2 := h.below (B1.trans hb2)
    obtain ⟨w3, hrun, hm3, hg3⟩ := h2.chg.store (R := chVal) @ch_kept h2.ok.c h2.xc Tryz.underlying43 hC (x := tx l) (by rw [tx_length, hlen]; exact hn) (u := .agg #[.bool true, u]) (c := some l') (show chVal w2 X _ (some l') from ⟨u, rfl, hs2.far (fun k hk => h.lt k hk)⟩)
    have h3 : ViewAt w3 X v m c (S.put (tx l) l') := h2.turnC hg3 hm3 (h2.ok.c.set _ _)
    have hcc := h2.cellsKept h3 ((Touch.refl (fun k => k = m ∨ k = c) w2).grown hg3 (.inr rfl))
    have hr2 := hr.below ((B1.trans hb2).mono hB)
    refine ⟨hr2.conv k, h2.cells.2.1, w3, hrun, (hr2.keep fun b o hb => hcc b o (by have := hb2.size; have : w.heap.size ≤ w2.heap.size := this; omega)).conv k, h3.cells.2.1, h3, (Touch.of_below (B1.trans hb2)).grown hg3 rfl⟩)
  clear h hr hr' e1 e2
  generalize strOfNums l = st at HS v1
  go_enter Tryz.func31, Tryz.ntmps31
  go_wp2_with fail
  refine HM.out.mono ?_
  rintro e w' ⟨rfl, rfl⟩
  go_wp2_with fail
  go_region_held3 (fun w' => w'.cell? ⟨v, 1, none⟩ = some (.map (some c)) ∧ (convert 54 9 (.slice A n k)).run Tryz.prog w' = .ok (.string st) w')
    (first | with_reducible exact q3 | with_reducible exact q2 | exact ⟨c1, v1⟩)
    (first | (go_at_call 36; refine HC.out.mono ?_; rintro e w2 ⟨u, rfl, hs, hb⟩; obtain ⟨p1, p2, w3, p3, p4, p5, p6⟩ := HS.out w2 u hb hs; obtain ⟨A2, n2, k2, rfl, _⟩ := hs; have q2 := And.intro p2 p1; have q3 := And.intro p5 p4))
  all_goals
    go_wp2_with fail
    go_ret
    exact ⟨rfl, p6⟩

set_option maxHeartbeats 1600000 in
theorem vDelete_any (h : ViewAt w X v m c S) {A : Option Addr} {n k B : Nat} {l : List Int} (hr : RB w B A n l) (hB : B ≤ w.heap.size) (hn : n ≤ maxLen) (hC : S.C.length < maxLen) :
    Calls Tryz.prog 30 #[.pointer (some ⟨v, 0, none⟩), .slice A n k] w fun e w' => e = .returned (.bool (S.now (tx l)).isSome) ∧ ViewAt w' X v m c (S.del (tx l)) ∧ Touch (fun k => k = c) w w' := by
  have hlen := hr.len
  have HM := Lib.hid (vMade_any h)
  have HL := Lib.hid (vLook_any h (k := k) hr hB hn)
  have HS := Lib.hid (show ∀ w1, Below w.heap.size w w1 → (convert 54 9 (.slice A n k)).run Tryz.prog w1.drew = .ok (.string (strOfNums l)) w1.drew ∧ w1.cell? ⟨v, 1, none⟩ = some (.map (some c)) ∧
      ∃ w3, (Instr.mapUpdate 43 (.map (some c)) (.string (strOfNums l)) (.agg #[.bool false, .slice none 0 0])).run Tryz.prog w1.drew = .ok () w3 ∧ (convert 54 9 (.slice A n k)).run Tryz.prog w3 = .ok (.string (strOfNums l)) w3 ∧ w3.cell? ⟨v, 1, none⟩ = some (.map (some c)) ∧ ViewAt w3 X v m c (S.del (tx l)) ∧ Touch (fun k => k = c) w w3 from by
    intro w1 hb2
    have hb3 := hb2.drew
    have h2 := h.below hb3
    obtain ⟨w3, hrun, hm3, hg3⟩ := h2.chg.store (R := chVal) @ch_kept h2.ok.c h2.xc Tryz.underlying43 hC (x := tx l) (by rw [tx_length, hlen]; exact hn) (u := .agg #[.bool false, .slice none 0 0]) (c := none) rfl
    have h3 : ViewAt w3 X v m c (S.del (tx l)) := h2.turnC hg3 hm3 (h2.ok.c.set _ _)
    have hcc := h2.cellsKept h3 ((Touch.refl (fun k => k = m ∨ k = c) w1.drew).grown hg3 (.inr rfl))
    have hr2 := hr.below (hb3.mono hB)
    refine ⟨hr2.conv k, h2.cells.2.1, w3, hrun, (hr2.keep fun b o hb => hcc b o (by have := hb3.size; omega)).conv k, h3.cells.2.1, h3, (Touch.of_below hb3).grown hg3 rfl⟩)
  generalize (S.now (tx l)).getD [] = d at HL
  generalize (S.now (tx l)).isSome = bs at HL ⊢
  clear h hr hlen
  generalize strOfNums l = st at HS
  go_enter Tryz.func30, Tryz.ntmps30
  go_wp2_with fail
  refine HM.out.mono ?_
  rintro e w' ⟨rfl, rfl⟩
  go_wp2_with fail
  refine HL.out.mono ?_
  rintro e w1 ⟨u, rfl, hs, hb⟩
  obtain ⟨p1, p2, w3, p3, p4, p5, p6⟩ := HS.out w1 hb
  have HP := Lib.hid p6
  clear hs hb p4 p5 p6
  go_wp2_with fail
  go_region_with fail
  all_goals
    go_wp2_with fail
    go_ret
    exact ⟨rfl, HP.out⟩

set_option maxHeartbeats 800000 in
theorem vNew_any (w : World) (X : Nat → Prop) (hX : ∀ k, X k → k < w.heap.size) : Calls Tryz.prog 5 #[.pointer none] w fun e w' => ∃ v m c, e = .returned (.pointer (some ⟨v, 0, none⟩)) ∧ ViewAt w' (fun k => X k ∨ k = v ∨ k = m ∨ k = c) v m c ⟨[], []⟩ ∧ Below w.heap.size w w' ∧ w.heap.size ≤ v ∧ w.heap.size ≤ m ∧ w.heap.size ≤ c := by
  have hmk := @run_makeMap Tryz.prog
  have s0 : ∀ o : Obj, (w.alloc o).heap.size = w.heap.size + 1 := fun o => by simp
  have hM : MapL SV (w.alloc (.map #[] 0)) X w.heap.size [] := MapL.made w X
  have hb1 : Below w.heap.size w (w.alloc (.map #[] 0)) := (Below.refl _ w).alloc (Nat.le_refl _) _
  have HFIN := Lib.hid (show ∃ v m c : Nat, (Value.pointer (some ⟨w.heap.size + 1 + 1, 0, none⟩)) = .pointer (some ⟨v, 0, none⟩) ∧ ViewAt (((w.alloc (.map #[] 0)).alloc (.map #[] 0)).alloc (.cells #[.iface 42 (.map (some w.heap.size)), .map (some (w.heap.size + 1)), .int .i64 0] 47 (0, 0))) (fun k => X k ∨ k = v ∨ k = m ∨ k = c) v m c ⟨[], []⟩ ∧ Below w.heap.size w (((w.alloc (.map #[] 0)).alloc (.map #[] 0)).alloc (.cells #[.iface 42 (.map (some w.heap.size)), .map (some (w.heap.size + 1)), .int .i64 0] 47 (0, 0))) ∧ w.heap.size ≤ v ∧ w.heap.size ≤ m ∧ w.heap.size ≤ c from by
    refine ⟨_, w.heap.size, w.heap.size + 1, rfl, ?_, ?_, by omega, Nat.le_refl _, by omega⟩
    · have z2 : ((w.alloc (.map #[] 0)).alloc (.map #[] 0)).heap.size = w.heap.size + 1 + 1 := by simp
      have z3 : (((w.alloc (.map #[] 0)).alloc (.map #[] 0)).alloc (.cells #[.iface 42 (.map (some w.heap.size)), .map (some (w.heap.size + 1)), .int .i64 0] 47 (0, 0))).heap.size = w.heap.size + 1 + 1 + 1 := by simp
      have hC : MapL chVal ((w.alloc (.map #[] 0)).alloc (.map #[] 0)) X (w.heap.size + 1) [] := by
        have := MapL.made (R := chVal) (w.alloc (.map #[] 0)) X
        rwa [s0] at this
      have g1 : (((w.alloc (.map #[] 0)).alloc (.map #[] 0)).alloc (.cells #[.iface 42 (.map (some w.heap.size)), .map (some (w.heap.size + 1)), .int .i64 0] 47 (0, 0))).heap[w.heap.size]? = (w.alloc (.map #[] 0)).heap[w.heap.size]? := by
        rw [Below.heap_alloc _ _ _ (by simp; omega), Below.heap_alloc _ _ _ (by simp)]
      have g2 : (((w.alloc (.map #[] 0)).alloc (.map #[] 0)).alloc (.cells #[.iface 42 (.map (some w.heap.size)), .map (some (w.heap.size + 1)), .int .i64 0] 47 (0, 0))).heap[w.heap.size + 1]? = ((w.alloc (.map #[] 0)).alloc (.map #[] 0)).heap[w.heap.size + 1]? := Below.heap_alloc _ _ _ (by simp)
      refine ⟨by rw [← z2]; exact heap_alloc_new _ _, ?_, ?_, by omega, .inr (.inl rfl), .inr (.inr (.inl rfl)), .inr (.inr (.inr rfl)), ⟨List.Pairwise.nil, List.Pairwise.nil⟩, ?_⟩
      · obtain ⟨f, h1, h2⟩ := hM
        exact ⟨_, h1.of_block g1, fun x => ⟨(h2 x).1, fun c hc => by cases hc⟩⟩
      · obtain ⟨f, h1, h2⟩ := hC
        exact ⟨_, h1.of_block g2, fun x => ⟨(h2 x).1, fun c hc => by cases hc⟩⟩
      · intro k hk
        rw [z3]
        rcases hk with a | a | a | a
        · have := hX k a; omega
        · omega
        · omega
        · omega
    · exact (hb1.alloc hb1.size _).alloc (by simp; omega) _)
  clear hM hb1 s0 hX
  go_enter Tryz.func5, Tryz.ntmps5
  go_wp2_with fail
  go_ret
  obtain ⟨v, m, c, e, h⟩ := HFIN.out
  exact ⟨v, m, c, by exact congrArg Ending.returned e, h⟩
end

end Go.Proofs.YtihjlhegcoceoaaGreat
