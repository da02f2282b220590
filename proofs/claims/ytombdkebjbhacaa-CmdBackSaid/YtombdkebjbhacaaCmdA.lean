/-
  Contract of a writing's lay: numbers put behind its bytes, and whether one was wrong. Conditions: few numbers, all ints; the numbers lie in a new block.
-/
import Derived.Test.YtombdkebjbhacaaCmdP
import Derived.Test.YtombdkebjbhacaaAppB
import Derived.Lib.AppendStr
import Derived.Deep.RegionHeld3
namespace Go.Proofs.Ytombdkebjbhacaa
open Go.RowKit
set_option maxRecDepth 100000
set_option linter.unusedVariables false

/-- What a command is written into: a block of two cells, its bytes in a row of the call's own. -/
structure WrAt (w : World) (g : Nat) (v : Value) (l : List Int) (z : Bool) : Prop where
  blk : w.heap[g]? = some (.cells #[v, .bool z] 45 (0, 0))
  own : w.ownsRow (g + 1) 5 1 v l.length (l.map (Value.int .u8))
  byt : AllBytes l
/-- The blocks that it may change. -/
def WrF (g : Nat) (v : Value) : Nat → Prop := fun k => k = g ∨ v.ownBlock = some k
section
variable {w w' : World} {g : Nat} {v : Value} {l : List Int} {z : Bool}
theorem row_lt {base e size n : Nat} {xs : List Value} (h : w.ownsRow base e size v n xs) : ∀ k, v.ownBlock = some k → base ≤ k ∧ k < w.heap.size := by
  intro k hk
  rcases h.2 with ⟨rfl, _⟩ | ⟨g', cap, cur, rfl, hb, hh, _⟩
  · simp [Value.ownBlock] at hk
  · simp [Value.ownBlock] at hk
    subst hk
    exact ⟨hb, (Array.getElem?_eq_some_iff.1 hh).1⟩
theorem row_stays {base e size n : Nat} {xs : List Value} (h : w.ownsRow base e size v n xs) (hk : ∀ k, v.ownBlock = some k → w'.heap[k]? = w.heap[k]?) : w'.ownsRow base e size v n xs := by
  rcases h.2 with h' | ⟨g', cap, cur, rfl, hg, hb, h3⟩
  · exact ⟨h.1, .inl h'⟩
  · exact ⟨h.1, .inr ⟨g', cap, cur, rfl, hg, (hk g' (by simp [Value.ownBlock])).trans hb, h3⟩⟩
theorem WrAt.lt (h : WrAt w g v l z) : g < w.heap.size := (Array.getElem?_eq_some_iff.1 h.blk).1
theorem WrAt.lts (h : WrAt w g v l z) : ∀ k, WrF g v k → k < w.heap.size := fun k hk => by
  rcases hk with rfl | hk
  · exact h.lt
  · exact (row_lt h.own k hk).2
theorem WrAt.keep (h : WrAt w g v l z) (hk : ∀ k, WrF g v k → w'.heap[k]? = w.heap[k]?) : WrAt w' g v l z :=
  ⟨(hk g (.inl rfl)).trans h.blk, row_stays h.own fun k e => hk k (.inr e), h.byt⟩
theorem WrAt.below (h : WrAt w g v l z) (hb : Below w.heap.size w w') : WrAt w' g v l z := h.keep fun k hk => hb.block k (h.lts k hk)
theorem WrAt.cells (h : WrAt w g v l z) : w.cell? ⟨g, 0, none⟩ = some v ∧ w.cell? ⟨g, 1, none⟩ = some (.bool z) := ⟨cell_of_row w g 0 _ _ (0, 0) h.blk, cell_of_row w g 1 _ _ (0, 0) h.blk⟩
theorem WrAt.free (h : WrAt w g v l z) (o : Nat) : w.frozen? ⟨g, o, none⟩ = false := by simp [World.frozen?, h.blk]
theorem WrAt.setZ (h : WrAt w g v l z) (y : Bool) : WrAt (w.setCell ⟨g, 1, none⟩ (.bool y)) g v l y := by
  refine ⟨?_, row_stays h.own fun k hk => ?_, h.byt⟩
  · rw [heap_setCell_same w g 1 _ _ _ h.blk]; rfl
  · have := (row_lt h.own k hk).1
    exact heap_setCell_other _ _ _ _ (by show k ≠ g; omega)
theorem WrAt.setV (h : WrAt w g v l z) {v2 : Value} {m : List Int} (ho : w'.ownsRow (g + 1) 5 1 v2 m.length (m.map (Value.int .u8))) (hb : w'.heap[g]? = w.heap[g]?) (hm : AllBytes m) : WrAt (w'.setCell ⟨g, 0, none⟩ v2) g v2 m z := by
  refine ⟨?_, row_stays ho fun k hk => ?_, hm⟩
  · rw [heap_setCell_same w' g 0 _ _ _ (hb.trans h.blk)]; rfl
  · have := (row_lt ho k hk).1
    exact heap_setCell_other _ _ _ _ (by show k ≠ g; omega)
end
theorem touch_trans {F : Nat → Prop} {w w1 w2 : World} (h : Touch F w w1) (g : Touch F w1 w2) : Touch F w w2 :=
  ⟨g.os.trans h.os, g.tape.trans h.tape, g.output.trans h.output, Nat.le_trans h.size g.size, fun k hk hn => (g.block k (Nat.lt_of_lt_of_le hk h.size) hn).trans (h.block k hk hn)⟩
theorem touch_set {F : Nat → Prop} {w w' : World} (h : Touch F w w') {b : Nat} (hb : F b) (o : Nat) (v : Value) : Touch F w (w'.setCell ⟨b, o, none⟩ v) :=
  ⟨h.os, h.tape, h.output, by simpa using h.size, fun k hk hn => (heap_setCell_other _ _ _ _ (show k ≠ b from fun e => hn (e ▸ hb))).trans (h.block k hk hn)⟩
theorem touch_drew {F : Nat → Prop} {w w' : World} (h : Touch F w w') : Touch F w w'.drew := ⟨h.os, h.tape, h.output, h.size, h.block⟩
/-- One step of lay, told whole. -/
theorem touch_more {F G : Nat → Prop} {w w1 w2 : World} (h : Touch F w w1) (g : Touch G w1 w2) (hG : ∀ k, G k → F k ∨ w.heap.size ≤ k) : Touch F w w2 :=
  ⟨g.os.trans h.os, g.tape.trans h.tape, g.output.trans h.output, Nat.le_trans h.size g.size, fun k hk hn => (g.block k (Nat.lt_of_lt_of_le hk h.size) (fun hg => by
    rcases hG k hg with e | e
    · exact hn e
    · omega)).trans (h.block k hk hn)⟩

/-- What lay leaves, from w on. -/
def Laid (w w' : World) (g : Nat) (v : Value) (l : List Int) (z : Bool) : Prop := ∃ v', WrAt w' g v' l z ∧ Touch (WrF g v) w w' ∧ ∀ k, v'.ownBlock = some k → v.ownBlock = some k ∨ w.heap.size ≤ k

/-- Bytes in new memory appended to the writing's bytes, as a step. -/
theorem put_step {w w2 : World} {g : Nat} {v : Value} {l m : List Int} {z : Bool} (h : WrAt w g v l z) {A : Option Addr} {k c : Nat} (hr : RB w2 w2.heap.size A k m) (hb : Below w.heap.size w w2) (hk : l.length + k ≤ 140737488355328) (ty : TypeId) :
    ∃ A' c' w3, (Builtin.append_ #[28, 28] ty #[v, .slice A k c]).run Try.prog w2 = .ok (.slice A' (l.length + k) c') w3 ∧ w3.heap[g]? = w.heap[g]? ∧ Laid w (w3.setCell ⟨g, 0, none⟩ (.slice A' (l.length + k) c')) g v (l ++ m) z := by
  have h2 := h.below hb
  obtain ⟨v', w3, hrun, ho, hgr, hv, hb3⟩ := bkAppend_run (c := c) h2.own hr hk (by have := h2.lt; omega) ty
  have hg3 := (hb3.block g (Nat.lt_succ_self g)).trans (hb.block g h.lt)
  have hm : AllBytes (l ++ m) := h.byt.append hr.bytes
  obtain ⟨A', c', rfl, _⟩ := own_shape ho
  refine ⟨A', c', w3, hrun, hg3, _, h.setV (by rw [List.length_append, hr.len]; exact ho) hg3 hm, ?_, fun k hk' => ?_⟩
  · refine touch_set ⟨hb3.os.trans hb.os, hb3.tape.trans hb.tape, hb3.output.trans hb.output, Nat.le_trans hb.size hb3.size, fun k hk hn => ?_⟩ (.inl rfl) 0 _
    have hne : v.ownBlock ≠ some k := fun e => hn (.inr e)
    exact (hgr.block k (Nat.lt_of_lt_of_le hk hb.size) (fun e => hne e.symm)).trans (hb.block k hk)
  · rcases hv with e | e
    · exact .inl (e ▸ hk')
    · rw [e] at hk'
      cases hk'
      exact .inr hb.size

set_option maxHeartbeats 1600000 in
theorem lay_any {w : World} {g : Nat} {v : Value} {l : List Int} {z : Bool} (h : WrAt w g v l z) (ns : List Int) (s : Int) (hns : ∀ x ∈ ns, B64 x) (hn : ns.length ≤ 100) (hl : l.length ≤ 1000000) :
    Calls Try.prog 21 #[.pointer (some ⟨g, 0, none⟩), .int .i64 s, .slice (some ⟨w.heap.size, 0, none⟩) ns.length ns.length] (w.alloc (.cells (ns.map (Value.int .i64)).toArray 3)) fun e w' => e = .returned (.tuple #[]) ∧ Laid w w' g v (l ++ layL s ns) (z || !allR s ns) := by
  obtain ⟨wa, hwa⟩ : ∃ wa, wa = w.alloc (.cells (ns.map (Value.int .i64)).toArray 3) := ⟨_, rfl⟩
  have hba : Below w.heap.size w wa := by rw [hwa]; exact (Below.refl _ _).alloc (Nat.le_refl _) _
  have hsz : wa.heap.size = w.heap.size + 1 := by rw [hwa]; simp
  have hblk : wa.heap[w.heap.size]? = some (.cells (ns.map (Value.int .i64)).toArray 3 (0, 0)) := by rw [hwa]; exact heap_alloc_new w _
  rw [← hwa]
  have hfar : ¬ WrF g v w.heap.size := fun e => by have := h.lts _ e; omega
  have H0 := Lib.hid (show Laid wa wa g v (l ++ layL s (ns.take 0)) (z || !allR s (ns.take 0)) from ⟨v, by
    rw [List.take_zero, layL_nil, List.append_nil]
    have e : (z || !allR s []) = z := by simp [allR]
    rw [e]
    exact h.below hba, Touch.refl _ _, fun k hk => .inl hk⟩)
  have HBA := Lib.hid (And.intro hba h.lt)
  have HN := Lib.hid hns
  have HF := Lib.hid hfar
  have HB := Lib.hid hblk
  clear h hns hfar hblk hba hwa
  generalize hN : ns.length = n at hn ⊢
  go_enter Try.func21, Try.ntmps21
  go_wp2_with fail
  go_loopw [10] (fun i wr => ∃ j : Nat, j ≤ n ∧ i = .int .i64 j ∧ Hid (Laid wa wr g v (l ++ layL s (ns.take j)) (z || !allR s (ns.take j))) ∧ wr.heap[w.heap.size]? = wa.heap[w.heap.size]?) (fun i _ => n - (intOf i).toNat)
  case atStart => exact ⟨0, Nat.zero_le _, rfl, Lib.hid H0.out, rfl⟩
  case round =>
    obtain ⟨j, hj, rfl, hla, hbr⟩ := hrel
    by_cases hlt : j < n
    · have hxi : B64 (ns[j]?.getD 0) := by
        rw [List.getElem?_eq_getElem (by omega)]
        exact HN.out _ (List.getElem_mem (by omega))
      have hck : wr.cell? ⟨w.heap.size, j, none⟩ = some (.int .i64 (ns[j]?.getD 0)) := by
        rw [cell_of_row wr w.heap.size j _ _ (0, 0) (hbr.trans HB.out)]
        simp [List.getElem?_eq_getElem (show j < ns.length by omega)]
      have HS := Lib.hid (And.intro (layL_step s ns j (by omega)) (allR_step s ns j (by omega)))
      generalize ns[j]?.getD 0 = x at hxi hck HS
      have hlen := Lib.hid (show (l ++ layL s (ns.take j)).length ≤ 1000800 by
        have := layL_len s (ns.take j)
        rw [List.length_append]
        rw [List.length_take] at this
        omega)
      obtain ⟨v1, h1, t1, f1⟩ := hla.out
      have hwr1 : w.heap.size < wr.heap.size := (Array.getElem?_eq_some_iff.1 (hbr.trans HB.out)).1
      generalize hz1 : (z || !allR s (ns.take j)) = z1 at h1
      generalize hl1 : l ++ layL s (ns.take j) = l1 at h1 hlen
      have hstep : ∀ w', Laid wr w' g v1 (l1 ++ putR [] x s) (z1 || !rightB x s) → Laid wa w' g v (l ++ layL s (ns.take (j + 1))) (z || !allR s (ns.take (j + 1))) := fun w' hq => by
        obtain ⟨v2, h2, t2, f2⟩ := hq
        refine ⟨v2, ?_, touch_more t1 t2 (fun k hk => ?_), fun k hk => ?_⟩
        · rw [HS.out.1, HS.out.2, ← List.append_assoc, hl1]
          have e : (z || !(allR s (ns.take j) && rightB x s)) = (z1 || !rightB x s) := by
            rw [← hz1]
            cases z <;> cases allR s (ns.take j) <;> cases rightB x s <;> rfl
          rw [e]
          exact h2
        · rcases hk with rfl | hk
          · exact .inl (.inl rfl)
          · rcases f1 k hk with e | e
            · exact .inl (.inr e)
            · exact .inr e
        · rcases f2 k hk with e | e
          · exact f1 k e
          · exact .inr (Nat.le_trans t1.size e)
      have hfar1 : ¬ WrF g v1 w.heap.size := fun e => by
        rcases e with e | e
        · have := HBA.out.2; omega
        · rcases f1 _ e with e | e
          · exact HF.out (.inr e)
          · omega
      have HX := Lib.hid (And.intro hstep hxi)
      have HL := hlen
      have H1 := Lib.hid h1
      obtain ⟨c0, c1⟩ := h1.cells
      have fz1 := h1.free 1
      clear hla t1 f1 HS hstep hxi hz1 hl1 h1
      have HY := Lib.hid (show ∀ y, WrAt (wr.setCell ⟨g, 1, none⟩ (.bool y)) g v1 l1 y ∧ Touch (WrF g v1) wr (wr.setCell ⟨g, 1, none⟩ (.bool y)) from fun y => ⟨H1.out.setZ y, touch_set (Touch.refl _ _) (.inl rfl) 1 _⟩)
      have hfin : ∀ y W w', Touch (WrF g v1) wr W → Laid W w' g v1 (l1 ++ putR [] x s) y → Laid wr w' g v1 (l1 ++ putR [] x s) y := fun y W w' ht hq => by
        obtain ⟨v2, h2, t2, f2⟩ := hq
        exact ⟨v2, h2, touch_trans ht t2, fun k hk => (f2 k hk).imp_right fun e => Nat.le_trans ht.size e⟩
      have hbk : ∀ y W w', Touch (WrF g v1) wr W → Laid W w' g v1 (l1 ++ putR [] x s) y → w'.heap[w.heap.size]? = wa.heap[w.heap.size]? := fun y W w' ht hq => by
        obtain ⟨v2, h2, t2, f2⟩ := hq
        exact ((touch_trans ht t2).block _ hwr1 hfar1).trans hbr
      cases z1 with
      | true =>
        go_wp2_with fail
        have hy := HY.out true
        obtain ⟨hW, tW⟩ := hy
        generalize wr.setCell ⟨g, 1, none⟩ (Value.bool true) = W at hW tW ⊢
        obtain ⟨d0, d1⟩ := hW.cells
        have hgW := hW.lt
        have HW := Lib.hid (And.intro hW tW)
        have hbd : Below W.heap.size W W.drew := (Below.refl _ _).drew
        clear hW tW c0 c1 fz1 d1
        have tok1 : True := trivial
        go_region_law (first
            | (have _t := tok1; clear tok1; go_simp; go_at_call 31; refine (Put_own none 0 0 0 [] x s _ RB.nil_ (Nat.zero_le _) (Nat.le_refl _) (by decide) HX.out.2.1 HX.out.2.2).mono ?_; rintro e w2 ⟨v2, rfl, o2, b2⟩; have b2 := hbd.trans b2; have e0 := (b2.cell (p := ⟨g, 0, none⟩) hgW).trans d0; obtain ⟨A2, c2, rfl, hc2, r2⟩ := read_own o2 (putR_bytes AllBytes.nil _ _); have hpl := putR_length [] x s; have tok2 : True := trivial)
            | (have _t := tok2; obtain ⟨A3, c3, w3, hrun, hg3, hla3⟩ := put_step HW.out.1 (c := c2) r2 b2 (by have := HL.out; simp only [List.length_nil] at hpl; omega) 28; refine step_append_run (by rfl) (.tmp 31) (.tmp 34) _ _ (by rfl) _ _ (by rfl) (by rfl) hrun ?_; have e3 := (World.cell?_of_block (a := ⟨g, 0, none⟩) hg3).trans d0; have f3 : w3.frozen? ⟨g, 0, none⟩ = false := by simp [World.frozen?, hg3.trans HW.out.1.blk]))
        all_goals
          have HE := Lib.hid (HX.out.1 _ (hfin _ _ _ HW.out.2 hla3))
          have hbr' := Lib.hid (hbk _ _ _ HW.out.2 hla3)
          clear d0 e0 e3 f3 hrun hg3 hla3 o2 r2 HW HX hbd b2 hpl
          try go_wp2_with fail
          go_roundw
          case rel => exact ⟨j + 1, by omega, by go_num, HE, hbr'.out⟩
          case measure => simp [intOf]; omega
      | false =>
        go_wp2_with (go_at_call 30; refine (Right_any _ _ _).mono ?_; rintro e w' ⟨rfl, rfl⟩)
        have hy := HY.out (!rightB x s)
        obtain ⟨hW, tW⟩ := hy
        generalize wr.setCell ⟨g, 1, none⟩ (Value.bool !rightB x s) = W at hW tW ⊢
        obtain ⟨d0, d1⟩ := hW.cells
        have hgW := hW.lt
        have HW := Lib.hid (And.intro hW tW)
        have hbd : Below W.heap.size W W.drew := (Below.refl _ _).drew
        clear hW tW c0 c1 fz1 d1
        have tok1 : True := trivial
        go_region_law (first
            | (have _t := tok1; clear tok1; go_simp; go_at_call 31; refine (Put_own none 0 0 0 [] x s _ RB.nil_ (Nat.zero_le _) (Nat.le_refl _) (by decide) HX.out.2.1 HX.out.2.2).mono ?_; rintro e w2 ⟨v2, rfl, o2, b2⟩; have b2 := hbd.trans b2; have e0 := (b2.cell (p := ⟨g, 0, none⟩) hgW).trans d0; obtain ⟨A2, c2, rfl, hc2, r2⟩ := read_own o2 (putR_bytes AllBytes.nil _ _); have hpl := putR_length [] x s; have tok2 : True := trivial)
            | (have _t := tok2; obtain ⟨A3, c3, w3, hrun, hg3, hla3⟩ := put_step HW.out.1 (c := c2) r2 b2 (by have := HL.out; simp only [List.length_nil] at hpl; omega) 28; refine step_append_run (by rfl) (.tmp 31) (.tmp 34) _ _ (by rfl) _ _ (by rfl) (by rfl) hrun ?_; have e3 := (World.cell?_of_block (a := ⟨g, 0, none⟩) hg3).trans d0; have f3 : w3.frozen? ⟨g, 0, none⟩ = false := by simp [World.frozen?, hg3.trans HW.out.1.blk]))
        all_goals
          have HE := Lib.hid (HX.out.1 _ (hfin _ _ _ HW.out.2 hla3))
          have hbr' := Lib.hid (hbk _ _ _ HW.out.2 hla3)
          clear d0 e0 e3 f3 hrun hg3 hla3 o2 r2 HW HX hbd b2 hpl
          try go_wp2_with fail
          go_roundw
          case rel => exact ⟨j + 1, by omega, by go_num, HE, hbr'.out⟩
          case measure => simp [intOf]; omega
    · obtain rfl : j = n := by omega
      have HE := Lib.hid (show Laid w wr g v (l ++ layL s ns) (z || !allR s ns) by
        have := hla.out
        rw [List.take_of_length_le (by omega)] at this
        obtain ⟨v1, h1, t1, f1⟩ := this
        exact ⟨v1, h1, touch_trans (Touch.of_below HBA.out.1) t1, fun k hk => (f1 k hk).imp_right fun e => by omega⟩)
      clear hla
      go_wp2_with fail
      go_end0
      exact ⟨rfl, HE.out⟩

end Go.Proofs.Ytombdkebjbhacaa
