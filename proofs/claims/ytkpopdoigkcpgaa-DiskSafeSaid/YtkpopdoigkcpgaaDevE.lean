/-
  The program's Write by contract, where a sector is written. Condition: fewer than 2^63 - 1 writes.
-/
import Derived.Test.YtkpopdoigkcpgaaDevD
namespace Go.Proofs.Ytkpopdoigkcpgaa
open Go.RowKit
set_option linter.unusedVariables false

theorem cell_lt {w : World} {b o : Nat} {v : Value} (h : w.cell? ⟨b, o, none⟩ = some v) : b < w.heap.size := by
  rcases Nat.lt_or_ge b w.heap.size with h' | h'
  · exact h'
  · simp [World.cell?, Array.getElem?_eq_none h'] at h
theorem RB.here {w : World} {B n : Nat} {A : Option Addr} {l : List Int} (h : RB w B A n l) : RB w w.heap.size A n l :=
  ⟨h.1, h.2.1, fun hn => by
    obtain ⟨b, off, e, _, hc⟩ := h.2.2 hn
    exact ⟨b, off, e, cell_lt (hc 0 hn), hc⟩⟩
theorem RB.far {w w' : World} {n ab ao : Nat} {l : List Int} {row : Option Nat} (h : RB w w.heap.size (some ⟨ab, ao, none⟩) n l) (hg : w.grownBy w' row) (hne : ∀ x, row = some x → x ≠ ab) : RB w' w'.heap.size (some ⟨ab, ao, none⟩) n l :=
  ⟨h.1, h.2.1, fun hn => by
    obtain ⟨b, off, e, hb, hc⟩ := h.2.2 hn
    cases e
    exact ⟨ab, ao, rfl, Nat.lt_of_lt_of_le hb hg.size, fun j hj => (World.cell?_of_block (a := ⟨ab, ao + j, none⟩) (hg.block ab hb (fun e => hne ab e.symm rfl))).trans (hc j hj)⟩⟩

/-- What the pending list's append and the store of it leave. -/
theorem pend_stored {w X w3 : World} {F : Nat → Prop} {b sb fb i : Nat} {left : Int} {pv v3 : Value} {sN fN : Nat} {sf ff : Int → Option Value} {S : DS} {wr : Nat} (hrow : X.rowIs b 61 7 (diskRow left false S.n sb fb pv wr)) (hrest : Rest X (FN F w) sb fb pv S.n S.safe S.last S.pend sN fN sf ff) (hX : w.heap.size ≤ X.heap.size)
    (hown : w3.ownsRow 0 3 1 v3 (S.pend.length + 1) (((S.pend.map Int.ofNat) ++ [(i : Int)]).map (Value.int .i64))) (hg : X.grownBy w3 pv.ownBlock) (hloc : v3.ownBlock = pv.ownBlock ∨ v3.ownBlock = some X.heap.size) (hFb : F b) (ht : Touch F w X) :
    w3.cell? ⟨b, 5, none⟩ = some pv ∧ w3.frozen? ⟨b, 5, none⟩ = false ∧ ∃ w4, w3.setCell ⟨b, 5, none⟩ v3 = w4 ∧ w4.rowIs b 61 7 (diskRow left false S.n sb fb v3 wr) ∧ Rest w4 (FN F w) sb fb v3 S.n S.safe S.last (S.pend ++ [i]) sN fN sf ff ∧ Touch F w w4 ∧ (∀ ab ao n l, ¬ F ab → ab < w.heap.size → RB X X.heap.size (some ⟨ab, ao, none⟩) n l → RB w4 w4.heap.size (some ⟨ab, ao, none⟩) n l) := by
  have hpb : ∀ x, pv.ownBlock = some x → x ≠ b ∧ FN F w x := fun x hx => by
    obtain ⟨cur, h1⟩ := own_row hrest.pend x hx
    obtain ⟨cs, h2, _⟩ := hrow
    refine ⟨fun e => ?_, hrest.Fp x hx⟩
    rw [e, h2] at h1
    simp at h1
  have hrow3 := hrow.of_block (hg.block b hrow.lt (fun e => (hpb b e.symm).1 rfl))
  have hv3 : ∀ g, v3.ownBlock = some g → FN F w g := fun g hgg => by
    rcases hloc with e | e
    · exact hrest.Fp g (by rw [← e]; exact hgg)
    · rw [e] at hgg
      injection hgg with hgg
      exact .inr (by omega)
  have hrest3 := hrest.pended (i := i) hg (by simpa using hown) hv3
  have ht3 := ht.grow hg (fun x e => (hpb x e).2)
  refine ⟨hrow3.cell (i := 5) (by decide), hrow3.frozen 5, _, rfl, (hrow3.set 5 v3).congr (diskRow_set5 _ _ _ _ _ _ _ _), hrest3.setCell hrow3 5 v3, ht3.grow (grown_setCell w3 b 5 v3) (fun x e => by injection e with e; rw [← e]; exact .inl hFb), fun ab ao n l hF hlt hr => ?_⟩
  refine (hr.far hg (fun x hx e => ?_)).far (grown_setCell w3 b 5 v3) (fun x hx e => ?_)
  · rcases (hpb x hx).2 with h | h
    · exact hF (e ▸ h)
    · omega
  · injection hx with hx
    exact hF (by rw [← e, ← hx]; exact hFb)

set_option maxHeartbeats 8000000 in
theorem write_new (i : Nat) (A : Option Addr) (c B : Nat) (l : List Int) (w : World) (F : Nat → Prop) (p : Addr) (S : DS) (h : DAt w F p S) (hr : RB w B A 256 l) (hc : 256 ≤ c) (hw : S.writes ≤ 9223372036854775806) (hA : ∀ a, A = some a → ¬ F a.block) (hd : S.down = false) (hi : i < S.n) (ha : S.arm ≠ some 0) (hm : i ∉ S.pend) :
    Calls Try.prog 18 #[.pointer (some p), .int .i64 (i : Int), .slice A 256 c] w fun e w' => e = .returned (.int .i64 0) ∧ After F w w' p (S.put i l) := by
  obtain ⟨b, sb, fb, left, pv, sN, fN, sf, ff, rfl, hrow, hrest, harm, hok, hdom, hcnt, hFb, hlt, c0, c1, c2, c3, c4, c5, c6⟩ := h.parts
  have hn : (0 : Int) < (S.n : Int) := by have := hok.size; omega
  have hnm := hok.size
  have hpl := pend_len_le hok
  rw [hd] at c1 hrow
  have HH := Lib.hid (show decide (0 ≤ (i : Int) ∧ (i : Int) < (S.n : Int)) = true by simp; omega)
  have HB := Lib.hid (blows_go hrow harm ha)
  have hbl : l.length = 256 ∧ AllBytes l := ⟨hr.len, hr.bytes⟩
  have hr0 := hr.here
  obtain ⟨ab, ao, rfl, hab, _⟩ := hr0.at_ (by omega)
  have hAF : ¬ F ab := hA _ rfl
  have hki : -9223372036854775808 ≤ (i : Int) ∧ (i : Int) ≤ 9223372036854775807 := by omega
  have hfr := Lib.hid (show ff (i : Int) = none by 
    have := hdom i hi
    rcases hq : ff (i : Int) with _ | v
    · rfl
    · rw [hq] at this
      exact absurd (this.1 rfl) hm)
  have HD := Lib.hid hdom
  clear h hA hr c0 c3 c5 c6 hdom hlt
  go_enter Try.func18, Try.ntmps18
  go_wp2_with fail
  refine (ready_ok c1 c2 hn).mono ?_
  rintro e w1 ⟨rfl, rfl⟩
  go_wp2_with fail
  refine (hasDev_any _ c2).mono ?_
  rw [HH.out]
  rintro e w1 ⟨rfl, rfl⟩
  go_wp2_with fail
  refine HB.out.mono ?_
  rintro e w1 ⟨left', rfl, hrow1, harm1, hg1, hs1⟩
  have hrest1 : Rest w1 (FN F w) sb fb pv S.n S.safe S.last S.pend sN fN sf ff := hrest.keep (fun _ h _ => .inl h) (fun k _ hk hne => hg1.block k hk (fun e => by
    obtain ⟨cs, h2, _⟩ := hrow
    have : k = b := by injection e
    subst this
    exact hne cs h2))
  have ht1 : Touch F w w1 := (Touch.refl F w).grow hg1 (fun x e => by injection e with e; rw [← e]; exact .inl hFb)
  have hr1 := hr0.far hg1 (fun x e e' => by injection e with e; exact hAF (by rw [← e', ← e]; exact hFb))
  have d4 : w1.cell? ⟨b, 4, none⟩ = some (.map (some fb)) := hrow1.cell (i := 4) (by decide)
  have d5 : w1.cell? ⟨b, 5, none⟩ = some pv := hrow1.cell (i := 5) (by decide)
  have q1 := hrest1.freshM.look Try.underlying59 (zero_slice w1) hki
  have hS1 := Lib.hid hs1
  clear hs1
  have hRow := Lib.hid hrow1
  have hRest := Lib.hid hrest1
  have hR1 := Lib.hid hr1
  have hT1 := Lib.hid ht1
  have hArm1 := Lib.hid harm1
  clear hrow hrest HB HH hr0 c1 c2 c4 hrow1 hrest1 hr1 ht1 hg1 harm1 harm hn
  have hz : w1.heap.size = w1.heap.size := rfl
  rw [hfr.out] at q1
  simp only [Option.getD_none, Option.isSome_none] at q1
  have hX : Below w1.heap.size w1 (w1.alloc (.cells #[.int .i64 (i : Int)] 3)) := (Below.refl _ _).alloc (Nat.le_refl _) _
  have hRX := hRest.out.below hX
  have hrX := hRow.out.of_block (hX.block _ hRow.out.lt)
  have hpX := hRX.pend
  obtain ⟨Ap, kp, rfl, hkp⟩ := int_own_shape hpX
  have hbX : (w1.alloc (.cells #[.int .i64 (i : Int)] 3)).heap[w1.heap.size]? = some (.cells #[.int .i64 (i : Int)] 3) := heap_alloc_new _ _
  have hwX : w.heap.size ≤ (w1.alloc (.cells #[.int .i64 (i : Int)] 3)).heap.size := by have := hS1.out; simp; omega
  have htX := hT1.out.grow (grown_below hX) (fun x e => by cases e)
  have hr8X := hR1.out.far (grown_below hX) (fun x e => by cases e)
  have HPS := fun v3 w3 h1 h2 h3 => pend_stored (w3 := w3) (v3 := v3) (i := i) hrX hRX hwX h1 h2 h3 hFb htX
  have HPX := Lib.hid HPS
  have HR8 := Lib.hid hr8X
  clear hRX hrX htX hr8X HPS hX hz hwX
  go_wp2_with (at_builtin; refine wpList_append_pend rfl _ _ rfl _ S.pend.length (S.pend.map Int.ofNat) rfl w1.heap.size (i : Int) _ rfl hpX hbX (by omega) ?_; intro A3 k3 w3 hown3 hg3 hloc3; obtain ⟨d5', f5', w4, hw4, hrow4, hrest4, ht4, hr4⟩ := HPX.out _ w3 hown3 hg3 hloc3; have hr4 := hr4 _ _ _ _ hAF hab HR8.out; clear hown3 hg3 hloc3)
  have e4 : w4.drew.cell? ⟨b, 4, none⟩ = some (.map (some fb)) := hrow4.cell (i := 4) (by decide)
  have hr4d : RB w4.drew w4.drew.heap.size (some ⟨ab, ao, none⟩) 256 l := hr4.drew
  have HW := Lib.hid (fun w5 v hb hown => write_end (w4 := w4.drew) (w5 := w5) (v := v) (pl := S.pend ++ [i]) hok hd hi hbl (by rw [if_neg hm]) hw hrow4 (hrest4.keep (fun _ h _ => h) (fun _ _ _ _ => rfl)) hArm1.out HD.out ⟨hcnt.1, hcnt.2.1⟩ hFb ⟨ht4.os, ht4.tape, ht4.output, ht4.size, ht4.block⟩ hb hown)
  clear hrow4 hrest4 hpX hbX d4 d5 d5' f5' q1 hw4 hr4 ht4
  go_region_with
    (go_at_call 39; refine (CloneB_own c hr4d (Nat.le_refl _) (by decide)).mono ?_; rintro e w5 ⟨A5, k5, rfl, _, hown5, hb5⟩; obtain ⟨w6, hrun6, g4, g6, f6, HE⟩ := HW.out w5 _ hb5 hown5; clear hown5 hb5)
  all_goals go_wp2
  all_goals go_ret
  all_goals exact ⟨rfl, HE.out⟩

set_option maxHeartbeats 8000000 in
theorem write_old (i : Nat) (A : Option Addr) (c B : Nat) (l : List Int) (w : World) (F : Nat → Prop) (p : Addr) (S : DS) (h : DAt w F p S) (hr : RB w B A 256 l) (hc : 256 ≤ c) (hw : S.writes ≤ 9223372036854775806) (hA : ∀ a, A = some a → ¬ F a.block) (hd : S.down = false) (hi : i < S.n) (ha : S.arm ≠ some 0) (hm : i ∈ S.pend) :
    Calls Try.prog 18 #[.pointer (some p), .int .i64 (i : Int), .slice A 256 c] w fun e w' => e = .returned (.int .i64 0) ∧ After F w w' p (S.put i l) := by
  obtain ⟨b, sb, fb, left, pv, sN, fN, sf, ff, rfl, hrow, hrest, harm, hok, hdom, hcnt, hFb, hlt, c0, c1, c2, c3, c4, c5, c6⟩ := h.parts
  have hn : (0 : Int) < (S.n : Int) := by have := hok.size; omega
  have hnm := hok.size
  have hpl := pend_len_le hok
  rw [hd] at c1 hrow
  have HH := Lib.hid (show decide (0 ≤ (i : Int) ∧ (i : Int) < (S.n : Int)) = true by simp; omega)
  have HB := Lib.hid (blows_go hrow harm ha)
  have hbl : l.length = 256 ∧ AllBytes l := ⟨hr.len, hr.bytes⟩
  have hr0 := hr.here
  obtain ⟨ab, ao, rfl, hab, _⟩ := hr0.at_ (by omega)
  have hAF : ¬ F ab := hA _ rfl
  have hki : -9223372036854775808 ≤ (i : Int) ∧ (i : Int) ≤ 9223372036854775807 := by omega
  have hfr := Lib.hid (show (ff (i : Int)).isSome = true by
    exact (hdom i hi).2 hm)
  have HD := Lib.hid hdom
  clear h hA hr c0 c3 c5 c6 hdom hlt
  go_enter Try.func18, Try.ntmps18
  go_wp2_with fail
  refine (ready_ok c1 c2 hn).mono ?_
  rintro e w1 ⟨rfl, rfl⟩
  go_wp2_with fail
  refine (hasDev_any _ c2).mono ?_
  rw [HH.out]
  rintro e w1 ⟨rfl, rfl⟩
  go_wp2_with fail
  refine HB.out.mono ?_
  rintro e w1 ⟨left', rfl, hrow1, harm1, hg1, hs1⟩
  have hrest1 : Rest w1 (FN F w) sb fb pv S.n S.safe S.last S.pend sN fN sf ff := hrest.keep (fun _ h _ => .inl h) (fun k _ hk hne => hg1.block k hk (fun e => by
    obtain ⟨cs, h2, _⟩ := hrow
    have : k = b := by injection e
    subst this
    exact hne cs h2))
  have ht1 : Touch F w w1 := (Touch.refl F w).grow hg1 (fun x e => by injection e with e; rw [← e]; exact .inl hFb)
  have hr1 := hr0.far hg1 (fun x e e' => by injection e with e; exact hAF (by rw [← e', ← e]; exact hFb))
  have d4 : w1.cell? ⟨b, 4, none⟩ = some (.map (some fb)) := hrow1.cell (i := 4) (by decide)
  have d5 : w1.cell? ⟨b, 5, none⟩ = some pv := hrow1.cell (i := 5) (by decide)
  have q1 := hrest1.freshM.look Try.underlying59 (zero_slice w1) hki
  have hS1 := Lib.hid hs1
  clear hs1
  have hRow := Lib.hid hrow1
  have hRest := Lib.hid hrest1
  have hR1 := Lib.hid hr1
  have hT1 := Lib.hid ht1
  have hArm1 := Lib.hid harm1
  clear hrow hrest HB HH hr0 c1 c2 c4 hrow1 hrest1 hr1 ht1 hg1 harm1 harm hn
  obtain ⟨v0, hv0⟩ := Option.isSome_iff_exists.1 hfr.out
  rw [hv0] at q1
  simp only [Option.getD_some, Option.isSome_some] at q1
  go_wp2_with fail
  have hrow4 := hRow.out
  have hrest4 := hRest.out
  have ht4 := hT1.out
  have hr4 := hR1.out
  generalize w1 = w4 at *
  have e4 : w4.drew.cell? ⟨b, 4, none⟩ = some (.map (some fb)) := hrow4.cell (i := 4) (by decide)
  have hr4d : RB w4.drew w4.drew.heap.size (some ⟨ab, ao, none⟩) 256 l := hr4.drew
  have HW := Lib.hid (fun w5 v hb hown => write_end (w4 := w4.drew) (w5 := w5) (v := v) (pl := S.pend) hok hd hi hbl (by rw [if_pos hm]) hw hrow4 (hrest4.keep (fun _ h _ => h) (fun _ _ _ _ => rfl)) hArm1.out HD.out ⟨hcnt.1, hcnt.2.1⟩ hFb ⟨ht4.os, ht4.tape, ht4.output, ht4.size, ht4.block⟩ hb hown)
  clear hrow4 hrest4 d4 d5 q1 hr4 ht4
  go_region_with
    (go_at_call 39; refine (CloneB_own c hr4d (Nat.le_refl _) (by decide)).mono ?_; rintro e w5 ⟨A5, k5, rfl, _, hown5, hb5⟩; obtain ⟨w6, hrun6, g4, g6, f6, HE⟩ := HW.out w5 _ hb5 hown5; clear hown5 hb5)
  all_goals go_wp2
  all_goals go_ret
  all_goals exact ⟨rfl, HE.out⟩

end Go.Proofs.Ytkpopdoigkcpgaa
