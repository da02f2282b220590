/-
  The texts DevE, DevF, DevG, DevH, DevI joined. Conditions: those that each part says at its head.
-/
import Derived.Test.YtinhdimalhfgkaaGreatDoorG12

/-
  The program's Write by contract, where a sector is written. Condition: fewer than 2^63 - 1 writes.
-/
namespace Go.Proofs.YtinhdimalhfgkaaGreatDoor
open Go.RowKit
set_option maxRecDepth 100000
set_option linter.unusedVariables false

theorem cell_lt {w : World} {b o : Nat} {v : Value} (h : w.cell? ⟨b, o, none⟩ = some v) : b < w.heap.size := by
  rcases Nat.lt_or_ge b w.heap.size with h' | h'
  · exact h'
  · simp [World.cell?, Array.getElem?_eq_none h'] at h
theorem RB.here {w : World} {B n : Nat} {A : Option Addr} {l : List Int} (h : RB w B A n l) : RB w w.heap.size A n l :=
  ⟨h.1, h.2.1, fun hn => by
    obtain ⟨b, off, e, _, hc⟩ := h.2.2 hn
    exact ⟨b, off, e, cell_lt (hc 0 hn), hc⟩⟩
theorem RB.far {w w' : World} {n ab ao : Nat} {l : List Int} {row : Option Nat} (h : RB w w.heap.size (some ⟨ab, ao, none⟩) n l) (hg : w.grownBy w' row) (hne : ∀ x, row = some x → x ≠ ab) : RB w' w'.heap.size (some ⟨ab, ao, none⟩) n l :=
  ⟨h.1, h.2.1, fun hn => by
    obtain ⟨b, off, e, hb, hc⟩ := h.2.2 hn
    cases e
    exact ⟨ab, ao, rfl, Nat.lt_of_lt_of_le hb hg.size, fun j hj => (World.cell?_of_block (a := ⟨ab, ao + j, none⟩) (hg.block ab hb (fun e => hne ab e.symm rfl))).trans (hc j hj)⟩⟩

/-- What the pending list's append and the store of it leave. -/
theorem pend_stored {w X w3 : World} {F : Nat → Prop} {b sb fb i : Nat} {left : Int} {pv v3 : Value} {sN fN : Nat} {sf ff : Int → Option Value} {S : DS} {wr : Nat} (hrow : X.rowIs b 125 7 (diskRow left false S.n sb fb pv wr)) (hrest : Rest X (FN F w) sb fb pv S.n S.safe S.last S.pend sN fN sf ff) (hX : w.heap.size ≤ X.heap.size)
    (hown : w3.ownsRow 0 3 1 v3 (S.pend.length + 1) (((S.pend.map Int.ofNat) ++ [(i : Int)]).map (Value.int .i64))) (hg : X.grownBy w3 pv.ownBlock) (hloc : v3.ownBlock = pv.ownBlock ∨ v3.ownBlock = some X.heap.size) (hFb : F b) (ht : Touch F w X) :
    w3.cell? ⟨b, 5, none⟩ = some pv ∧ w3.frozen? ⟨b, 5, none⟩ = false ∧ ∃ w4, w3.setCell ⟨b, 5, none⟩ v3 = w4 ∧ w4.rowIs b 125 7 (diskRow left false S.n sb fb v3 wr) ∧ Rest w4 (FN F w) sb fb v3 S.n S.safe S.last (S.pend ++ [i]) sN fN sf ff ∧ Touch F w w4 ∧ (∀ ab ao n l, ¬ F ab → ab < w.heap.size → RB X X.heap.size (some ⟨ab, ao, none⟩) n l → RB w4 w4.heap.size (some ⟨ab, ao, none⟩) n l) := by
  have hpb : ∀ x, pv.ownBlock = some x → x ≠ b ∧ FN F w x := fun x hx => by
    obtain ⟨cur, h1⟩ := own_row hrest.pend x hx
    obtain ⟨cs, h2, _⟩ := hrow
    refine ⟨fun e => ?_, hrest.Fp x hx⟩
    rw [e, h2] at h1
    simp at h1
  have hrow3 := hrow.of_block (hg.block b hrow.lt (fun e => (hpb b e.symm).1 rfl))
  have hv3 : ∀ g, v3.ownBlock = some g → FN F w g := fun g hgg => by
    rcases hloc with e | e
    · exact hrest.Fp g (by rw [← e]; exact hgg)
    · rw [e] at hgg
      injection hgg with hgg
      exact .inr (by omega)
  have hrest3 := hrest.pended (i := i) hg (by simpa using hown) hv3
  have ht3 := ht.grow hg (fun x e => (hpb x e).2)
  refine ⟨hrow3.cell (i := 5) (by decide), hrow3.frozen 5, _, rfl, (hrow3.set 5 v3).congr (diskRow_set5 _ _ _ _ _ _ _ _), hrest3.setCell hrow3 5 v3, ht3.grow (grown_setCell w3 b 5 v3) (fun x e => by injection e with e; rw [← e]; exact .inl hFb), fun ab ao n l hF hlt hr => ?_⟩
  refine (hr.far hg (fun x hx e => ?_)).far (grown_setCell w3 b 5 v3) (fun x hx e => ?_)
  · rcases (hpb x hx).2 with h | h
    · exact hF (e ▸ h)
    · omega
  · injection hx with hx
    exact hF (by rw [← e, ← hx]; exact hFb)

set_option maxHeartbeats 8000000 in
theorem write_new (i : Nat) (A : Option Addr) (c B : Nat) (l : List Int) (w : World) (F : Nat → Prop) (p : Addr) (S : DS) (h : DAt w F p S) (hr : RB w B A 256 l) (hc : 256 ≤ c) (hw : S.writes ≤ 9223372036854775806) (hA : ∀ a, A = some a → ¬ F a.block) (hd : S.down = false) (hi : i < S.n) (ha : S.arm ≠ some 0) (hm : i ∉ S.pend) :
    Calls Tryz.prog 131 #[.pointer (some p), .int .i64 (i : Int), .slice A 256 c] w fun e w' => e = .returned (.int .i64 0) ∧ After F w w' p (S.put i l) := by
  obtain ⟨b, sb, fb, left, pv, sN, fN, sf, ff, rfl, hrow, hrest, harm, hok, hdom, hcnt, hFb, hlt, c0, c1, c2, c3, c4, c5, c6⟩ := h.parts
  have hn : (0 : Int) < (S.n : Int) := by have := hok.size; omega
  have hnm := hok.size
  have hpl := pend_len_le hok
  rw [hd] at c1 hrow
  have HH := Lib.hid (show decide (0 ≤ (i : Int) ∧ (i : Int) < (S.n : Int)) = true by simp; omega)
  have HB := Lib.hid (blows_go hrow harm ha)
  have hbl : l.length = 256 ∧ AllBytes l := ⟨hr.len, hr.bytes⟩
  have hr0 := hr.here
  obtain ⟨ab, ao, rfl, hab, _⟩ := hr0.at_ (by omega)
  have hAF : ¬ F ab := hA _ rfl
  have hki : -9223372036854775808 ≤ (i : Int) ∧ (i : Int) ≤ 9223372036854775807 := by omega
  have hfr := Lib.hid (show ff (i : Int) = none by 
    have := hdom i hi
    rcases hq : ff (i : Int) with _ | v
    · rfl
    · rw [hq] at this
      exact absurd (this.1 rfl) hm)
  have HD := Lib.hid hdom
  clear h hA hr c0 c3 c5 c6 hdom hlt
  go_enter Tryz.func131, Tryz.ntmps131
  go_wp2_with fail
  refine (ready_ok c1 c2 hn).mono ?_
  rintro e w1 ⟨rfl, rfl⟩
  go_wp2_with fail
  refine (hasDev_any _ c2).mono ?_
  rw [HH.out]
  rintro e w1 ⟨rfl, rfl⟩
  go_wp2_with fail
  refine HB.out.mono ?_
  rintro e w1 ⟨left', rfl, hrow1, harm1, hg1, hs1⟩
  have hrest1 : Rest w1 (FN F w) sb fb pv S.n S.safe S.last S.pend sN fN sf ff := hrest.keep (fun _ h _ => .inl h) (fun k _ hk hne => hg1.block k hk (fun e => by
    obtain ⟨cs, h2, _⟩ := hrow
    have : k = b := by injection e
    subst this
    exact hne cs h2))
  have ht1 : Touch F w w1 := (Touch.refl F w).grow hg1 (fun x e => by injection e with e; rw [← e]; exact .inl hFb)
  have hr1 := hr0.far hg1 (fun x e e' => by injection e with e; exact hAF (by rw [← e', ← e]; exact hFb))
  have d4 : w1.cell? ⟨b, 4, none⟩ = some (.map (some fb)) := hrow1.cell (i := 4) (by decide)
  have d5 : w1.cell? ⟨b, 5, none⟩ = some pv := hrow1.cell (i := 5) (by decide)
  have q1 := hrest1.freshM.look Tryz.underlying123 (zero_slice w1) hki
  have hS1 := Lib.hid hs1
  clear hs1
  have hRow := Lib.hid hrow1
  have hRest := Lib.hid hrest1
  have hR1 := Lib.hid hr1
  have hT1 := Lib.hid ht1
  have hArm1 := Lib.hid harm1
  clear hrow hrest HB HH hr0 c1 c2 c4 hrow1 hrest1 hr1 ht1 hg1 harm1 harm hn
  have hz : w1.heap.size = w1.heap.size := rfl
  rw [hfr.out] at q1
  simp only [Option.getD_none, Option.isSome_none] at q1
  have hX : Below w1.heap.size w1 (w1.alloc (.cells #[.int .i64 (i : Int)] 3)) := (Below.refl _ _).alloc (Nat.le_refl _) _
  have hRX := hRest.out.below hX
  have hrX := hRow.out.of_block (hX.block _ hRow.out.lt)
  have hpX := hRX.pend
  obtain ⟨Ap, kp, rfl, hkp⟩ := int_own_shape hpX
  have hbX : (w1.alloc (.cells #[.int .i64 (i : Int)] 3)).heap[w1.heap.size]? = some (.cells #[.int .i64 (i : Int)] 3) := heap_alloc_new _ _
  have hwX : w.heap.size ≤ (w1.alloc (.cells #[.int .i64 (i : Int)] 3)).heap.size := by have := hS1.out; simp; omega
  have htX := hT1.out.grow (grown_below hX) (fun x e => by cases e)
  have hr8X := hR1.out.far (grown_below hX) (fun x e => by cases e)
  have HPS := fun v3 w3 h1 h2 h3 => pend_stored (w3 := w3) (v3 := v3) (i := i) hrX hRX hwX h1 h2 h3 hFb htX
  have HPX := Lib.hid HPS
  have HR8 := Lib.hid hr8X
  clear hRX hrX htX hr8X HPS hX hz hwX
  go_wp2_with (at_builtin; refine wpList_append_pend rfl _ _ rfl _ S.pend.length (S.pend.map Int.ofNat) rfl w1.heap.size (i : Int) _ rfl hpX hbX (by omega) ?_; intro A3 k3 w3 hown3 hg3 hloc3; obtain ⟨d5', f5', w4, hw4, hrow4, hrest4, ht4, hr4⟩ := HPX.out _ w3 hown3 hg3 hloc3; have hr4 := hr4 _ _ _ _ hAF hab HR8.out; clear hown3 hg3 hloc3)
  have e4 : w4.drew.cell? ⟨b, 4, none⟩ = some (.map (some fb)) := hrow4.cell (i := 4) (by decide)
  have hr4d : RB w4.drew w4.drew.heap.size (some ⟨ab, ao, none⟩) 256 l := hr4.drew
  have HW := Lib.hid (fun w5 v hb hown => write_end (w4 := w4.drew) (w5 := w5) (v := v) (pl := S.pend ++ [i]) hok hd hi hbl (by rw [if_neg hm]) hw hrow4 (hrest4.keep (fun _ h _ => h) (fun _ _ _ _ => rfl)) hArm1.out HD.out ⟨hcnt.1, hcnt.2.1⟩ hFb ⟨ht4.os, ht4.tape, ht4.output, ht4.size, ht4.block⟩ hb hown)
  clear hrow4 hrest4 hpX hbX d4 d5 d5' f5' q1 hw4 hr4 ht4
  go_region_with
    (go_at_call 99; refine (CloneB_own c hr4d (Nat.le_refl _) (by decide)).mono ?_; rintro e w5 ⟨A5, k5, rfl, _, hown5, hb5⟩; obtain ⟨w6, hrun6, g4, g6, f6, HE⟩ := HW.out w5 _ hb5 hown5; clear hown5 hb5)
  all_goals go_wp2
  all_goals go_ret
  all_goals exact ⟨rfl, HE.out⟩

set_option maxHeartbeats 8000000 in
theorem write_old (i : Nat) (A : Option Addr) (c B : Nat) (l : List Int) (w : World) (F : Nat → Prop) (p : Addr) (S : DS) (h : DAt w F p S) (hr : RB w B A 256 l) (hc : 256 ≤ c) (hw : S.writes ≤ 9223372036854775806) (hA : ∀ a, A = some a → ¬ F a.block) (hd : S.down = false) (hi : i < S.n) (ha : S.arm ≠ some 0) (hm : i ∈ S.pend) :
    Calls Tryz.prog 131 #[.pointer (some p), .int .i64 (i : Int), .slice A 256 c] w fun e w' => e = .returned (.int .i64 0) ∧ After F w w' p (S.put i l) := by
  obtain ⟨b, sb, fb, left, pv, sN, fN, sf, ff, rfl, hrow, hrest, harm, hok, hdom, hcnt, hFb, hlt, c0, c1, c2, c3, c4, c5, c6⟩ := h.parts
  have hn : (0 : Int) < (S.n : Int) := by have := hok.size; omega
  have hnm := hok.size
  have hpl := pend_len_le hok
  rw [hd] at c1 hrow
  have HH := Lib.hid (show decide (0 ≤ (i : Int) ∧ (i : Int) < (S.n : Int)) = true by simp; omega)
  have HB := Lib.hid (blows_go hrow harm ha)
  have hbl : l.length = 256 ∧ AllBytes l := ⟨hr.len, hr.bytes⟩
  have hr0 := hr.here
  obtain ⟨ab, ao, rfl, hab, _⟩ := hr0.at_ (by omega)
  have hAF : ¬ F ab := hA _ rfl
  have hki : -9223372036854775808 ≤ (i : Int) ∧ (i : Int) ≤ 9223372036854775807 := by omega
  have hfr := Lib.hid (show (ff (i : Int)).isSome = true by
    exact (hdom i hi).2 hm)
  have HD := Lib.hid hdom
  clear h hA hr c0 c3 c5 c6 hdom hlt
  go_enter Tryz.func131, Tryz.ntmps131
  go_wp2_with fail
  refine (ready_ok c1 c2 hn).mono ?_
  rintro e w1 ⟨rfl, rfl⟩
  go_wp2_with fail
  refine (hasDev_any _ c2).mono ?_
  rw [HH.out]
  rintro e w1 ⟨rfl, rfl⟩
  go_wp2_with fail
  refine HB.out.mono ?_
  rintro e w1 ⟨left', rfl, hrow1, harm1, hg1, hs1⟩
  have hrest1 : Rest w1 (FN F w) sb fb pv S.n S.safe S.last S.pend sN fN sf ff := hrest.keep (fun _ h _ => .inl h) (fun k _ hk hne => hg1.block k hk (fun e => by
    obtain ⟨cs, h2, _⟩ := hrow
    have : k = b := by injection e
    subst this
    exact hne cs h2))
  have ht1 : Touch F w w1 := (Touch.refl F w).grow hg1 (fun x e => by injection e with e; rw [← e]; exact .inl hFb)
  have hr1 := hr0.far hg1 (fun x e e' => by injection e with e; exact hAF (by rw [← e', ← e]; exact hFb))
  have d4 : w1.cell? ⟨b, 4, none⟩ = some (.map (some fb)) := hrow1.cell (i := 4) (by decide)
  have d5 : w1.cell? ⟨b, 5, none⟩ = some pv := hrow1.cell (i := 5) (by decide)
  have q1 := hrest1.freshM.look Tryz.underlying123 (zero_slice w1) hki
  have hS1 := Lib.hid hs1
  clear hs1
  have hRow := Lib.hid hrow1
  have hRest := Lib.hid hrest1
  have hR1 := Lib.hid hr1
  have hT1 := Lib.hid ht1
  have hArm1 := Lib.hid harm1
  clear hrow hrest HB HH hr0 c1 c2 c4 hrow1 hrest1 hr1 ht1 hg1 harm1 harm hn
  obtain ⟨v0, hv0⟩ := Option.isSome_iff_exists.1 hfr.out
  rw [hv0] at q1
  simp only [Option.getD_some, Option.isSome_some] at q1
  go_wp2_with fail
  have hrow4 := hRow.out
  have hrest4 := hRest.out
  have ht4 := hT1.out
  have hr4 := hR1.out
  generalize w1 = w4 at *
  have e4 : w4.drew.cell? ⟨b, 4, none⟩ = some (.map (some fb)) := hrow4.cell (i := 4) (by decide)
  have hr4d : RB w4.drew w4.drew.heap.size (some ⟨ab, ao, none⟩) 256 l := hr4.drew
  have HW := Lib.hid (fun w5 v hb hown => write_end (w4 := w4.drew) (w5 := w5) (v := v) (pl := S.pend) hok hd hi hbl (by rw [if_pos hm]) hw hrow4 (hrest4.keep (fun _ h _ => h) (fun _ _ _ _ => rfl)) hArm1.out HD.out ⟨hcnt.1, hcnt.2.1⟩ hFb ⟨ht4.os, ht4.tape, ht4.output, ht4.size, ht4.block⟩ hb hown)
  clear hrow4 hrest4 d4 d5 q1 hr4 ht4
  go_region_with
    (go_at_call 99; refine (CloneB_own c hr4d (Nat.le_refl _) (by decide)).mono ?_; rintro e w5 ⟨A5, k5, rfl, _, hown5, hb5⟩; obtain ⟨w6, hrun6, g4, g6, f6, HE⟩ := HW.out w5 _ hb5 hown5; clear hown5 hb5)
  all_goals go_wp2
  all_goals go_ret
  all_goals exact ⟨rfl, HE.out⟩

end Go.Proofs.YtinhdimalhfgkaaGreatDoor

/-
  The program's Write by contract, whatever it answers. Condition: fewer than 2^63 - 1 writes.
-/
namespace Go.Proofs.YtinhdimalhfgkaaGreatDoor
open Go.RowKit
set_option maxRecDepth 100000
set_option linter.unusedVariables false

set_option maxHeartbeats 800000 in
theorem write_downs (i : Int) (A : Option Addr) (n c : Nat) (w : World) (F : Nat → Prop) (p : Addr) (S : DS) (h : DAt w F p S) (hd : S.down = true) :
    Calls Tryz.prog 131 #[.pointer (some p), .int .i64 i, .slice A n c] w fun e w' => e = .returned (.int .i64 5) ∧ w = w' := by
  obtain ⟨b, sb, fb, left, pv, sN, fN, sf, ff, rfl, hrow, hrest, harm, hok, hdom, hcnt, hFb, hlt, c0, c1, c2, c3, c4, c5, c6⟩ := h.parts
  have hn : (0 : Int) < (S.n : Int) := by have := hok.size; omega
  rw [hd] at c1
  clear h hrow hrest hdom hlt
  go_enter Tryz.func131, Tryz.ntmps131
  go_wp2_with fail
  refine (ready_down c1 c2 hn).mono ?_
  rintro e w1 ⟨rfl, rfl⟩
  go_wp2
  go_ret
  exact ⟨rfl, rfl⟩

set_option maxHeartbeats 800000 in
theorem write_args (i : Int) (A : Option Addr) (n c : Nat) (w : World) (F : Nat → Prop) (p : Addr) (S : DS) (h : DAt w F p S) (hn63 : n ≤ 4096) (hd : S.down = false) (hno : ¬ (S.has i ∧ n = 256)) :
    Calls Tryz.prog 131 #[.pointer (some p), .int .i64 i, .slice A n c] w fun e w' => e = .returned (.int .i64 1) ∧ w = w' := by
  obtain ⟨b, sb, fb, left, pv, sN, fN, sf, ff, rfl, hrow, hrest, harm, hok, hdom, hcnt, hFb, hlt, c0, c1, c2, c3, c4, c5, c6⟩ := h.parts
  have hn : (0 : Int) < (S.n : Int) := by have := hok.size; omega
  rw [hd] at c1
  clear h hrow hrest hdom hlt
  by_cases hi : S.has i
  · have HH := Lib.hid (show decide (0 ≤ i ∧ i < (S.n : Int)) = true by simpa [DS.has] using hi)
    have hne : n ≠ 256 := fun e => hno ⟨hi, e⟩
    have k : ((n : Int) != 256) = true := by simp; omega
    clear hi hno
    go_enter Tryz.func131, Tryz.ntmps131
    go_wp2_with fail
    refine (ready_ok c1 c2 hn).mono ?_
    rintro e w1 ⟨rfl, rfl⟩
    go_wp2_with fail
    refine (hasDev_any _ c2).mono ?_
    rw [HH.out]
    rintro e w1 ⟨rfl, rfl⟩
    go_wp2
    go_ret
    exact ⟨rfl, rfl⟩
  · have HH := Lib.hid (show decide (0 ≤ i ∧ i < (S.n : Int)) = false by simpa [DS.has] using hi)
    clear hi hno
    go_enter Tryz.func131, Tryz.ntmps131
    go_wp2_with fail
    refine (ready_ok c1 c2 hn).mono ?_
    rintro e w1 ⟨rfl, rfl⟩
    go_wp2_with fail
    refine (hasDev_any _ c2).mono ?_
    rw [HH.out]
    rintro e w1 ⟨rfl, rfl⟩
    go_wp2
    go_ret
    exact ⟨rfl, rfl⟩

set_option maxHeartbeats 800000 in
theorem write_blown (i : Nat) (A : Option Addr) (c : Nat) (w : World) (F : Nat → Prop) (p : Addr) (S : DS) (h : DAt w F p S) (hd : S.down = false) (hi : i < S.n) (ha : S.arm = some 0) :
    Calls Tryz.prog 131 #[.pointer (some p), .int .i64 (i : Int), .slice A 256 c] w fun e w' => e = .returned (.int .i64 5) ∧ After F w w' p { S with down := true } := by
  obtain ⟨b, sb, fb, left, pv, sN, fN, sf, ff, rfl, hrow, hrest, harm, hok, hdom, hcnt, hFb, hlt, c0, c1, c2, c3, c4, c5, c6⟩ := h.parts
  have hn : (0 : Int) < (S.n : Int) := by have := hok.size; omega
  have hnm := hok.size
  rw [hd] at c1 hrow
  have hl : left = 0 := by
    rcases harm.2 with ⟨_, e⟩ | ⟨k, e1, e2⟩
    · rw [ha] at e; cases e
    · rw [ha] at e2
      obtain rfl : 0 = k := by injection e2
      exact e1
  subst hl
  have f1 := hrow.frozen 1
  have HH := Lib.hid (show decide (0 ≤ (i : Int) ∧ (i : Int) < (S.n : Int)) = true by simp; omega)
  have HE : Hid (After F w (w.setCell ⟨b, 1, none⟩ (.bool true)) ⟨b, 0, none⟩ { S with down := true }) := Lib.hid (by
    refine After.mk' (S := { S with down := true }) ((hrow.set 1 (.bool true)).congr (diskRow_set1 _ _ _ _ _ _ _ _)) ((hrest.keep (fun _ h _ => .inl h) (fun _ _ _ _ => rfl)).setCell hrow 1 _) harm ⟨hok.size, hok.safeBytes, hok.lastBytes, hok.pendLt, hok.pendNodup, hok.same⟩ hdom hcnt (.inl hFb) ((Touch.refl F w).grow (grown_setCell w b 1 _) (fun x e => .inl (by injection e with e; rw [← e]; exact hFb))))
  clear h hrow hrest hdom hlt
  go_enter Tryz.func131, Tryz.ntmps131
  go_wp2_with fail
  refine (ready_ok c1 c2 hn).mono ?_
  rintro e w1 ⟨rfl, rfl⟩
  go_wp2_with fail
  refine (hasDev_any _ c2).mono ?_
  rw [HH.out]
  rintro e w1 ⟨rfl, rfl⟩
  go_wp2_with fail
  refine (blows_yes c0 c1 f1).mono ?_
  rintro e w1 ⟨rfl, rfl⟩
  go_wp2
  go_ret
  exact ⟨rfl, HE.out⟩

theorem write_dev (i : Int) (A : Option Addr) (n c B : Nat) (l : List Int) (w : World) (F : Nat → Prop) (p : Addr) (S : DS) (h : DAt w F p S) (hr : RB w B A n l) (hc : n ≤ c) (hn : n ≤ 4096) (hw : S.writes ≤ 9223372036854775806) (hA : ∀ a, A = some a → ¬ F a.block) :
    Calls Tryz.prog 131 #[.pointer (some p), .int .i64 i, .slice A n c] w fun e w' => e = .returned (.int .i64 (S.writeE i l)) ∧ After F w w' p (S.write i l) := by
  by_cases hd : S.down = true
  · obtain ⟨e1, e2⟩ := writeE_down (i := i) (l := l) hd
    rw [e1, e2]
    refine (write_downs i A n c w F p S h hd).mono ?_
    rintro e w' ⟨rfl, rfl⟩
    exact ⟨rfl, After.same h⟩
  have hd' : S.down = false := by simpa using hd
  by_cases hi : S.has i ∧ n = 256
  · obtain ⟨⟨h0, h1⟩, rfl⟩ := hi
    obtain ⟨k, rfl⟩ := Int.eq_ofNat_of_zero_le h0
    have hk : k < S.n := by omega
    by_cases ha : S.arm = some 0
    · obtain ⟨e1, e2⟩ := writeE_blown hd' hk hr.len ha
      rw [e1, e2]
      exact write_blown k A c w F p S h hd' hk ha
    · obtain ⟨e1, e2⟩ := writeE_yes hd' hk hr.len ha
      rw [e1, e2]
      by_cases hm : k ∈ S.pend
      · exact write_old k A c B l w F p S h hr hc hw hA hd' hk ha hm
      · exact write_new k A c B l w F p S h hr hc hw hA hd' hk ha hm
  · obtain ⟨e1, e2⟩ := writeE_no (i := i) (l := l) hd' (by rw [hr.len]; exact hi)
    rw [e1, e2]
    refine (write_args i A n c w F p S h hn hd' hi).mono ?_
    rintro e w' ⟨rfl, rfl⟩
    exact ⟨rfl, After.same h⟩

end Go.Proofs.YtinhdimalhfgkaaGreatDoor

/-
  The program's settle by contract, over any function value that answers which places are kept. No condition.
-/
namespace Go.Proofs.YtinhdimalhfgkaaGreatDoor
open Go.RowKit
set_option maxRecDepth 100000
set_option linter.unusedVariables false

/-- Whether a sector is kept by the first k places. -/
def Kept (S : DS) (K : Nat → Bool) (k j : Nat) : Prop := ∃ t, t < k ∧ S.pend[t]? = some j ∧ K t = true
open Classical in
/-- What is safe when the first k places were gone through. -/
noncomputable def safeK (S : DS) (K : Nat → Bool) (k : Nat) : Nat → List Int := fun j => if Kept S K k j then S.last j else S.safe j
theorem safeK_start (S : DS) (K : Nat → Bool) : safeK S K 0 = S.safe := by
  funext j
  unfold safeK
  rw [if_neg]
  rintro ⟨t, ht, _⟩
  omega
theorem safeK_skip {S : DS} {K : Nat → Bool} {k : Nat} (h : K k = false) : safeK S K (k + 1) = safeK S K k := by
  funext j
  unfold safeK
  have e : Kept S K (k + 1) j ↔ Kept S K k j := by
    constructor
    · rintro ⟨t, ht, h1, h2⟩
      refine ⟨t, ?_, h1, h2⟩
      rcases Nat.lt_or_ge t k with h' | h'
      · exact h'
      · obtain rfl : t = k := by omega
        rw [h] at h2; cases h2
    · rintro ⟨t, ht, h1, h2⟩
      exact ⟨t, by omega, h1, h2⟩
  by_cases hk : Kept S K k j
  · rw [if_pos hk, if_pos (e.2 hk)]
  · rw [if_neg hk, if_neg (fun h' => hk (e.1 h'))]
theorem safeK_hit {S : DS} {K : Nat → Bool} {k i : Nat} (hp : S.pend[k]? = some i) (h : K k = true) : safeK S K (k + 1) i = S.last i := by
  unfold safeK
  rw [if_pos ⟨k, by omega, hp, h⟩]
theorem safeK_other {S : DS} {K : Nat → Bool} {k i j : Nat} (hp : S.pend[k]? = some i) (hj : j ≠ i) : safeK S K (k + 1) j = safeK S K k j := by
  unfold safeK
  have e : Kept S K (k + 1) j ↔ Kept S K k j := by
    constructor
    · rintro ⟨t, ht, h1, h2⟩
      refine ⟨t, ?_, h1, h2⟩
      rcases Nat.lt_or_ge t k with h' | h'
      · exact h'
      · obtain rfl : t = k := by omega
        rw [hp] at h1
        injection h1 with h1
        exact absurd h1.symm hj
    · rintro ⟨t, ht, h1, h2⟩
      exact ⟨t, by omega, h1, h2⟩
  by_cases hk : Kept S K k j
  · rw [if_pos hk, if_pos (e.2 hk)]
  · rw [if_neg hk, if_neg (fun h' => hk (e.1 h'))]

/-- The disk when all places were gone through. -/
noncomputable def DS.settled (S : DS) (K : Nat → Bool) : DS := { S with safe := safeK S K S.pend.length, last := safeK S K S.pend.length, pend := [] }
theorem safeK_ok {S : DS} (h : S.Ok) (K : Nat → Bool) (k j : Nat) : (safeK S K k j).length = 256 ∧ AllBytes (safeK S K k j) := by
  unfold safeK
  split
  · exact h.lastBytes j
  · exact h.safeBytes j
theorem DS.settled_ok {S : DS} (h : S.Ok) (K : Nat → Bool) : (S.settled K).Ok :=
  ⟨h.size, safeK_ok h K _, safeK_ok h K _, (fun _ hm => by cases hm), List.nodup_nil, fun _ _ => rfl⟩

theorem wpList_clear {w : World} {ops : Array Oper} {rest : List Oper} {o : Oper} {a : Act} {Q : Exit → Act → World → Prop} (hgd : o.guard = none) (x : Operand) (t : TypeId)
    (ho : o.op = .call { callee := .builtin .clear, args := #[x], argTypes := #[t] }) (b n : Nat) (f : Int → Option Value) (e : TypeId) (hx : a.eval x = .map (some b)) (hm : IMap w b n f) (ht : Tryz.prog.underlying t = some (.map 3 e))
    (h : ∀ w', IMap w' b 0 (fun _ => none) → w.grownBy w' (some b) → wpList Tryz.prog ops Q rest (a.put o.dst (.tuple #[])) w') : wpList Tryz.prog ops Q (o :: rest) a w := by
  refine wpList_plain hgd fun K hK => ?_
  obtain ⟨w', hrun, h1, h2⟩ := hm.clear_ ht o.type
  unfold Oper.wp
  simp [execOp, ho, resolve, invoke, builtin, hx, hrun, Result.andThen]
  exact hK _ _ (h w' h1 h2)

section
variable {w : World} {F : Nat → Prop} {b sb fb : Nat} {left : Int} {pv : Value} {sN fN : Nat} {sf ff : Int → Option Value} {S : DS}

/-- What holds of the world between two rounds. -/
structure Mid (w : World) (F : Nat → Prop) (b sb fb : Nat) (left : Int) (pv : Value) (S : DS) (sN fN : Nat) (ff : Int → Option Value) (K : Nat → Bool) (J : World → Prop) (k : Nat) (wr : World) : Prop where
  row : wr.rowIs b 125 7 (diskRow left S.down S.n sb fb pv S.writes)
  rest : ∃ sf', Rest wr (FN F w) sb fb pv S.n (safeK S K k) S.last S.pend (sN + k) fN sf' ff
  touch : Touch F w wr
  inv : J wr

theorem Mid.below {K : Nat → Bool} {J : World → Prop} {k : Nat} {w1 w2 : World} (hJ : ∀ w1 w2 row, J w1 → w1.grownBy w2 row → (∀ x, row = some x → FN F w x) → J w2) (h : Mid w F b sb fb left pv S sN fN ff K J k w1) (hb : Below w1.heap.size w1 w2) : Mid w F b sb fb left pv S sN fN ff K J k w2 := by
  obtain ⟨sf', hr⟩ := h.rest
  exact ⟨h.row.of_block (hb.block _ h.row.lt), ⟨sf', hr.below hb⟩, h.touch.grow (grown_below hb) (fun x e => by cases e), hJ _ _ _ h.inv (grown_below hb) (fun x e => by cases e)⟩

theorem Mid.drew {K : Nat → Bool} {J : World → Prop} {k : Nat} {w1 : World} (hJ : ∀ w1 w2 row, J w1 → w1.grownBy w2 row → (∀ x, row = some x → FN F w x) → J w2) (h : Mid w F b sb fb left pv S sN fN ff K J k w1) : Mid w F b sb fb left pv S sN fN ff K J k w1.drew := by
  obtain ⟨sf', hr⟩ := h.rest
  exact ⟨h.row, ⟨sf', hr.keep (fun _ h _ => h) (fun _ _ _ _ => rfl)⟩, ⟨h.touch.os, h.touch.tape, h.touch.output, h.touch.size, h.touch.block⟩, hJ _ _ none h.inv ⟨rfl, rfl, rfl, Nat.le_refl _, fun _ _ _ => rfl⟩ (fun x e => by cases e)⟩

theorem Mid.skip {K : Nat → Bool} {J : World → Prop} {k : Nat} {w1 : World} (h : Mid w F b sb fb left pv S sN fN ff K J k w1) (hk : K k = false) : Mid w F b sb fb left pv S sN fN ff K J (k + 1) w1 := by
  obtain ⟨sf', hr⟩ := h.rest
  refine ⟨h.row, ⟨sf', ?_⟩, h.touch, h.inv⟩
  rw [safeK_skip hk]
  exact { hr with safeM := hr.safeM.mono (by omega) }

/-- A round that keeps: what its look-up and its store do. -/
theorem Mid.hit {K : Nat → Bool} {J : World → Prop} {k i : Nat} {w1 : World} (hJ : ∀ w1 w2 row, J w1 → w1.grownBy w2 row → (∀ x, row = some x → FN F w x) → J w2) (hFb : F b) (hok : S.Ok) (hdom : ∀ i : Nat, i < S.n → ((ff i).isSome = true ↔ i ∈ S.pend)) (hcnt : sN + fN ≤ S.writes ∧ S.pend.length ≤ fN ∧ S.writes ≤ 9223372036854775807)
    (h : Mid w F b sb fb left pv S sN fN ff K J k w1) (hk : K k = true) (hp : S.pend[k]? = some i) :
    ∃ v w2, (Instr.lookup 123 (.map (some fb)) (.int .i64 (i : Int)) false).run Tryz.prog w1 = .ok v w1 ∧ (Instr.mapUpdate 123 (.map (some sb)) (.int .i64 (i : Int)) v).run Tryz.prog w1 = .ok () w2 ∧ Hid (Mid w F b sb fb left pv S sN fN ff K J (k + 1) w2) := by
  obtain ⟨sf', hr⟩ := h.rest
  have hkl : k < S.pend.length := (List.getElem?_eq_some_iff.1 hp).1
  have him : i ∈ S.pend := List.mem_of_getElem? hp
  have hi := hok.pendLt i him
  have hsz := hok.size
  obtain ⟨v, hv⟩ := Option.isSome_iff_exists.1 ((hdom i hi).2 him)
  have q := hr.freshM.get Tryz.underlying123 (zero_slice w1) (i := (i : Int)) (by omega) hv
  obtain ⟨w2, hrun, hm, hg⟩ := hr.safeM.store Tryz.underlying123 (i := (i : Int)) (by unfold maxLen; omega) (by omega) v
  have hne : b ≠ sb := by
    obtain ⟨es, c, h1⟩ := hr.safeM.block
    obtain ⟨cs, h2, _⟩ := h.row
    intro e
    rw [e, h1] at h2
    cases h2
  refine ⟨v, w2, q, hrun, Lib.hid ⟨h.row.of_block (hg.block b h.row.lt (fun e => hne (by injection e))), ⟨fun j => if j = (i : Int) then some v else sf' j, ?_⟩, h.touch.grow hg (fun x e => by injection e with e; rw [← e]; exact hr.Fs), hJ _ _ _ h.inv hg (fun x e => by injection e with e; rw [← e]; exact hr.Fs)⟩⟩
  refine hr.safed hg hm (safe' := safeK S K (k + 1)) (fun j hj => ?_)
  by_cases e : j = i
  · subst e
    rw [if_pos rfl]
    right
    rw [safeK_hit hp hk]
    exact hr.freshC j hj v hv
  · rw [if_neg (by omega)]
    exact .inl ⟨rfl, safeK_other hp e⟩

/-- The end: the map of what was written last is cleared, the list emptied. -/
theorem Mid.fin {K : Nat → Bool} {J : World → Prop} {w1 w2 : World} {A : Option Addr} {m c : Nat} (hFb : F b) (hok : S.Ok) (harm : ArmIs left S.arm) (hcnt : sN + fN ≤ S.writes ∧ S.pend.length ≤ fN ∧ S.writes ≤ 9223372036854775807)
    (h : Mid w F b sb fb left (.slice A m c) S sN fN ff K J S.pend.length w1) (hm : IMap w2 fb 0 (fun _ => none)) (hg : w1.grownBy w2 (some fb)) (hA : A = none → m = 0 ∧ c = 0) :
    w2.cell? ⟨b, 5, none⟩ = some (.slice A m c) ∧ w2.frozen? ⟨b, 5, none⟩ = false ∧ Hid (After F w (w2.setCell ⟨b, 5, none⟩ (.slice A 0 c)) ⟨b, 0, none⟩ (S.settled K)) := by
  obtain ⟨sf', hr⟩ := h.rest
  have hne : b ≠ fb := by
    obtain ⟨es, c, h1⟩ := hr.freshM.block
    obtain ⟨cs, h2, _⟩ := h.row
    intro e
    rw [e, h1] at h2
    cases h2
  have hrow2 := h.row.of_block (hg.block b h.row.lt (fun e => hne (by injection e)))
  have hr2 := hr.freshed hg hm (last' := safeK S K S.pend.length) (fun i _ v hv => by cases hv)
  have hr3 : Rest w2 (FN F w) sb fb (.slice A 0 c) S.n (safeK S K S.pend.length) (safeK S K S.pend.length) [] (sN + S.pend.length) 0 sf' (fun _ => none) := hr2.emptied (by
    rcases A with _ | ad
    · obtain ⟨rfl, rfl⟩ := hA rfl
      exact .inl ⟨rfl, rfl⟩
    · exact .inr ⟨ad, m, c, rfl, rfl⟩)
  refine ⟨hrow2.cell (i := 5) (by decide), hrow2.frozen 5, Lib.hid ?_⟩
  refine After.mk' (S := S.settled K) ((hrow2.set 5 (.slice A 0 c)).congr (diskRow_set5 _ _ _ _ _ _ _ _)) (hr3.setCell hrow2 5 _) harm (DS.settled_ok hok K) (fun i _ => ?_) ⟨?_, Nat.zero_le _, hcnt.2.2⟩ (.inl hFb) ((h.touch.grow hg (fun x e => by injection e with e; rw [← e]; exact hr.Ff)).grow (grown_setCell w2 b 5 _) (fun x e => by injection e with e; rw [← e]; exact .inl hFb))
  · show (none : Option Value).isSome = true ↔ i ∈ ([] : List Nat)
    simp
  · show sN + S.pend.length + 0 ≤ S.writes
    omega
end

end Go.Proofs.YtinhdimalhfgkaaGreatDoor

/-
  The program's settle by contract, at the two function values that it is called with. No condition.
-/
namespace Go.Proofs.YtinhdimalhfgkaaGreatDoor
open Go.RowKit
set_option maxRecDepth 100000
set_option linter.unusedVariables false

set_option maxHeartbeats 3200000 in
theorem settle_all (K : Nat → Bool) (J : World → Prop) (w : World) (F : Nat → Prop) (p : Addr) (S : DS) (h : DAt w F p S) (hJ0 : J w) (hJ : ∀ w1 w2 row, J w1 → w1.grownBy w2 row → (∀ x, row = some x → FN F w x) → J w2)
    (hf : ∀ (t : Nat) (w1 : World), t < S.pend.length → J w1 → Calls Tryz.prog 195 #[.int .i64 (t : Int)] w1 fun e w2 => e = .returned (.bool (K t)) ∧ Below w1.heap.size w1 w2) :
    Calls Tryz.prog 194 #[.pointer (some p), .func (.func 195) #[] #[]] w fun e w' => e = .returned (.tuple #[]) ∧ After F w w' p (S.settled K) := by
  obtain ⟨b, sb, fb, left, pv, sN, fN, sf, ff, rfl, hrow, hrest, harm, hok, hdom, hcnt, hFb, hlt, c0, c1, c2, c3, c4, c5, c6⟩ := h.parts
  have hnm := hok.size
  have hpl := pend_len_le hok
  obtain ⟨A, c, rfl, hc, hr⟩ := pend_reads hok hrest.pend
  have hM0 : Mid w F b sb fb left (.slice A S.pend.length c) S sN fN ff K J 0 w := ⟨hrow, ⟨sf, by rw [safeK_start]; exact hrest.keep (fun _ h _ => .inl h) (fun _ _ _ _ => rfl)⟩, Touch.refl F w, hJ0⟩
  have HM0 := Lib.hid hM0
  have HF := Lib.hid hf
  have HJ := Lib.hid hJ
  have HD := Lib.hid hdom
  clear h hrow hrest hdom hlt hf hJ hr hM0
  go_enter Tryz.func194, Tryz.ntmps194
  go_wp2
  go_loopw [11] (fun i wr => ∃ k : Nat, k ≤ S.pend.length ∧ i = .int .i64 k ∧ Hid (Mid w F b sb fb left (.slice A S.pend.length c) S sN fN ff K J k wr)) (fun i _ => S.pend.length - (intOf i).toNat)
  case atStart => exact ⟨0, Nat.zero_le _, rfl, HM0⟩
  case round =>
    obtain ⟨k, hk, rfl, hM⟩ := hrel
    by_cases hlt : k < S.pend.length
    · have hlt' : (k : Int) < (S.pend.length : Int) := by omega
      obtain ⟨i, hp⟩ : ∃ i, S.pend[k]? = some i := ⟨_, List.getElem?_eq_getElem hlt⟩
      obtain ⟨sf', hrr⟩ := hM.out.rest
      obtain ⟨A', c', e', _, hri⟩ := pend_reads hok hrr.pend
      cases e'
      obtain ⟨pb, po, rfl, _, hcell⟩ := hri.2.2 (by omega)
      have hck := hcell k hlt
      have hpi : (S.pending[k]?).getD 0 = (i : Int) := by
        unfold DS.pending
        rw [List.getElem?_map, hp]
        rfl
      rw [hpi] at hck
      have HP := Lib.hid hp
      have HC := Lib.hid (HF.out k wr hlt hM.out.inv)
      clear hrr hcell hri hpi hp
      by_cases hKk : K k = true
      · have HKk := Lib.hid hKk
        clear hKk
        go_wp2_with fail
        refine HC.out.mono ?_
        rw [HKk.out]
        rintro e w2 ⟨rfl, hb2⟩
        have hM2 := hM.out.below HJ.out hb2
        obtain ⟨v, w3, q1, q2, hM3⟩ := Mid.hit (w1 := w2.drew) HJ.out hFb hok HD.out hcnt (hM2.drew HJ.out) HKk.out HP.out
        have d3 : w2.drew.cell? ⟨b, 3, none⟩ = some (.map (some sb)) := hM2.row.cell (i := 3) (by decide)
        have d4 : w2.drew.cell? ⟨b, 4, none⟩ = some (.map (some fb)) := hM2.row.cell (i := 4) (by decide)
        clear hM2 hb2 hck c0 c1 c2 c3 c4 c5 c6
        go_wp2_with fail
        go_region
        all_goals (go_wp2; go_roundw; (case rel => exact ⟨k + 1, by omega, by go_num, hM3⟩); (case measure => simp [intOf]; omega))
      · have HKk := Lib.hid (show K k = false by simpa using hKk)
        clear hKk
        go_wp2_with fail
        refine HC.out.mono ?_
        rw [HKk.out]
        rintro e w2 ⟨rfl, hb2⟩
        have hM3 := Lib.hid ((hM.out.below HJ.out hb2).skip HKk.out)
        clear hb2 hck c0 c1 c2 c3 c4 c5 c6
        go_wp2
        go_roundw
        case rel => exact ⟨k + 1, by omega, by go_num, hM3⟩
        case measure => simp [intOf]; omega
    · obtain rfl : k = S.pend.length := by omega
      obtain ⟨sf', hrr⟩ := hM.out.rest
      have hm := hrr.freshM
      have d4 : wr.cell? ⟨b, 4, none⟩ = some (.map (some fb)) := hM.out.row.cell (i := 4) (by decide)
      have hAn : A = none → S.pend.length = 0 ∧ c = 0 := fun e => by
        subst e
        rcases hrr.pend.2 with ⟨e1, e2⟩ | ⟨g, cap, cur, e1, _⟩
        · exact ⟨e2, by injection e1⟩
        · cases e1
      obtain ⟨w5, hrun5, hm5, hg5⟩ := hm.clear_ Tryz.underlying123 0
      obtain ⟨d5, f5, HE⟩ := Mid.fin (w2 := w5) hFb hok harm hcnt hM.out hm5 hg5 hAn
      clear hrr hM hm5 hg5 hm c0 c1 c2 c3 c4 c5 c6
      rcases A with _ | ad
      · obtain ⟨h0, rfl⟩ := hAn rfl
        have H0 := Lib.hid h0
        clear h0 hAn
        go_wp2
        go_end0
        exact ⟨rfl, HE.out⟩
      · clear hAn
        go_wp2
        go_end0
        exact ⟨rfl, HE.out⟩


end Go.Proofs.YtinhdimalhfgkaaGreatDoor

/-
  The program's Flush, standsIn and Crash by contract. No condition.
-/
namespace Go.Proofs.YtinhdimalhfgkaaGreatDoor
open Go.RowKit
set_option maxRecDepth 100000
set_option linter.unusedVariables false

theorem flush1_any (t : Int) (w : World) : Calls Tryz.prog 195 #[.int .i64 t] w fun e w' => e = .returned (.bool true) ∧ Below w.heap.size w w' := by
  go_enter Tryz.func195, Tryz.ntmps195
  go_wp2
  go_ret
  exact ⟨rfl, Below.refl _ _⟩

theorem settled_all {S : DS} (h : S.Ok) (hd : S.down = false) : S.settled (fun _ => true) = S.flush := by
  have e : safeK S (fun _ => true) S.pend.length = S.last := by
    funext j
    by_cases hj : j ∈ S.pend
    · unfold safeK
      obtain ⟨t, ht, e⟩ := List.getElem_of_mem hj
      rw [if_pos ⟨t, ht, by rw [List.getElem?_eq_getElem ht, e], rfl⟩]
    · unfold safeK
      rw [if_neg (fun ⟨t, _, h1, _⟩ => hj (List.mem_of_getElem? h1))]
      exact (h.same j hj).symm
  unfold DS.settled DS.flush
  rw [e, if_neg (by simp [hd])]

set_option maxHeartbeats 800000 in
theorem flush_dev (w : World) (F : Nat → Prop) (p : Addr) (S : DS) (h : DAt w F p S) : Calls Tryz.prog 132 #[.pointer (some p)] w fun e w' => e = .returned (.int .i64 S.flushE) ∧ After F w w' p S.flush := by
  have h0 := h
  obtain ⟨b, sb, fb, left, pv, sN, fN, sf, ff, rfl, hrow, hrest, harm, hok, hdom, hcnt, hFb, hlt, c0, c1, c2, c3, c4, c5, c6⟩ := h.parts
  have hn : (0 : Int) < (S.n : Int) := by have := hok.size; omega
  by_cases hd : S.down = true
  · have e1 : S.flushE = 5 := by simp [DS.flushE, hd]
    have e2 : S.flush = S := by simp [DS.flush, hd]
    rw [e1, e2]
    have HE := Lib.hid (After.same h0)
    rw [hd] at c1
    clear h h0 hrow hrest hdom hlt e1 e2
    go_enter Tryz.func132, Tryz.ntmps132
    go_wp2_with fail
    refine (ready_down c1 c2 hn).mono ?_
    rintro e w1 ⟨rfl, rfl⟩
    go_wp2
    go_ret
    exact ⟨rfl, HE.out⟩
  · have hd' : S.down = false := by simpa using hd
    have e1 : S.flushE = 0 := by simp [DS.flushE, hd']
    rw [e1, ← settled_all hok hd']
    rw [hd'] at c1
    have HS := Lib.hid (settle_all (fun _ => true) (fun _ => True) w F ⟨b, 0, none⟩ S h0 trivial (fun _ _ _ _ _ _ => trivial) (fun t w1 _ _ => flush1_any t w1))
    clear h h0 hrow hrest hdom hlt e1
    go_enter Tryz.func132, Tryz.ntmps132
    go_wp2_with fail
    refine (ready_ok c1 c2 hn).mono ?_
    rintro e w1 ⟨rfl, rfl⟩
    go_wp2_with fail
    refine HS.out.mono ?_
    rintro e w2 ⟨rfl, ha⟩
    go_wp2
    go_ret
    exact ⟨rfl, ha⟩

/-- A set of places: which whole numbers stand among the first k. -/
def Places (l : List Int) (k : Nat) : Int → Option Value := fun i => if i ∈ l.take k then some (.agg #[]) else none
theorem places_step {l : List Int} {k : Nat} {i : Int} (h : l[k]? = some i) : (fun j => if j = i then some (Value.agg #[]) else Places l k j) = Places l (k + 1) := by
  funext j
  unfold Places
  have e : l.take (k + 1) = l.take k ++ [i] := by rw [List.take_add_one, h]; rfl
  rw [e]
  by_cases hj : j = i
  · subst hj; simp
  · rw [if_neg hj]
    simp [hj]

theorem zero_unit (w : World) : (zeroValue 232).run Tryz.prog w = .ok (.agg #[]) w := by kernel_rfl

theorem run_makeMap_int {P : Program} {t k e : TypeId} (ht : P.underlying t = some (.map k e)) (n : Int) (w : World) : (Instr.makeMap t (some (.int .i64 n))).run P w = .ok (.map (some w.heap.size)) (w.alloc (.map #[] 0)) := by
  simp [Instr.makeMap, run_underlying ht, asInt, asIntOf]

theorem places_get (l : List Int) (n : Nat) (i : Int) : (Places l n i).getD (.agg #[]) = .agg #[] ∧ (Places l n i).isSome = decide (i ∈ l.take n) := by
  unfold Places
  by_cases h : i ∈ l.take n <;> simp [h]

open Classical in
theorem settled_crash {S : DS} (l : List Int) : { S.settled (fun t => decide ((t : Int) ∈ l)) with arm := none, down := false } = S.crash l := by
  have e : safeK S (fun t => decide ((t : Int) ∈ l)) S.pend.length = fun i => if S.kept l i then S.last i else S.safe i := by
    funext j
    unfold safeK
    have h : Kept S (fun t => decide ((t : Int) ∈ l)) S.pend.length j ↔ S.kept l j := by
      constructor
      · rintro ⟨t, _, h1, h2⟩
        exact ⟨t, h1, of_decide_eq_true h2⟩
      · rintro ⟨t, h1, h2⟩
        exact ⟨t, (List.getElem?_eq_some_iff.1 h1).1, h1, decide_eq_true h2⟩
    by_cases hk : S.kept l j
    · rw [if_pos hk, if_pos (h.2 hk)]
    · rw [if_neg hk, if_neg (fun h' => hk (h.1 h'))]
  unfold DS.settled DS.crash
  rw [e]

theorem After.trans {F : Nat → Prop} {w w1 w2 : World} {p : Addr} {S1 S2 : DS} (h : After F w w1 p S1) (h' : ∀ F1, DAt w1 F1 p S1 → After F1 w1 w2 p S2) : After F w w2 p S2 := by
  obtain ⟨F1, h1, h2, h3⟩ := h
  obtain ⟨F2, h4, h5, h6⟩ := h' F1 h1
  refine ⟨F2, h4, ⟨h5.os.trans h2.os, h5.tape.trans h2.tape, h5.output.trans h2.output, Nat.le_trans h2.size h5.size, fun k hk hF => (h5.block k (Nat.lt_of_lt_of_le hk h2.size) (fun hf => ?_)).trans (h2.block k hk hF)⟩, fun k hk => ?_⟩
  · rcases h3 k hf with a | a
    · exact hF a
    · omega
  · rcases h6 k hk with a | a
    · exact h3 k a
    · exact .inr (Nat.le_trans h2.size a)

theorem After.base {F : Nat → Prop} {w0 w w1 : World} {p : Addr} {S : DS} (h : After F w w1 p S) (hb : Below w0.heap.size w0 w) : After F w0 w1 p S := by
  obtain ⟨F1, h1, h2, h3⟩ := h
  refine ⟨F1, h1, ⟨h2.os.trans hb.os, h2.tape.trans hb.tape, h2.output.trans hb.output, Nat.le_trans hb.size h2.size, fun k hk hF => (h2.block k (Nat.lt_of_lt_of_le hk hb.size) hF).trans (hb.block k hk)⟩, fun k hk => ?_⟩
  rcases h3 k hk with a | a
  · exact .inl a
  · exact .inr (Nat.le_trans hb.size a)

/-- The fuse mended. -/
theorem mended {F : Nat → Prop} {w : World} {b : Nat} {S : DS} (h : DAt w F ⟨b, 0, none⟩ S) : (∃ v0, w.cell? ⟨b, 0, none⟩ = some v0) ∧ (∃ v1, w.cell? ⟨b, 1, none⟩ = some v1) ∧ w.frozen? ⟨b, 0, none⟩ = false ∧ w.frozen? ⟨b, 1, none⟩ = false ∧ After F w ((w.setCell ⟨b, 0, none⟩ (.int .i64 (-1))).setCell ⟨b, 1, none⟩ (.bool false)) ⟨b, 0, none⟩ { S with arm := none, down := false } := by
  obtain ⟨b', sb, fb, left, pv, sN, fN, sf, ff, e, hrow, hrest, harm, hok, hdom, hcnt, hFb, hlt, c0, c1, c2, c3, c4, c5, c6⟩ := h.parts
  obtain rfl : b = b' := by injection e
  refine ⟨⟨_, c0⟩, ⟨_, c1⟩, hrow.frozen 0, hrow.frozen 1, ?_⟩
  have hrow1 := (hrow.set 0 (.int .i64 (-1))).congr (diskRow_set0 _ _ _ _ _ _ _ _)
  have hrow2 := (hrow1.set 1 (.bool false)).congr (diskRow_set1 _ _ _ _ _ _ _ _)
  have hr := ((hrest.keep (F' := FN F w) (w' := w) (fun _ h _ => .inl h) (fun _ _ _ _ => rfl)).setCell hrow 0 (.int .i64 (-1))).setCell hrow1 1 (.bool false)
  have hFx : ∀ x, (some b : Option Nat) = some x → FN F w x := fun x e => .inl (by injection e with e; rw [← e]; exact hFb)
  exact After.mk' (S := { S with arm := none, down := false }) hrow2 hr ⟨by omega, .inl ⟨by omega, rfl⟩⟩ ⟨hok.size, hok.safeBytes, hok.lastBytes, hok.pendLt, hok.pendNodup, hok.same⟩ hdom hcnt (.inl hFb) (((Touch.refl F w).grow (grown_setCell w b 0 _) hFx).grow (grown_setCell _ b 1 _) hFx)

end Go.Proofs.YtinhdimalhfgkaaGreatDoor
