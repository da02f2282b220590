/-
  The walk of the statement on a disk that no call made, over any disk that answers as it is to. No condition.
-/
import Derived.Test.YtkpopdoigkcpgaaNobodySaid
import Derived.Test.YtkpopdoigkcpgaaDiskDev
namespace Go.Proofs.Ytkpopdoigkcpgaa
open Go.RowKit
set_option linter.unusedVariables false

set_option maxRecDepth 100000 in
set_option maxHeartbeats 3200000 in
theorem nobody_walk {D : World → (Nat → Prop) → Addr → DS → Prop} (api : DiskApi D) {Z : World → (Nat → Prop) → Addr → Prop} (nob : NobodyApi zeroCells Z) (i : Int) (A : Option Addr) (n c : Nat) (w : World) (hn : n ≤ maxLen) :
    Calls Try.prog 6 #[.int .i64 i, .slice A n c] w fun e w' => e = .returned (.bool true) ∧ Below w.heap.size w w' := by
  have hz0 : LawZ Z w (w.alloc (.cells zeroCells 61)) (fun k => k = w.heap.size) ⟨w.heap.size, 0, none⟩ := ⟨nob.zero w, fun k hk => Nat.le_of_eq hk.symm, (Below.refl _ _).alloc (Nat.le_refl _) _⟩
  go_enter Try.func6, Try.ntmps6
  go_wp2_with fail
  refine (nob.readNil _ _).mono ?_
  rintro e w1 ⟨A1, n1, c1, rfl, hb1⟩
  have h1 := hz0.later nob hb1
  clear hz0 hb1
  generalize (fun k => k = w.heap.size) = F at h1
  generalize (⟨w.heap.size, 0, none⟩ : Addr) = p at h1 ⊢
  go_wp2_with fail
  refine (nob.read _ _ _ _ h1.1).mono ?_
  rintro e w2 ⟨A2, n2, c2, rfl, hb2⟩
  have h2 := h1.later nob hb2
  clear h1 hb2
  go_wp2_with fail
  refine (nob.armNil _ _).mono ?_
  rintro e w3 ⟨rfl, hb3⟩
  have h3 := h2.later nob hb3
  clear h2 hb3
  go_wp2_with fail
  refine (nob.arm _ _ _ _ h3.1).mono ?_
  rintro e w4 ⟨rfl, hz4, ht4⟩
  have h4 := h3.next hz4 ht4
  clear h3 hz4 ht4
  go_wp2_with fail
  refine (nob.crashNil _ _ _ _ (by decide)).mono ?_
  rintro e w5 ⟨rfl, hb5⟩
  have h5 := (h4.later nob (w' := w4.alloc (.cells #[.int .i64 i] 3)) ((Below.refl _ _).alloc (Nat.le_refl _) _)).later nob hb5
  clear h4 hb5
  have h5' := h5.later nob (w' := w5.alloc (.cells #[.int .i64 i] 3)) ((Below.refl _ _).alloc (Nat.le_refl _) _)
  clear h5
  go_wp2_with fail
  refine (nob.crash _ _ _ _ _ _ h5'.1 (by decide)).mono ?_
  rintro e w6 ⟨rfl, hz6, ht6⟩
  have h6 := h5'.next hz6 ht6
  clear h5' hz6 ht6
  go_wp2_with fail
  refine (nob.writeNil _ _ _ _ _ hn).mono ?_
  rintro e w7 ⟨rfl, hb7⟩
  have h7 := h6.later nob hb7
  clear h6 hb7
  go_wp2_with fail
  refine (nob.write _ _ _ _ _ _ _ h7.1 hn).mono ?_
  rintro e w8 ⟨rfl, hb8⟩
  have h8 := h7.later nob hb8
  clear h7 hb8
  go_wp2_with fail
  refine (nob.flushNil _).mono ?_
  rintro e w9 ⟨rfl, hb9⟩
  have h9 := h8.later nob hb9
  clear h8 hb9
  go_wp2_with fail
  refine (nob.flush _ _ _ h9.1).mono ?_
  rintro e w10 ⟨rfl, hb10⟩
  have h10 := h9.later nob hb10
  clear h9 hb10
  go_wp2_with fail
  refine (nob.sizeNil _).mono ?_
  rintro e w11 ⟨rfl, hb11⟩
  have h11 := h10.later nob hb11
  clear h10 hb11
  go_wp2_with fail
  refine (nob.pending _ _ _ h11.1).mono ?_
  rintro e w12 ⟨A12, c12, rfl, hb12⟩
  have h12 := h11.later nob hb12
  clear h11 hb12
  go_wp2_with fail
  refine (nob.writesNil _).mono ?_
  rintro e w13 ⟨rfl, hb13⟩
  have h13 := h12.later nob hb13
  clear h12 hb13
  go_wp2_with fail
  refine (nob.down _ _ _ h13.1).mono ?_
  rintro e w14 ⟨rfl, hb14⟩
  have HB := Lib.hid (h13.later nob hb14).2.2
  clear h13 hb14
  go_wp2_with (go_at_call 7; refine (diskAwake_any api _).mono ?_; rintro e w' ⟨rfl, hb⟩)
  go_ret
  exact ⟨rfl, HB.out.trans (hb.mono HB.out.size)⟩

end Go.Proofs.Ytkpopdoigkcpgaa
