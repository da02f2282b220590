/-
  The statements' own call of both disks, by its contract: both answer the same, and are the same disk behind it. Over any disk that answers as it is to.
-/
import Derived.Test.YtkpopdoigkcpgaaDiskTwo
import Derived.Deep.RegionHeld3
namespace Go.Proofs.Ytkpopdoigkcpgaa
open Go.RowKit
set_option linter.unusedVariables false

section
variable {D : World → (Nat → Prop) → Addr → DS → Prop} {w0 w : World} {F G : Nat → Prop} {p x : Addr} {S : DS}

set_option maxRecDepth 100000 in
set_option maxHeartbeats 3200000 in
theorem do_0 (api : DiskApi D) (h : Two D w0 w F G p x S S) (i b : Int) (ka : Option Addr) (kn kc : Nat) (keep : List Int) (hi : -9223372036854775808 ≤ i ∧ i ≤ 9223372036854775807) (hb : 0 ≤ b ∧ b < 256) (hr : RI w w0.heap.size ka kn keep) (hc : kn ≤ kc) (hn : kn ≤ maxLen) (hw : S.writes ≤ 9223372036854775806) :
    Calls Try.prog 11 #[.pointer (some p), .pointer (some x), .agg #[.int .i64 0, .int .i64 i, .int .u8 b, .slice ka kn kc]] w fun e w' => e = .returned (.bool true) ∧ ∃ F' G', Two D w0 w' F' G' p x (S.write i (reps 256 b)) (S.write i (reps 256 b)) := by
  have HK0 := Lib.hid (DoCells.box w ⟨0, i, b, ka, kn, kc, keep⟩)
  have hba := Lib.hid ((Below.refl w.heap.size w).alloc (Nat.le_refl _) (.cells #[.int .i64 0, .int .i64 i, .int .u8 b, .slice ka kn kc] 34))
  have H0 := h.later api hba.out
  have hkF : ¬ F w.heap.size := fun hf => by have := h.1.lt api _ hf; omega
  have hkG : ¬ G w.heap.size := fun hf => by have := h.2.1.lt _ hf; omega
  have HK : DoCells w.heap.size ⟨0, i, b, ka, kn, kc, keep⟩ (w.alloc (.cells #[.int .i64 0, .int .i64 i, .int .u8 b, .slice ka kn kc] 34)).drew := HK0.out
  have H1 : Two D w0 (w.alloc (.cells #[.int .i64 0, .int .i64 i, .int .u8 b, .slice ka kn kc] 34)).drew F G p x S S := h.later api (hba.out.drew)
  clear h hr H0
  go_enter Try.func11, Try.ntmps11
  go_wp2_with fail
  go_region_held3 (fun w' => w'.cell? ⟨w.heap.size, 1, none⟩ = some (.int .i64 i) ∧ w'.cell? ⟨w.heap.size, 2, none⟩ = some (.int .u8 b)) (first | exact ⟨HK.2.1, HK.2.2.1⟩ | exact ⟨HK5.2.1, HK5.2.2.1⟩ | exact ⟨HK6.2.1, HK6.2.2.1⟩ | exact ⟨HK7.2.1, HK7.2.2.1⟩ | exact ⟨HK8.2.1, HK8.2.2.1⟩)
    (first
      | (go_at_call 19; refine (two_sector api H1 hb).mono ?_; rintro e w5 ⟨g5, rfl, hg5, hg5', hr5, h5, hb5⟩; have HK5 := HK.later hb5)
      | (go_at_call 18; refine (two_write api h5 _ hr5 (by decide) (by decide) hw hg5).mono ?_; rintro e w6 ⟨rfl, F6, h6, ht6⟩; have HK6 := HK5.touch ht6.1 hkF)
      | (go_at_call 19; refine (two_sector api h6 hb).mono ?_; rintro e w7 ⟨g7, rfl, hg7, hg7', hr7, h7, hb7⟩; have HK7 := HK6.later hb7)
      | (go_at_call 29; refine (two_refWrite api h7 _ hr7 (Nat.le_refl _) (by decide) hw hg7').mono ?_; rintro e w8 ⟨rfl, G8, h8, ht8⟩; have HK8 := HK7.touch ht8.1 hkG))
  have H8 := Lib.hid h8
  clear HK HK5 HK6 HK7 HK8 H1 h5 h6 h7 h8 hr5 hr7 hb5 hb7 ht6 ht8
  go_wp2
  go_ret
  exact ⟨by simp, _, _, H8.out⟩

set_option maxRecDepth 100000 in
set_option maxHeartbeats 3200000 in
theorem do_1 (api : DiskApi D) (h : Two D w0 w F G p x S S) (i b : Int) (ka : Option Addr) (kn kc : Nat) (keep : List Int) (hi : -9223372036854775808 ≤ i ∧ i ≤ 9223372036854775807) (hb : 0 ≤ b ∧ b < 256) (hr : RI w w0.heap.size ka kn keep) (hc : kn ≤ kc) (hn : kn ≤ maxLen) (hw : S.writes ≤ 9223372036854775806) :
    Calls Try.prog 11 #[.pointer (some p), .pointer (some x), .agg #[.int .i64 1, .int .i64 i, .int .u8 b, .slice ka kn kc]] w fun e w' => e = .returned (.bool true) ∧ ∃ F' G', Two D w0 w' F' G' p x (S.write i (reps 256 b)) (S.write i (reps 256 b)) := by
  have HK0 := Lib.hid (DoCells.box w ⟨1, i, b, ka, kn, kc, keep⟩)
  have hba := Lib.hid ((Below.refl w.heap.size w).alloc (Nat.le_refl _) (.cells #[.int .i64 1, .int .i64 i, .int .u8 b, .slice ka kn kc] 34))
  have H0 := h.later api hba.out
  have hkF : ¬ F w.heap.size := fun hf => by have := h.1.lt api _ hf; omega
  have hkG : ¬ G w.heap.size := fun hf => by have := h.2.1.lt _ hf; omega
  have HK : DoCells w.heap.size ⟨1, i, b, ka, kn, kc, keep⟩ (w.alloc (.cells #[.int .i64 1, .int .i64 i, .int .u8 b, .slice ka kn kc] 34)).drew := HK0.out
  have H1 : Two D w0 (w.alloc (.cells #[.int .i64 1, .int .i64 i, .int .u8 b, .slice ka kn kc] 34)).drew F G p x S S := h.later api (hba.out.drew)
  clear h hr H0
  go_enter Try.func11, Try.ntmps11
  go_wp2_with fail
  go_region_held3 (fun w' => w'.cell? ⟨w.heap.size, 1, none⟩ = some (.int .i64 i) ∧ w'.cell? ⟨w.heap.size, 2, none⟩ = some (.int .u8 b)) (first | exact ⟨HK.2.1, HK.2.2.1⟩ | exact ⟨HK5.2.1, HK5.2.2.1⟩ | exact ⟨HK6.2.1, HK6.2.2.1⟩ | exact ⟨HK7.2.1, HK7.2.2.1⟩ | exact ⟨HK8.2.1, HK8.2.2.1⟩)
    (first
      | (go_at_call 19; refine (two_sector api H1 hb).mono ?_; rintro e w5 ⟨g5, rfl, hg5, hg5', hr5, h5, hb5⟩; have HK5 := HK.later hb5)
      | (go_at_call 18; refine (two_write api h5 _ hr5 (by decide) (by decide) hw hg5).mono ?_; rintro e w6 ⟨rfl, F6, h6, ht6⟩; have HK6 := HK5.touch ht6.1 hkF)
      | (go_at_call 19; refine (two_sector api h6 hb).mono ?_; rintro e w7 ⟨g7, rfl, hg7, hg7', hr7, h7, hb7⟩; have HK7 := HK6.later hb7)
      | (go_at_call 29; refine (two_refWrite api h7 _ hr7 (Nat.le_refl _) (by decide) hw hg7').mono ?_; rintro e w8 ⟨rfl, G8, h8, ht8⟩; have HK8 := HK7.touch ht8.1 hkG))
  have H8 := Lib.hid h8
  clear HK HK5 HK6 HK7 HK8 H1 h5 h6 h7 h8 hr5 hr7 hb5 hb7 ht6 ht8
  go_wp2
  go_ret
  exact ⟨by simp, _, _, H8.out⟩

set_option maxRecDepth 100000 in
set_option maxHeartbeats 3200000 in
theorem do_2 (api : DiskApi D) (h : Two D w0 w F G p x S S) (i b : Int) (ka : Option Addr) (kn kc : Nat) (keep : List Int) (hi : -9223372036854775808 ≤ i ∧ i ≤ 9223372036854775807) (hb : 0 ≤ b ∧ b < 256) (hr : RI w w0.heap.size ka kn keep) (hc : kn ≤ kc) (hn : kn ≤ maxLen) (hw : S.writes ≤ 9223372036854775806) :
    Calls Try.prog 11 #[.pointer (some p), .pointer (some x), .agg #[.int .i64 2, .int .i64 i, .int .u8 b, .slice ka kn kc]] w fun e w' => e = .returned (.bool true) ∧ ∃ F' G', Two D w0 w' F' G' p x (S.write i (reps 256 b)) (S.write i (reps 256 b)) := by
  have HK0 := Lib.hid (DoCells.box w ⟨2, i, b, ka, kn, kc, keep⟩)
  have hba := Lib.hid ((Below.refl w.heap.size w).alloc (Nat.le_refl _) (.cells #[.int .i64 2, .int .i64 i, .int .u8 b, .slice ka kn kc] 34))
  have H0 := h.later api hba.out
  have hkF : ¬ F w.heap.size := fun hf => by have := h.1.lt api _ hf; omega
  have hkG : ¬ G w.heap.size := fun hf => by have := h.2.1.lt _ hf; omega
  have HK : DoCells w.heap.size ⟨2, i, b, ka, kn, kc, keep⟩ (w.alloc (.cells #[.int .i64 2, .int .i64 i, .int .u8 b, .slice ka kn kc] 34)).drew := HK0.out
  have H1 : Two D w0 (w.alloc (.cells #[.int .i64 2, .int .i64 i, .int .u8 b, .slice ka kn kc] 34)).drew F G p x S S := h.later api (hba.out.drew)
  clear h hr H0
  go_enter Try.func11, Try.ntmps11
  go_wp2_with fail
  go_region_held3 (fun w' => w'.cell? ⟨w.heap.size, 1, none⟩ = some (.int .i64 i) ∧ w'.cell? ⟨w.heap.size, 2, none⟩ = some (.int .u8 b)) (first | exact ⟨HK.2.1, HK.2.2.1⟩ | exact ⟨HK5.2.1, HK5.2.2.1⟩ | exact ⟨HK6.2.1, HK6.2.2.1⟩ | exact ⟨HK7.2.1, HK7.2.2.1⟩ | exact ⟨HK8.2.1, HK8.2.2.1⟩)
    (first
      | (go_at_call 19; refine (two_sector api H1 hb).mono ?_; rintro e w5 ⟨g5, rfl, hg5, hg5', hr5, h5, hb5⟩; have HK5 := HK.later hb5)
      | (go_at_call 18; refine (two_write api h5 _ hr5 (by decide) (by decide) hw hg5).mono ?_; rintro e w6 ⟨rfl, F6, h6, ht6⟩; have HK6 := HK5.touch ht6.1 hkF)
      | (go_at_call 19; refine (two_sector api h6 hb).mono ?_; rintro e w7 ⟨g7, rfl, hg7, hg7', hr7, h7, hb7⟩; have HK7 := HK6.later hb7)
      | (go_at_call 29; refine (two_refWrite api h7 _ hr7 (Nat.le_refl _) (by decide) hw hg7').mono ?_; rintro e w8 ⟨rfl, G8, h8, ht8⟩; have HK8 := HK7.touch ht8.1 hkG))
  have H8 := Lib.hid h8
  clear HK HK5 HK6 HK7 HK8 H1 h5 h6 h7 h8 hr5 hr7 hb5 hb7 ht6 ht8
  go_wp2
  go_ret
  exact ⟨by simp, _, _, H8.out⟩

set_option maxRecDepth 100000 in
set_option maxHeartbeats 3200000 in
theorem do_3 (api : DiskApi D) (h : Two D w0 w F G p x S S) (i b : Int) (ka : Option Addr) (kn kc : Nat) (keep : List Int) (hi : -9223372036854775808 ≤ i ∧ i ≤ 9223372036854775807) (hb : 0 ≤ b ∧ b < 256) (hr : RI w w0.heap.size ka kn keep) (hc : kn ≤ kc) (hn : kn ≤ maxLen) (hw : S.writes ≤ 9223372036854775806) :
    Calls Try.prog 11 #[.pointer (some p), .pointer (some x), .agg #[.int .i64 3, .int .i64 i, .int .u8 b, .slice ka kn kc]] w fun e w' => e = .returned (.bool true) ∧ ∃ F' G', Two D w0 w' F' G' p x (S.write i (reps 256 b)) (S.write i (reps 256 b)) := by
  have HK0 := Lib.hid (DoCells.box w ⟨3, i, b, ka, kn, kc, keep⟩)
  have hba := Lib.hid ((Below.refl w.heap.size w).alloc (Nat.le_refl _) (.cells #[.int .i64 3, .int .i64 i, .int .u8 b, .slice ka kn kc] 34))
  have H0 := h.later api hba.out
  have hkF : ¬ F w.heap.size := fun hf => by have := h.1.lt api _ hf; omega
  have hkG : ¬ G w.heap.size := fun hf => by have := h.2.1.lt _ hf; omega
  have HK : DoCells w.heap.size ⟨3, i, b, ka, kn, kc, keep⟩ (w.alloc (.cells #[.int .i64 3, .int .i64 i, .int .u8 b, .slice ka kn kc] 34)).drew := HK0.out
  have H1 : Two D w0 (w.alloc (.cells #[.int .i64 3, .int .i64 i, .int .u8 b, .slice ka kn kc] 34)).drew F G p x S S := h.later api (hba.out.drew)
  clear h hr H0
  go_enter Try.func11, Try.ntmps11
  go_wp2_with fail
  go_region_held3 (fun w' => w'.cell? ⟨w.heap.size, 1, none⟩ = some (.int .i64 i) ∧ w'.cell? ⟨w.heap.size, 2, none⟩ = some (.int .u8 b)) (first | exact ⟨HK.2.1, HK.2.2.1⟩ | exact ⟨HK5.2.1, HK5.2.2.1⟩ | exact ⟨HK6.2.1, HK6.2.2.1⟩ | exact ⟨HK7.2.1, HK7.2.2.1⟩ | exact ⟨HK8.2.1, HK8.2.2.1⟩)
    (first
      | (go_at_call 19; refine (two_sector api H1 hb).mono ?_; rintro e w5 ⟨g5, rfl, hg5, hg5', hr5, h5, hb5⟩; have HK5 := HK.later hb5)
      | (go_at_call 18; refine (two_write api h5 _ hr5 (by decide) (by decide) hw hg5).mono ?_; rintro e w6 ⟨rfl, F6, h6, ht6⟩; have HK6 := HK5.touch ht6.1 hkF)
      | (go_at_call 19; refine (two_sector api h6 hb).mono ?_; rintro e w7 ⟨g7, rfl, hg7, hg7', hr7, h7, hb7⟩; have HK7 := HK6.later hb7)
      | (go_at_call 29; refine (two_refWrite api h7 _ hr7 (Nat.le_refl _) (by decide) hw hg7').mono ?_; rintro e w8 ⟨rfl, G8, h8, ht8⟩; have HK8 := HK7.touch ht8.1 hkG))
  have H8 := Lib.hid h8
  clear HK HK5 HK6 HK7 HK8 H1 h5 h6 h7 h8 hr5 hr7 hb5 hb7 ht6 ht8
  go_wp2
  go_ret
  exact ⟨by simp, _, _, H8.out⟩

set_option maxRecDepth 100000 in
set_option maxHeartbeats 3200000 in
theorem do_4 (api : DiskApi D) (h : Two D w0 w F G p x S S) (i b : Int) (ka : Option Addr) (kn kc : Nat) (keep : List Int) (hi : -9223372036854775808 ≤ i ∧ i ≤ 9223372036854775807) (hb : 0 ≤ b ∧ b < 256) (hr : RI w w0.heap.size ka kn keep) (hc : kn ≤ kc) (hn : kn ≤ maxLen) (hw : S.writes ≤ 9223372036854775806) :
    Calls Try.prog 11 #[.pointer (some p), .pointer (some x), .agg #[.int .i64 4, .int .i64 i, .int .u8 b, .slice ka kn kc]] w fun e w' => e = .returned (.bool true) ∧ ∃ F' G', Two D w0 w' F' G' p x (S.write i (reps 256 b)) (S.write i (reps 256 b)) := by
  have HK0 := Lib.hid (DoCells.box w ⟨4, i, b, ka, kn, kc, keep⟩)
  have hba := Lib.hid ((Below.refl w.heap.size w).alloc (Nat.le_refl _) (.cells #[.int .i64 4, .int .i64 i, .int .u8 b, .slice ka kn kc] 34))
  have H0 := h.later api hba.out
  have hkF : ¬ F w.heap.size := fun hf => by have := h.1.lt api _ hf; omega
  have hkG : ¬ G w.heap.size := fun hf => by have := h.2.1.lt _ hf; omega
  have HK : DoCells w.heap.size ⟨4, i, b, ka, kn, kc, keep⟩ (w.alloc (.cells #[.int .i64 4, .int .i64 i, .int .u8 b, .slice ka kn kc] 34)).drew := HK0.out
  have H1 : Two D w0 (w.alloc (.cells #[.int .i64 4, .int .i64 i, .int .u8 b, .slice ka kn kc] 34)).drew F G p x S S := h.later api (hba.out.drew)
  clear h hr H0
  go_enter Try.func11, Try.ntmps11
  go_wp2_with fail
  go_region_held3 (fun w' => w'.cell? ⟨w.heap.size, 1, none⟩ = some (.int .i64 i) ∧ w'.cell? ⟨w.heap.size, 2, none⟩ = some (.int .u8 b)) (first | exact ⟨HK.2.1, HK.2.2.1⟩ | exact ⟨HK5.2.1, HK5.2.2.1⟩ | exact ⟨HK6.2.1, HK6.2.2.1⟩ | exact ⟨HK7.2.1, HK7.2.2.1⟩ | exact ⟨HK8.2.1, HK8.2.2.1⟩)
    (first
      | (go_at_call 19; refine (two_sector api H1 hb).mono ?_; rintro e w5 ⟨g5, rfl, hg5, hg5', hr5, h5, hb5⟩; have HK5 := HK.later hb5)
      | (go_at_call 18; refine (two_write api h5 _ hr5 (by decide) (by decide) hw hg5).mono ?_; rintro e w6 ⟨rfl, F6, h6, ht6⟩; have HK6 := HK5.touch ht6.1 hkF)
      | (go_at_call 19; refine (two_sector api h6 hb).mono ?_; rintro e w7 ⟨g7, rfl, hg7, hg7', hr7, h7, hb7⟩; have HK7 := HK6.later hb7)
      | (go_at_call 29; refine (two_refWrite api h7 _ hr7 (Nat.le_refl _) (by decide) hw hg7').mono ?_; rintro e w8 ⟨rfl, G8, h8, ht8⟩; have HK8 := HK7.touch ht8.1 hkG))
  have H8 := Lib.hid h8
  clear HK HK5 HK6 HK7 HK8 H1 h5 h6 h7 h8 hr5 hr7 hb5 hb7 ht6 ht8
  go_wp2
  go_ret
  exact ⟨by simp, _, _, H8.out⟩

set_option maxRecDepth 100000 in
set_option maxHeartbeats 3200000 in
theorem do_5 (api : DiskApi D) (h : Two D w0 w F G p x S S) (i b : Int) (ka : Option Addr) (kn kc : Nat) (keep : List Int) (hi : -9223372036854775808 ≤ i ∧ i ≤ 9223372036854775807) (hb : 0 ≤ b ∧ b < 256) (hr : RI w w0.heap.size ka kn keep) (hc : kn ≤ kc) (hn : kn ≤ maxLen) (hw : S.writes ≤ 9223372036854775806) :
    Calls Try.prog 11 #[.pointer (some p), .pointer (some x), .agg #[.int .i64 5, .int .i64 i, .int .u8 b, .slice ka kn kc]] w fun e w' => e = .returned (.bool true) ∧ ∃ F' G', Two D w0 w' F' G' p x S S := by
  have HK0 := Lib.hid (DoCells.box w ⟨5, i, b, ka, kn, kc, keep⟩)
  have hba := Lib.hid ((Below.refl w.heap.size w).alloc (Nat.le_refl _) (.cells #[.int .i64 5, .int .i64 i, .int .u8 b, .slice ka kn kc] 34))
  have H0 := h.later api hba.out
  have hkF : ¬ F w.heap.size := fun hf => by have := h.1.lt api _ hf; omega
  have hkG : ¬ G w.heap.size := fun hf => by have := h.2.1.lt _ hf; omega
  obtain ⟨q0, q1, q2, q3, q4⟩ := HK0.out
  clear h hr
  go_enter Try.func11, Try.ntmps11
  go_wp2_with fail
  refine (two_read api H0 i).mono ?_
  rintro e w5 ⟨A5, n5, c5, rfl, hc5, hr5, h5, hb5⟩
  have q1' := (hb5.cell (p := ⟨w.heap.size, 1, none⟩) q4).trans q1
  clear H0 q0 q2 q3
  go_wp2_with fail
  refine (two_refRead api h5 i).mono ?_
  rintro e w6 ⟨A6, n6, c6, rfl, hc6, hr6, h6, hb6⟩
  go_wp2_with fail
  refine (Equal_any c5 c6 (hr5.below hb6) hr6).mono ?_
  rintro e w7 ⟨rfl, rfl⟩
  have hT : decide (S.readL i = S.readL i) = true := by simp
  have hT2 : (S.readE i == S.readE i) = true := by simp
  rw [hT]
  have H6 := Lib.hid h6
  clear h5 h6 hr5 hr6 hb5 hb6 q1 q1' hT
  go_wp2
  go_ret
  exact ⟨by simp, _, _, H6.out⟩

set_option maxRecDepth 100000 in
set_option maxHeartbeats 3200000 in
theorem do_6 (api : DiskApi D) (h : Two D w0 w F G p x S S) (i b : Int) (ka : Option Addr) (kn kc : Nat) (keep : List Int) (hi : -9223372036854775808 ≤ i ∧ i ≤ 9223372036854775807) (hb : 0 ≤ b ∧ b < 256) (hr : RI w w0.heap.size ka kn keep) (hc : kn ≤ kc) (hn : kn ≤ maxLen) (hw : S.writes ≤ 9223372036854775806) :
    Calls Try.prog 11 #[.pointer (some p), .pointer (some x), .agg #[.int .i64 6, .int .i64 i, .int .u8 b, .slice ka kn kc]] w fun e w' => e = .returned (.bool true) ∧ ∃ F' G', Two D w0 w' F' G' p x S.flush S.flush := by
  have HK0 := Lib.hid (DoCells.box w ⟨6, i, b, ka, kn, kc, keep⟩)
  have hba := Lib.hid ((Below.refl w.heap.size w).alloc (Nat.le_refl _) (.cells #[.int .i64 6, .int .i64 i, .int .u8 b, .slice ka kn kc] 34))
  have H0 := h.later api hba.out
  have hkF : ¬ F w.heap.size := fun hf => by have := h.1.lt api _ hf; omega
  have hkG : ¬ G w.heap.size := fun hf => by have := h.2.1.lt _ hf; omega
  obtain ⟨q0, q1, q2, q3, q4⟩ := HK0.out
  clear h hr q0 q1 q2 q3
  obtain ⟨q0, q1, q2, q3, _⟩ := HK0.out
  go_enter Try.func11, Try.ntmps11
  go_wp2_with fail
  refine (two_flush api H0).mono ?_
  rintro e w5 ⟨rfl, F5, h5, ht5⟩
  clear H0
  go_wp2_with fail
  refine (two_refFlush api h5).mono ?_
  rintro e w6 ⟨rfl, G6, h6, ht6⟩
  have H6 := Lib.hid h6
  clear h5 h6 ht5 ht6
  go_wp2
  go_ret
  exact ⟨by simp, _, _, H6.out⟩

set_option maxRecDepth 100000 in
set_option maxHeartbeats 3200000 in
theorem do_7 (api : DiskApi D) (h : Two D w0 w F G p x S S) (i b : Int) (ka : Option Addr) (kn kc : Nat) (keep : List Int) (hi : -9223372036854775808 ≤ i ∧ i ≤ 9223372036854775807) (hb : 0 ≤ b ∧ b < 256) (hr : RI w w0.heap.size ka kn keep) (hc : kn ≤ kc) (hn : kn ≤ maxLen) (hw : S.writes ≤ 9223372036854775806) :
    Calls Try.prog 11 #[.pointer (some p), .pointer (some x), .agg #[.int .i64 7, .int .i64 i, .int .u8 b, .slice ka kn kc]] w fun e w' => e = .returned (.bool true) ∧ ∃ F' G', Two D w0 w' F' G' p x (S.fuse i) (S.fuse i) := by
  have HK0 := Lib.hid (DoCells.box w ⟨7, i, b, ka, kn, kc, keep⟩)
  have hba := Lib.hid ((Below.refl w.heap.size w).alloc (Nat.le_refl _) (.cells #[.int .i64 7, .int .i64 i, .int .u8 b, .slice ka kn kc] 34))
  have H0 := h.later api hba.out
  have hkF : ¬ F w.heap.size := fun hf => by have := h.1.lt api _ hf; omega
  have hkG : ¬ G w.heap.size := fun hf => by have := h.2.1.lt _ hf; omega
  obtain ⟨q0, q1, q2, q3, q4⟩ := HK0.out
  clear h hr
  go_enter Try.func11, Try.ntmps11
  go_wp2_with fail
  refine (two_arm api H0 i hi).mono ?_
  rintro e w5 ⟨rfl, F5, h5, ht5⟩
  have q1' := (ht5.1.cell q4 hkF 1).trans q1
  clear H0
  go_wp2_with fail
  refine (two_fuse api h5 i hi).mono ?_
  rintro e w6 ⟨rfl, G6, h6, ht6⟩
  have H6 := Lib.hid h6
  clear h5 h6 ht5 ht6
  go_wp2
  go_ret
  exact ⟨rfl, _, _, H6.out⟩

set_option maxRecDepth 100000 in
set_option maxHeartbeats 3200000 in
theorem do_8 (api : DiskApi D) (h : Two D w0 w F G p x S S) (i b : Int) (ka : Option Addr) (kn kc : Nat) (keep : List Int) (hi : -9223372036854775808 ≤ i ∧ i ≤ 9223372036854775807) (hb : 0 ≤ b ∧ b < 256) (hr : RI w w0.heap.size ka kn keep) (hc : kn ≤ kc) (hn : kn ≤ maxLen) (hw : S.writes ≤ 9223372036854775806) :
    Calls Try.prog 11 #[.pointer (some p), .pointer (some x), .agg #[.int .i64 8, .int .i64 i, .int .u8 b, .slice ka kn kc]] w fun e w' => e = .returned (.bool true) ∧ ∃ F' G', Two D w0 w' F' G' p x (S.crash keep) (S.crash keep) := by
  have HK0 := Lib.hid (DoCells.box w ⟨8, i, b, ka, kn, kc, keep⟩)
  have hba := Lib.hid ((Below.refl w.heap.size w).alloc (Nat.le_refl _) (.cells #[.int .i64 8, .int .i64 i, .int .u8 b, .slice ka kn kc] 34))
  have H0 := h.later api hba.out
  have hkF : ¬ F w.heap.size := fun hf => by have := h.1.lt api _ hf; omega
  have hkG : ¬ G w.heap.size := fun hf => by have := h.2.1.lt _ hf; omega
  obtain ⟨q0, q1, q2, q3, q4⟩ := HK0.out
  have hr0 := hr.keep (w' := (w.alloc (.cells #[.int .i64 8, .int .i64 i, .int .u8 b, .slice ka kn kc] 34))) (fun b o hbb => (hba.out.cell (p := ⟨b, o, none⟩) (Nat.lt_of_lt_of_le hbb h.1.2.2.size)))
  clear hr
  go_enter Try.func11, Try.ntmps11
  go_wp2_with fail
  refine (two_crash api H0 hr0 hc hn).mono ?_
  rintro e w5 ⟨rfl, F5, h5, ht5⟩
  have q3' := (ht5.1.cell q4 hkF 3).trans q3
  have hr5 : RI w5 w0.heap.size ka kn keep := hr0.touch ht5.1 (Nat.le_trans h.1.2.2.size hba.out.size) (fun h0 a ha hf => by
    obtain ⟨b', off, e, hb', _⟩ := hr0.2.2 h0
    rw [ha] at e
    cases e
    have h1 : w0.heap.size ≤ b' := h.1.2.1 _ hf
    have h2 : b' < w0.heap.size := hb'
    omega)
  clear H0 hr0 h
  go_wp2_with fail
  refine (two_refCrash api h5 kc hr5 hn).mono ?_
  rintro e w6 ⟨rfl, G6, h6, ht6⟩
  have H6 := Lib.hid h6
  clear h5 h6 ht5 ht6 hr5
  go_wp2
  go_ret
  exact ⟨rfl, _, _, H6.out⟩

set_option maxRecDepth 100000 in
set_option maxHeartbeats 3200000 in
theorem do_other (api : DiskApi D) (h : Two D w0 w F G p x S S) (op : Int) (hop : ¬ (0 ≤ op ∧ op ≤ 8)) (i b : Int) (ka : Option Addr) (kn kc : Nat) (keep : List Int) (hi : -9223372036854775808 ≤ i ∧ i ≤ 9223372036854775807) (hb : 0 ≤ b ∧ b < 256) (hr : RI w w0.heap.size ka kn keep) (hc : kn ≤ kc) (hn : kn ≤ maxLen) (hw : S.writes ≤ 9223372036854775806) :
    Calls Try.prog 11 #[.pointer (some p), .pointer (some x), .agg #[.int .i64 op, .int .i64 i, .int .u8 b, .slice ka kn kc]] w fun e w' => e = .returned (.bool true) ∧ ∃ F' G', Two D w0 w' F' G' p x (S.write i [b]) (S.write i [b]) := by
  have HK0 := Lib.hid (DoCells.box w ⟨op, i, b, ka, kn, kc, keep⟩)
  have hba := Lib.hid ((Below.refl w.heap.size w).alloc (Nat.le_refl _) (.cells #[.int .i64 op, .int .i64 i, .int .u8 b, .slice ka kn kc] 34))
  have H0 := h.later api hba.out
  have hkF : ¬ F w.heap.size := fun hf => by have := h.1.lt api _ hf; omega
  have hkG : ¬ G w.heap.size := fun hf => by have := h.2.1.lt _ hf; omega
  have HK : DoCells w.heap.size ⟨op, i, b, ka, kn, kc, keep⟩ (w.alloc (.cells #[.int .i64 op, .int .i64 i, .int .u8 b, .slice ka kn kc] 34)).drew := HK0.out
  have H1 : Two D w0 (w.alloc (.cells #[.int .i64 op, .int .i64 i, .int .u8 b, .slice ka kn kc] 34)).drew F G p x S S := h.later api (hba.out.drew)
  obtain ⟨q0, q1, q2, q3, q4⟩ := HK0.out
  have e0 : (op == 0) = false := by simp; omega
  have e1 : (op == 1) = false := by simp; omega
  have e2 : (op == 2) = false := by simp; omega
  have e3 : (op == 3) = false := by simp; omega
  have e4 : (op == 4) = false := by simp; omega
  have e5 : (op == 5) = false := by simp; omega
  have e6 : (op == 6) = false := by simp; omega
  have e7 : (op == 7) = false := by simp; omega
  have e8 : (op == 8) = false := by simp; omega
  clear h hr H0 hop
  go_enter Try.func11, Try.ntmps11
  go_wp2_with fail
  clear e0 e1 e2 e3 e4 e5 e6 e7 e8
  have hX : w.heap.size < (w.alloc (.cells #[.int .i64 op, .int .i64 i, .int .u8 b, .slice ka kn kc] 34)).heap.size := q4
  generalize (w.alloc (.cells #[.int .i64 op, .int .i64 i, .int .u8 b, .slice ka kn kc] 34)) = X at H1 q1 q2 hX ⊢
  have hFX : ¬ F w.heap.size := hkF
  have HA : Two D w0 (X.alloc (.cells #[.int .u8 b] 5)).drew F G p x S S := Two.later api H1 ((Below.refl _ _).alloc (Nat.le_refl _) (.cells #[.int .u8 b] 5))
  have RA : RB (X.alloc (.cells #[.int .u8 b] 5)).drew (X.heap.size + 1) (some ⟨X.heap.size, 0, none⟩) 1 [b] := RB.one X (u := b) 5 hb
  have hFA : ¬ F X.heap.size := fun hf => by have := H1.1.lt api _ hf; exact absurd this (Nat.lt_irrefl _)
  have hGA : ¬ G X.heap.size := fun hf => by have := H1.2.1.lt _ hf; exact absurd this (Nat.lt_irrefl _)
  have qA1 : (X.alloc (.cells #[.int .u8 b] 5)).drew.cell? ⟨w.heap.size, 1, none⟩ = some (.int .i64 i) := (World.cell?_alloc_lt X (.cells #[.int .u8 b] 5) ⟨w.heap.size, 1, none⟩ hX).trans q1
  have qA2 : (X.alloc (.cells #[.int .u8 b] 5)).drew.cell? ⟨w.heap.size, 2, none⟩ = some (.int .u8 b) := (World.cell?_alloc_lt X (.cells #[.int .u8 b] 5) ⟨w.heap.size, 2, none⟩ hX).trans q2
  have HB : Two D w0 ((X.alloc (.cells #[.int .u8 b] 5)).alloc (.cells #[.int .u8 b] 5)).drew F G p x S S := Two.later api HA ((Below.refl _ _).alloc (Nat.le_refl _) (.cells #[.int .u8 b] 5))
  have RB1 : RB ((X.alloc (.cells #[.int .u8 b] 5)).alloc (.cells #[.int .u8 b] 5)).drew (X.heap.size + 1) (some ⟨X.heap.size, 0, none⟩) 1 [b] := (RB.one X (u := b) 5 hb).alloc (by simp) (.cells #[.int .u8 b] 5)
  have RB2 : RB ((X.alloc (.cells #[.int .u8 b] 5)).alloc (.cells #[.int .u8 b] 5)).drew (X.heap.size + 1 + 1) (some ⟨X.heap.size + 1, 0, none⟩) 1 [b] := by
    have := RB.one (X.alloc (.cells #[.int .u8 b] 5)) (u := b) 5 hb
    simpa using this.drew
  have hFB : ¬ F (X.heap.size + 1) := fun hf => by have := H1.1.lt api _ hf; exact absurd this (by show ¬ X.heap.size + 1 < X.heap.size; omega)
  have hGB : ¬ G (X.heap.size + 1) := fun hf => by have := H1.2.1.lt _ hf; exact absurd this (by show ¬ X.heap.size + 1 < X.heap.size; omega)
  have qB1 : ((X.alloc (.cells #[.int .u8 b] 5)).alloc (.cells #[.int .u8 b] 5)).drew.cell? ⟨w.heap.size, 1, none⟩ = some (.int .i64 i) := (World.cell?_alloc_lt (X.alloc (.cells #[.int .u8 b] 5)) (.cells #[.int .u8 b] 5) ⟨w.heap.size, 1, none⟩ (by simp; omega)).trans qA1
  have qB2 : ((X.alloc (.cells #[.int .u8 b] 5)).alloc (.cells #[.int .u8 b] 5)).drew.cell? ⟨w.heap.size, 2, none⟩ = some (.int .u8 b) := (World.cell?_alloc_lt (X.alloc (.cells #[.int .u8 b] 5)) (.cells #[.int .u8 b] 5) ⟨w.heap.size, 2, none⟩ (by simp; omega)).trans qA2
  have hXA : w.heap.size < (X.alloc (.cells #[.int .u8 b] 5)).drew.heap.size := by simp; omega
  have hXB : w.heap.size < ((X.alloc (.cells #[.int .u8 b] 5)).alloc (.cells #[.int .u8 b] 5)).drew.heap.size := by simp; omega
  have hYA : X.heap.size + 1 ≤ (X.alloc (.cells #[.int .u8 b] 5)).drew.heap.size := by simp
  have hYX : X.heap.size + 1 + 1 ≤ ((X.alloc (.cells #[.int .u8 b] 5)).alloc (.cells #[.int .u8 b] 5)).drew.heap.size := by simp
  clear HK HK0 hba q0 q3 q4
  have tA : ∀ w6 F6, Step F F6 (X.alloc (.cells #[.int .u8 b] 5)).drew w6 → w6.cell? ⟨w.heap.size, 1, none⟩ = some (.int .i64 i) ∧ w6.cell? ⟨w.heap.size, 2, none⟩ = some (.int .u8 b) := fun w6 F6 ht6 => ⟨(ht6.1.cell hXA hFX 1).trans qA1, (ht6.1.cell hXA hFX 2).trans qA2⟩
  have tB : ∀ w6 F6, Step F F6 ((X.alloc (.cells #[.int .u8 b] 5)).alloc (.cells #[.int .u8 b] 5)).drew w6 → w6.cell? ⟨w.heap.size, 1, none⟩ = some (.int .i64 i) ∧ w6.cell? ⟨w.heap.size, 2, none⟩ = some (.int .u8 b) := fun w6 F6 ht6 => ⟨(ht6.1.cell hXB hFX 1).trans qB1, (ht6.1.cell hXB hFX 2).trans qB2⟩
  have rB1 : ∀ w6 F6, Step F F6 ((X.alloc (.cells #[.int .u8 b] 5)).alloc (.cells #[.int .u8 b] 5)).drew w6 → RB w6 (X.heap.size + 1) (some ⟨X.heap.size, 0, none⟩) 1 [b] ∧ X.heap.size + 1 ≤ w6.heap.size := fun w6 F6 ht6 => ⟨RB1.touch ht6.1 (by omega) (fun _ a ha hf => by cases ha; exact hFA hf), Nat.le_trans (by omega) (Nat.le_trans hYX ht6.1.size)⟩
  have rB2 : ∀ w6 F6, Step F F6 ((X.alloc (.cells #[.int .u8 b] 5)).alloc (.cells #[.int .u8 b] 5)).drew w6 → RB w6 (X.heap.size + 1 + 1) (some ⟨X.heap.size + 1, 0, none⟩) 1 [b] ∧ X.heap.size + 1 + 1 ≤ w6.heap.size := fun w6 F6 ht6 => ⟨RB2.touch ht6.1 hYX (fun _ a ha hf => by cases ha; exact hFB hf), Nat.le_trans hYX ht6.1.size⟩
  have tW : ∀ w6 : World, (w6.cell? ⟨w.heap.size, 1, none⟩ = some (.int .i64 i) ∧ w6.cell? ⟨w.heap.size, 2, none⟩ = some (.int .u8 b)) → (w6.alloc (.cells #[.int .u8 b] 5)).cell? ⟨w.heap.size, 1, none⟩ = some (.int .i64 i) ∧ (w6.alloc (.cells #[.int .u8 b] 5)).cell? ⟨w.heap.size, 2, none⟩ = some (.int .u8 b) := fun w6 h => ⟨(World.cell?_alloc_lt w6 (.cells #[.int .u8 b] 5) ⟨w.heap.size, 1, none⟩ (World.block_lt_of_cell? w6 _ h.1)).trans h.1, (World.cell?_alloc_lt w6 (.cells #[.int .u8 b] 5) ⟨w.heap.size, 2, none⟩ (World.block_lt_of_cell? w6 _ h.2)).trans h.2⟩
  have tH : ∀ (w6 : World) F6, Two D w0 w6 F6 G p x (S.write i [b]) S → Two D w0 (w6.alloc (.cells #[.int .u8 b] 5)) F6 G p x (S.write i [b]) S ∧ ¬ G w6.heap.size ∧ RB (w6.alloc (.cells #[.int .u8 b] 5)) (w6.heap.size + 1) (some ⟨w6.heap.size, 0, none⟩) 1 [b] ∧ w6.heap.size + 1 ≤ (w6.alloc (.cells #[.int .u8 b] 5)).heap.size := fun w6 F6 h => ⟨Two.later api h ((Below.refl _ _).alloc (Nat.le_refl _) (.cells #[.int .u8 b] 5)), fun hg => absurd (h.2.1.lt _ hg) (Nat.lt_irrefl _), RB.one w6 (u := b) 5 hb, by simp⟩
  have tG : ∀ (w6 w8 : World) G8, Step G G8 w6 w8 → (w6.cell? ⟨w.heap.size, 1, none⟩ = some (.int .i64 i) ∧ w6.cell? ⟨w.heap.size, 2, none⟩ = some (.int .u8 b)) → w8.cell? ⟨w.heap.size, 1, none⟩ = some (.int .i64 i) ∧ w8.cell? ⟨w.heap.size, 2, none⟩ = some (.int .u8 b) := fun w6 w8 G8 ht8 h => ⟨(ht8.1.cell (World.block_lt_of_cell? w6 _ h.1) hkG 1).trans h.1, (ht8.1.cell (World.block_lt_of_cell? w6 _ h.1) hkG 2).trans h.2⟩
  go_region_held3 (fun w' => w'.cell? ⟨w.heap.size, 1, none⟩ = some (.int .i64 i) ∧ w'.cell? ⟨w.heap.size, 2, none⟩ = some (.int .u8 b)) (first | exact ⟨q1, q2⟩ | exact ⟨qA1, qA2⟩ | exact ⟨qB1, qB2⟩ | exact q6 | exact q7 | exact q8)
    (first
      | (go_at_call 18; with_reducible refine (two_write api HA _ RA (by decide) (by decide) hw hFA).mono ?_; rintro e w6 ⟨rfl, F6, h6, ht6⟩; have q6 := tA _ _ ht6; have q7 := tW _ q6; have s6 := tH _ _ h6)
      | (go_at_call 18; with_reducible refine (two_write api HB _ RB1 (by decide) (by decide) hw hFA).mono ?_; rintro e w6 ⟨rfl, F6, h6, ht6⟩; have q6 := tB _ _ ht6; have r6 := rB2 _ _ ht6; have g6 := hGB)
      | (go_at_call 18; with_reducible refine (two_write api HB _ RB2 (by decide) (by decide) hw hFB).mono ?_; rintro e w6 ⟨rfl, F6, h6, ht6⟩; have q6 := tB _ _ ht6; have r6 := rB1 _ _ ht6; have g6 := hGA)
      | (go_at_call 29; with_reducible refine (two_refWrite api h6 _ r6.1 r6.2 (by decide) hw g6).mono ?_; rintro e w8 ⟨rfl, G8, h8, ht8⟩; have q8 := tG _ _ _ ht8 q6)
      | (go_at_call 29; with_reducible refine (two_refWrite api s6.1 _ s6.2.2.1 s6.2.2.2 (by decide) hw s6.2.1).mono ?_; rintro e w8 ⟨rfl, G8, h8, ht8⟩; have q8 := tG _ _ _ ht8 q7))
  all_goals (go_wp2; go_ret; exact ⟨by simp, _, _, h8⟩)

/-- One call of both. -/
theorem do_any (api : DiskApi D) (h : Two D w0 w F G p x S S) (d : DoV) (hi : -9223372036854775808 ≤ d.i ∧ d.i ≤ 9223372036854775807) (hb : 0 ≤ d.b ∧ d.b < 256) (hr : RI w w0.heap.size d.ka d.kn d.keep) (hc : d.kn ≤ d.kc) (hn : d.kn ≤ maxLen) (hw : S.writes ≤ 9223372036854775806) :
    Calls Try.prog 11 #[.pointer (some p), .pointer (some x), .agg #[.int .i64 d.op, .int .i64 d.i, .int .u8 d.b, .slice d.ka d.kn d.kc]] w fun e w' => e = .returned (.bool true) ∧ ∃ F' G', Two D w0 w' F' G' p x (S.step d) (S.step d) := by
  obtain ⟨op, i, b, ka, kn, kc, keep⟩ := d
  by_cases hop : 0 ≤ op ∧ op ≤ 8
  · have hcase : op = 0 ∨ op = 1 ∨ op = 2 ∨ op = 3 ∨ op = 4 ∨ op = 5 ∨ op = 6 ∨ op = 7 ∨ op = 8 := by omega
    rcases hcase with rfl | rfl | rfl | rfl | rfl | rfl | rfl | rfl | rfl
    · exact do_0 api h i b ka kn kc keep hi hb hr hc hn hw
    · exact do_1 api h i b ka kn kc keep hi hb hr hc hn hw
    · exact do_2 api h i b ka kn kc keep hi hb hr hc hn hw
    · exact do_3 api h i b ka kn kc keep hi hb hr hc hn hw
    · exact do_4 api h i b ka kn kc keep hi hb hr hc hn hw
    · exact do_5 api h i b ka kn kc keep hi hb hr hc hn hw
    · exact do_6 api h i b ka kn kc keep hi hb hr hc hn hw
    · exact do_7 api h i b ka kn kc keep hi hb hr hc hn hw
    · exact do_8 api h i b ka kn kc keep hi hb hr hc hn hw
  · have hst : S.step ⟨op, i, b, ka, kn, kc, keep⟩ = S.write i [b] := by
      unfold DS.step
      rw [if_neg (by show ¬ (0 ≤ op ∧ op ≤ 4); omega), if_neg (by show ¬ op = 5; omega), if_neg (by show ¬ op = 6; omega), if_neg (by show ¬ op = 7; omega), if_neg (by show ¬ op = 8; omega)]
    rw [hst]
    exact do_other api h op hop i b ka kn kc keep hi hb hr hc hn hw
end
end Go.Proofs.Ytkpopdoigkcpgaa
