/-
  The laws' own check of layer 21: it returns true. No condition.
-/
import Derived.Test.YtbhjmplhmoikbaaGreatChaD
namespace Go.Proofs.YtbhjmplhmoikbaaGreat
open Go.RowKit Go.Maps
set_option maxRecDepth 100000
set_option linter.unusedVariables false

def tGen : Txt := [103, 101, 110, 101, 114, 97, 108]
def tX : Txt := [120]
def aw0 : VS := ⟨[], []⟩
def aw1 : VS := aw0.put (tx (keyL 70 [100])) (by_ tGen)
def aw2 : VS := aw1.put (tx (keyL 79 [5010])) []
theorem aw_a : newFundE aw0 100 tGen = 0 := by decide +kernel
theorem aw_b : newFundE aw1 100 tX = 8 := by decide +kernel
theorem aw_c : newObjE aw1 5010 = 0 := by decide +kernel
theorem aw_d : aw2.now (tx (keyL 70 [100])) = some (by_ tGen) := by decide +kernel
theorem aw_e : aw2.now (tx (keyL 79 [5010])) = some [] := by decide +kernel
theorem aw_f : objsL aw1 = [] := by decide +kernel
theorem aw_g : objsL aw2 = [5010] := by decide +kernel
theorem aw_1 : newFund aw0 100 tGen = aw1 := by unfold newFund; rw [aw_a]; rfl
theorem aw_2 : newFund aw1 100 tX = aw1 := by unfold newFund; rw [aw_b]; rfl
theorem aw_3 : newObj aw1 5010 = aw2 := by unfold newObj; rw [aw_c]; rfl
theorem scan0 : ScanOk aw0 := ⟨by decide, fun p (h : p ∈ ([] : TL)) => absurd h List.not_mem_nil, by decide, fun p (h : p ∈ ([] : List (Txt × Option (List Int)))) => absurd h List.not_mem_nil⟩
theorem ScanOk.put {S : VS} (h : ScanOk S) (hc : S.C.length ≤ 32766) {x : Txt} (hx : x.length ≤ 140737488355328) (v : List Int) : ScanOk (S.put x v) :=
  ⟨h.wf, h.wk, Nat.le_trans (setT_len _ _ _) (Nat.succ_le_succ hc), fun p hp => by
    rcases mem_setT hp with rfl | hp
    · exact hx
    · exact h.ck p hp⟩
theorem scan1 : ScanOk aw1 := scan0.put (by decide) (by rw [tx_length, keyLen1]; decide) _
theorem scan2 : ScanOk aw2 := scan1.put (by decide +kernel) (by rw [tx_length, keyLen1]; decide) _
theorem gen_str : strOfNums (by_ tGen) = { data := #[103, 101, 110, 101, 114, 97, 108] } := by kernel_rfl

set_option maxHeartbeats 6400000 in
theorem chaAwake_any (w : World) : Calls Tryz.prog 6 #[] w fun e w' => e = .returned (.bool true) ∧ Below w.heap.size w w' := by
  have HN := Lib.hid (vNew_any w (fun _ => False) (fun k h => h.elim))
  go_enter Tryz.func6, Tryz.ntmps6
  go_wp2_with fail
  refine HN.out.mono ?_
  rintro e w1 ⟨v, m, c, rfl, h1, hb1, hv, hm, hc⟩
  obtain ⟨X, hX⟩ : ∃ X : Nat → Prop, X = fun k => False ∨ k = v ∨ k = m ∨ k = c := ⟨_, rfl⟩
  rw [← hX] at h1
  have HA := Lib.hid (show Calls Tryz.prog 10 #[.pointer (some ⟨v, 0, none⟩), .int .i64 100, .string { data := #[103, 101, 110, 101, 114, 97, 108] }] w1 fun e w' => e = .returned (.int .i64 0) ∧ ViewAt w' X v m c aw1 ∧ Touch (fun k => k = c) w1 w' from by
    have := newFund_any h1 scan0 100 (by omega) tGen (by decide)
    rwa [show (⟨[], []⟩ : VS) = aw0 from rfl, aw_a, aw_1] at this)
  have HB := Lib.hid (And.intro hb1 hc)
  clear h1 hb1 hX hv hm hc HN
  go_wp2_with fail
  refine HA.out.mono ?_
  rintro e w2 ⟨rfl, h2, t2⟩
  have HA2 := Lib.hid (show Calls Tryz.prog 10 #[.pointer (some ⟨v, 0, none⟩), .int .i64 100, .string { data := #[120] }] w2 fun e w' => e = .returned (.int .i64 8) ∧ ViewAt w' X v m c aw1 ∧ Touch (fun k => k = c) w2 w' from by
    have := newFund_any h2 scan1 100 (by omega) tX (by decide)
    rwa [aw_b, aw_2] at this)
  have HB2 := Lib.hid (HB.out.1.trans (t2.below (fun k e => by rw [e]; exact HB.out.2) HB.out.1.size))
  clear h2 t2 HA
  go_wp2_with fail
  refine HA2.out.mono ?_
  rintro e w3 ⟨rfl, h3, t3⟩
  have HA3 := Lib.hid (show Calls Tryz.prog 32 #[.pointer (some ⟨v, 0, none⟩), .int .i64 5010] w3 fun e w' => e = .returned (.int .i64 0) ∧ ViewAt w' X v m c aw2 ∧ Touch (fun k => k = c) w3 w' from by
    have := newObj_any h3 scan1 (fun x hx => by rw [aw_f] at hx; cases hx) 5010 (by omega)
    rwa [aw_c, aw_3] at this)
  have HB3 := Lib.hid (HB2.out.trans (t3.below (fun k e => by rw [e]; exact HB.out.2) HB2.out.size))
  clear h3 t3 HA2 HB2
  go_wp2_with fail
  refine HA3.out.mono ?_
  rintro e w4 ⟨rfl, h4, t4⟩
  have HB4 := Lib.hid (HB3.out.trans (t4.below (fun k e => by rw [e]; exact HB.out.2) HB3.out.size))
  have HF := Lib.hid (show Calls Tryz.prog 33 #[.pointer (some ⟨v, 0, none⟩), .int .i64 100] w4 fun e w' => e = .returned (.tuple #[.string { data := #[103, 101, 110, 101, 114, 97, 108] }, .bool true]) ∧ Below w4.heap.size w4 w' from by
    have := cFund_any h4 100 (by omega)
    rw [aw_d] at this
    rw [show (some (by_ tGen)).getD [] = by_ tGen from rfl, gen_str] at this
    exact this)
  have HO := Lib.hid (show ∀ W, Below w4.heap.size w4 W → Calls Tryz.prog 34 #[.pointer (some ⟨v, 0, none⟩), .int .i64 5010] W fun e w' => e = .returned (.bool true) ∧ Below W.heap.size W w' from fun W hb => by
    have := cObject_any (h4.below hb) 5010 (by omega)
    rw [aw_e] at this
    exact this)
  have HO2 := Lib.hid (show ∀ W, Below w4.heap.size w4 W → Calls Tryz.prog 34 #[.pointer (some ⟨v, 0, none⟩), .int .i64 1010] W fun e w' => e = .returned (.bool true) ∧ Below W.heap.size W w' from fun W hb => by
    have := cObject_any (h4.below hb) 1010 (by omega)
    exact this)
  have HL := Lib.hid (show ∀ W, Below w4.heap.size w4 W → Calls Tryz.prog 35 #[.pointer (some ⟨v, 0, none⟩)] W fun e w' => ∃ A c, e = .returned (.slice A 5 c) ∧ Below W.heap.size W w' from fun W hb => (cObjects_any (h4.below hb) scan2 (fun x hx => by rw [aw_g] at hx; obtain rfl := List.mem_singleton.1 hx; rfl)).mono fun e w' q => by
    obtain ⟨u, rfl, ho, hb'⟩ := q
    rw [aw_g] at ho
    obtain ⟨A, k, rfl, _⟩ := int_own_shape ho
    exact ⟨A, k, rfl, hb'⟩)
  clear h4 t4 HA3 HB3
  go_wp2_with fail
  refine HF.out.mono ?_
  rintro e w5 ⟨rfl, hb5⟩
  have H5 := Lib.hid hb5
  clear hb5 HF
  go_wp2_with fail
  refine (HO.out _ H5.out).mono ?_
  rintro e w6 ⟨rfl, hb6⟩
  have H6 := Lib.hid (H5.out.trans (hb6.mono H5.out.size))
  clear hb6 HO H5
  go_wp2_with fail
  refine (HO2.out _ H6.out).mono ?_
  rintro e w7 ⟨rfl, hb7⟩
  have H7 := Lib.hid (H6.out.trans (hb7.mono H6.out.size))
  clear hb7 HO2 H6
  go_wp2_with fail
  refine (HL.out _ H7.out).mono ?_
  rintro e w8 ⟨A, k, rfl, hb8⟩
  have HE := Lib.hid (HB4.out.trans ((H7.out.trans (hb8.mono H7.out.size)).mono HB4.out.size))
  clear hb8 HL H7 HB4
  go_wp2_with fail
  go_ret
  exact ⟨rfl, HE.out⟩
end Go.Proofs.YtbhjmplhmoikbaaGreat
