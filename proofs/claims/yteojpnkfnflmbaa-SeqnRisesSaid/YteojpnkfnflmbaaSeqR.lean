/-
  The laws' own check of layer 20: it returns true. No condition.
-/
import Derived.Test.YteojpnkfnflmbaaSeqP
namespace Go.Proofs.Yteojpnkfnflmbaa
open Go.RowKit Go.Maps
set_option maxRecDepth 100000
set_option linter.unusedVariables false

set_option maxHeartbeats 3200000 in
theorem seqAwake_any (w : World) : Calls Try.prog 29 #[] w fun e w' => e = .returned (.bool true) ∧ Below w.heap.size w w' := by
  have HN := Lib.hid (vNew_any w (fun _ => False) (fun k h => h.elim))
  go_enter Try.func29, Try.ntmps29
  go_wp2_with fail
  refine HN.out.mono ?_
  rintro e w1 ⟨v, m, c, rfl, h1, hb1, hv, hm, hc⟩
  obtain ⟨X, hX⟩ : ∃ X : Nat → Prop, X = fun k => False ∨ k = v ∨ k = m ∨ k = c := ⟨_, rfl⟩
  rw [← hX] at h1
  have I1 := CntS.start.next (n := 1) (by omega) (by omega)
  have I2 := I1.next (n := 1) (by omega) (by simp)
  have A0 : seqV ((⟨[], []⟩ : VS).now (tx (keyL 83 [1]))) = 0 := CntS.start.is 1 (by omega)
  have L1 : ((⟨[], []⟩ : VS).next 1).C.length < maxLen := Nat.lt_of_le_of_lt (next_len _ _) (by decide)
  obtain ⟨S1, hS1⟩ : ∃ S1, S1 = (⟨[], []⟩ : VS).next 1 := ⟨_, rfl⟩
  have A1 : seqV (S1.now (tx (keyL 83 [1]))) = 1 := by rw [hS1]; exact I1.is 1 (by omega)
  obtain ⟨S2, hS2⟩ : ∃ S2, S2 = S1.next 1 := ⟨_, rfl⟩
  have B1 : seqV (S2.now (tx (keyL 83 [1]))) = 2 := by rw [hS2, hS1]; exact I2.is 1 (by omega)
  have B2 : seqV (S2.now (tx (keyL 83 [2]))) = 0 := by rw [hS2, hS1]; exact I2.is 2 (by omega)
  rw [← hS1] at L1
  have HX := Lib.hid (sNext_any h1 1 (by omega) (by decide))
  rw [A0, nextE_in (by omega), ← hS1] at HX
  have HB := Lib.hid hb1
  clear A0 I1 I2 hS1 h1 hb1 hX
  go_wp2_with fail
  refine HX.out.mono ?_
  rintro e w2 ⟨rfl, h2, t2⟩
  have HY := Lib.hid (sNext_any h2 1 (by omega) L1)
  rw [A1, nextE_in (by omega), ← hS2] at HY
  have HB2 := Lib.hid (HB.out.trans (t2.below (fun k e => by rw [e]; exact hc) HB.out.size))
  clear A1 L1 hS2 h2 t2 HX HB
  go_wp2_with fail
  refine HY.out.mono ?_
  rintro e w3 ⟨rfl, h3, t3⟩
  have HB3 := Lib.hid (HB2.out.trans (t3.below (fun k e => by rw [e]; exact hc) HB2.out.size))
  have HL := Lib.hid (fun W (hb : Below w3.heap.size w3 W) => sLast_any (h3.below hb) 1 (by omega))
  have HM := Lib.hid (fun W (hb : Below w3.heap.size w3 W) => sLast_any (h3.below hb) 2 (by omega))
  rw [B1] at HL
  rw [B2] at HM
  clear B1 B2 h3 t3 HY HB2
  go_wp2_with fail
  refine (HL.out _ (Below.refl _ _)).mono ?_
  rintro e w4 ⟨rfl, hb4⟩
  have H4 := Lib.hid hb4
  clear hb4
  go_wp2_with fail
  refine (HM.out _ H4.out).mono ?_
  rintro e w5 ⟨rfl, hb5⟩
  have HE := Lib.hid (HB3.out.trans ((H4.out.trans (hb5.mono H4.out.size)).mono HB3.out.size))
  clear hb5 H4 HB3
  go_wp2_with fail
  go_ret
  exact ⟨rfl, HE.out⟩

end Go.Proofs.Yteojpnkfnflmbaa
