/-
  The view laws' own check: it returns true. No condition.
-/
import Derived.Test.YteogpohhnnjbmaaGreatViewF
import Derived.Lib.SlBytesConst
namespace Go.Proofs.YteogpohhnnjbmaaGreat
open Go.RowKit Go.Maps
set_option maxRecDepth 100000
set_option linter.unusedVariables false

def vs1 : VS := ⟨[], [([97], some [120])]⟩
def vs2 : VS := ⟨[([97], [120])], []⟩
def vs3 : VS := ⟨[([97], [120])], [([97], none)]⟩
theorem vs1_is : (⟨[], []⟩ : VS).putR [97] [120] = vs1 := by rfl
theorem vs2_is : vs1.commit = vs2 := by rfl
theorem vs3_is : vs2.del (tx [97]) = vs3 := by rfl
theorem vs4_is : vs3.abort = vs2 := by rfl
theorem by97 : by_ [97] = [97] := by rfl
theorem by120 : by_ [120] = [120] := by rfl

/-- A literal of one byte. -/
def lit1O (x : Int) : Obj := .cells #[.int .u8 x] 5 (1, 2)
theorem lit1 (w : World) (x : Int) (hx : 0 ≤ x ∧ x < 256) : RB (w.alloc (lit1O x)) (w.heap.size + 1) (some ⟨w.heap.size, 0, none⟩) 1 [x] := RB.mark w 5 [x] #[.int .u8 x] (1, 2) rfl (fun y hy => by obtain rfl := List.mem_singleton.1 hy; exact hx)

set_option maxHeartbeats 3200000 in
theorem vAwake_any (w : World) : Calls Tryz.prog 7 #[] w fun e w' => e = .returned (.bool true) ∧ Below w.heap.size w w' := by
  have HN := Lib.hid (vNew_any w (fun _ => False) (fun k h => h.elim))
  go_enter Tryz.func7, Tryz.ntmps7
  go_wp2_with fail
  refine HN.out.mono ?_
  rintro e w1 ⟨v, m, c, rfl, h1, hb1, hv, hm, hc⟩
  obtain ⟨X, hX⟩ : ∃ X : Nat → Prop, X = fun k => False ∨ k = v ∨ k = m ∨ k = c := ⟨_, rfl⟩
  rw [← hX] at h1
  have L1 := lit1 w1 97 (by decide)
  have L2 := lit1 (w1.alloc (lit1O 97)) 120 (by decide)
  have b1 : Below w1.heap.size w1 (w1.alloc (lit1O 97)) := (Below.refl _ _).alloc (Nat.le_refl _) _
  have b2 : Below (w1.alloc (lit1O 97)).heap.size (w1.alloc (lit1O 97)) ((w1.alloc (lit1O 97)).alloc (lit1O 120)) := (Below.refl _ _).alloc (Nat.le_refl _) _
  have z1 : (w1.alloc (lit1O 97)).heap.size = w1.heap.size + 1 := by simp
  have z2 : ((w1.alloc (lit1O 97)).alloc (lit1O 120)).heap.size = w1.heap.size + 1 + 1 := by simp
  rw [z1] at L2
  have HP := Lib.hid (vPut_any (k := 1) (k' := 1) ((h1.below b1).below b2) (L1.below (by rw [← z1]; exact b2)) (by omega) (by decide) L2 (by omega) (by decide) (by decide))
  have HB3 := Lib.hid (hb1.trans ((b1.trans (b2.mono b1.size)).mono hb1.size))
  have kc := fun (w : World) (C : Array Value) (n c : Nat) => Lib.run_convert_bytes_const (P := Tryz.prog) w 45 5 C n c Tryz.underlying45 Tryz.underlying5
  have kc2 : ∀ (w : World) (o : Obj) (C : Array Value) (n c : Nat), (convert 45 45 (.slice (some ⟨w.heap.size + 1, 0, none⟩) n c)).run Tryz.prog ((w.alloc o).alloc (.cells C 5)) = .ok (.slice (some ⟨w.heap.size + 1, 0, none⟩) n c) ((w.alloc o).alloc (.cells C 5 (C.size, C.size + 1))) := fun w o C n c => by
    have h := kc (w.alloc o) C n c
    rw [show (w.alloc o).heap.size = w.heap.size + 1 by simp] at h
    exact h
  rw [vs1_is] at HP
  have e0 : putE [97] [120] = 0 := by decide
  rw [e0] at HP
  unfold lit1O at HP HB3
  clear h1 L1 L2 b1 b2 hb1 z1 z2
  go_wp2_with fail
  refine HP.out.mono ?_
  rintro e w4 ⟨rfl, h4, t4⟩
  have HCm := Lib.hid (vCommit_any h4 (by decide) (by decide) (by decide))
  have ht4 := Lib.hid (Touch.below (B := w.heap.size) t4 (fun k e => by rw [e]; exact hc) HB3.out.size)
  rw [vs2_is] at HCm
  clear h4 t4
  go_wp2_with fail
  refine HCm.out.mono ?_
  rintro e w5 ⟨rfl, h5, t5⟩
  have HB5 := Lib.hid ((HB3.out.trans ht4.out).trans (Touch.below (B := w.heap.size) t5 (fun k e => by rcases e with e | e <;> rw [e] <;> assumption) (HB3.out.trans ht4.out).size))
  have b6 : Below w5.heap.size w5 (w5.alloc (lit1O 97)) := (Below.refl _ _).alloc (Nat.le_refl _) _
  have HD := Lib.hid (vDelete_any (k := 1) (h5.below b6) (lit1 w5 97 (by decide)) (by simp) (by decide) (by decide))
  have HB6 := Lib.hid (HB5.out.trans (b6.mono HB5.out.size))
  have e1 : (vs2.now (tx [97])).isSome = true := by rfl
  rw [e1, show vs2.del (tx [97]) = vs3 from rfl] at HD
  unfold lit1O at HD HB6
  clear h5 t5 b6
  go_wp2_with fail
  refine HD.out.mono ?_
  rintro e w7 ⟨rfl, h7, t7⟩
  have HB7 := Lib.hid (HB6.out.trans (Touch.below (B := w.heap.size) t7 (fun k e => by rw [e]; exact hc) HB6.out.size))
  have b8 : Below w7.heap.size w7 (w7.alloc (lit1O 97)) := (Below.refl _ _).alloc (Nat.le_refl _) _
  have h8 := h7.below b8
  have HG := Lib.hid (vGet_any (k := 1) h8 (lit1 w7 97 (by decide)) (by simp) (by decide))
  have HB8 := Lib.hid (HB7.out.trans (b8.mono HB7.out.size))
  have H8 := Lib.hid h8
  have e2 : (vs3.now (tx [97])).isSome = false := by rfl
  rw [e2] at HG
  unfold lit1O at HG HB8 H8
  clear h7 t7 b8 h8
  go_wp2_with fail
  refine HG.out.mono ?_
  rintro e w9 ⟨u9, rfl, hs9, hb9⟩
  obtain ⟨A9, n9, k9, rfl, _⟩ := hs9
  have h9 := H8.out.below hb9
  have HCh := Lib.hid (vChangesP_any h9 (by decide) (by decide))
  have H9 := Lib.hid h9
  have HB9 := Lib.hid (HB8.out.trans (hb9.mono HB8.out.size))
  clear h9 hb9
  go_wp2_with fail
  refine HCh.out.mono ?_
  rintro e w10 ⟨A, n, k, A', n', k', rfl, _, _, _, hT, hb10⟩
  obtain rfl : n' = 1 := hT.len.symm
  have h10 := H9.out.below hb10
  have HAb := Lib.hid (vAbort_any h10)
  have HB10 := Lib.hid (HB9.out.trans (hb10.mono HB9.out.size))
  rw [vs4_is] at HAb
  clear h10 hb10 hT
  go_wp2_with fail
  refine HAb.out.mono ?_
  rintro e w11 ⟨rfl, h11, t11⟩
  have HB11 := Lib.hid (HB10.out.trans (Touch.below (B := w.heap.size) t11 (fun k e => by rw [e]; exact hc) HB10.out.size))
  have b12 : Below w11.heap.size w11 (w11.alloc (lit1O 97)) := (Below.refl _ _).alloc (Nat.le_refl _) _
  have h12 := h11.below b12
  have HG2 := Lib.hid (vGet_any (k := 1) h12 (lit1 w11 97 (by decide)) (by simp) (by decide))
  have HB12 := Lib.hid (HB11.out.trans (b12.mono HB11.out.size))
  have H12 := Lib.hid h12
  have e3 : (vs2.now (tx [97])).isSome = true := by rfl
  have e4 : (vs2.now (tx [97])).getD [] = [120] := by rfl
  rw [e3, e4] at HG2
  unfold lit1O at HG2 HB12 H12
  clear h11 t11 b12 h12
  go_wp2_with fail
  refine HG2.out.mono ?_
  rintro e w13 ⟨u13, rfl, hs13, hb13⟩
  obtain ⟨A13, n13, k13, rfl, _, _, r13, _⟩ := hs13
  have hcv : (convert 45 9 (.slice A13 n13 k13)).run Tryz.prog w13 = .ok (.string ⟨#[120]⟩) w13 := r13.conv k13
  have HEr := Lib.hid (vErr_any (H12.out.below hb13))
  have HB13 := Lib.hid (HB12.out.trans (hb13.mono HB12.out.size))
  clear hb13 r13
  go_wp2_with fail
  refine HEr.out.mono ?_
  rintro e w14 ⟨rfl, rfl⟩
  go_wp2_with fail
  go_ret
  exact ⟨rfl, HB13.out⟩

end Go.Proofs.YteogpohhnnjbmaaGreat
