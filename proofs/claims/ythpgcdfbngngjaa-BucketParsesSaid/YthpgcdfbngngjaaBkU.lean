/-
  Contract of the statement package's own check over a known bucket: it answers true; it makes memory, and writes nothing that was there. No condition.
-/
import Derived.Test.YthpgcdfbngngjaaBkT
import Derived.Test.YthpgcdfbngngjaaBkP
import Derived.Lib.SlBytesConst
namespace Go.Proofs.Ythpgcdfbngngjaa
open Go.RowKit
set_option maxRecDepth 100000
set_option linter.unusedVariables false

/-- The known bucket. -/
def knownBk : BV := ⟨2, 0, [([97], [98])]⟩
theorem known_may : mayBk knownBk = true := by decide +kernel
theorem known_put : putBk knownBk = (pageBk knownBk, 0) := by unfold putBk; rw [if_pos known_may]
theorem known_find : findI [([97], [98])] [97] = 0 := by decide +kernel

set_option maxHeartbeats 3200000 in
theorem bkAwake_any (w : World) : Calls Try.prog 14 #[] w fun e w' => e = .returned (.bool true) ∧ Below w.heap.size w w' := by
  have kc := fun (w : World) (C : Array Value) (n c : Nat) => Lib.run_convert_bytes_const (P := Try.prog) w 22 5 C n c Try.underlying22 Try.underlying5
  have b1 : Below w.heap.size w (w.alloc (.cells #[.int .u8 97] 5 (1, 2))) := (Below.refl _ _).alloc (Nat.le_refl _) _
  have s1 : (w.alloc (.cells #[.int .u8 97] 5 (1, 2))).heap.size = w.heap.size + 1 := by simp
  have m1 := RB.mark w 5 [97] #[.int .u8 97] (1, 2) rfl (by unfold AllBytes; decide)
  have m2 := RB.mark (w.alloc (.cells #[.int .u8 97] 5 (1, 2))) 5 [98] #[.int .u8 98] (1, 2) rfl (by unfold AllBytes; decide)
  rw [s1] at m2
  have s2 : ((w.alloc (.cells #[.int .u8 97] 5 (1, 2))).alloc (.cells #[.int .u8 98] 5 (1, 2))).heap.size = w.heap.size + 2 := by simp
  have m1' := (m1.alloc (by omega) (.cells #[.int .u8 98] 5 (1, 2)))
  have b3 : Below w.heap.size w (((w.alloc (.cells #[.int .u8 97] 5 (1, 2))).alloc (.cells #[.int .u8 98] 5 (1, 2))).alloc (.cells #[.slice (some ⟨w.heap.size, 0, none⟩) 1 1, .slice (some ⟨w.heap.size + 1, 0, none⟩) 1 1] 48 (0, 0))) := ((Below.refl _ _).alloc (Nat.le_refl _) _).alloc (by simp) _ |>.alloc (by simp; omega) _
  have hpb := PBox.new ((w.alloc (.cells #[.int .u8 97] 5 (1, 2))).alloc (.cells #[.int .u8 98] 5 (1, 2))) (.slice (some ⟨w.heap.size, 0, none⟩) 1 1) (.slice (some ⟨w.heap.size + 1, 0, none⟩) 1 1)
  rw [s2] at hpb
  have s3 : (((w.alloc (.cells #[.int .u8 97] 5 (1, 2))).alloc (.cells #[.int .u8 98] 5 (1, 2))).alloc (.cells #[.slice (some ⟨w.heap.size, 0, none⟩) 1 1, .slice (some ⟨w.heap.size + 1, 0, none⟩) 1 1] 48 (0, 0))).heap.size = w.heap.size + 3 := by simp
  have hrp : RPairs (((w.alloc (.cells #[.int .u8 97] 5 (1, 2))).alloc (.cells #[.int .u8 98] 5 (1, 2))).alloc (.cells #[.slice (some ⟨w.heap.size, 0, none⟩) 1 1, .slice (some ⟨w.heap.size + 1, 0, none⟩) 1 1] 48 (0, 0))) (w.heap.size + 3) (some ⟨w.heap.size + 2, 0, none⟩) 1 [([97], [98])] := by
    refine ⟨rfl, fun _ => ⟨w.heap.size + 2, 0, rfl, by omega, fun j x hx => ?_⟩⟩
    match j, hx with
    | 0, hx =>
      obtain rfl : (([97], [98]) : KV) = x := by simpa using hx
      exact ⟨_, 1, 1, _, 1, 1, hpb.cells.1, hpb.cells.2, (m1'.alloc (by omega) _).more (by omega), ⟨Nat.le_refl _, by decide⟩, (m2.alloc (by omega) _).more (by omega), ⟨Nat.le_refl _, by decide⟩⟩
  have kc2 := fun (C : Array Value) (n c : Nat) => kc (w.alloc (.cells #[.int .u8 97] 5 (1, 2))) C n c
  rw [s1] at kc2
  have HP := Lib.hid (bkPut_any 2 0 1 hrp (by omega) (by decide) (by decide) (by decide) (by decide))
  rw [show putBk ⟨2, 0, [([97], [98])]⟩ = (pageBk knownBk, 0) from known_put] at HP
  have HB3 := Lib.hid b3
  have hlen := pageBk_length (mayBk_few known_may).1
  have HPP := Lib.hid (parse_page known_may)
  clear b1 m1 m2 m1' hpb hrp b3 s1 s2
  go_enter Try.func14, Try.ntmps14
  go_wp2_with fail
  refine HP.out.mono ?_
  rintro e w4 ⟨A4, n4, c4, rfl, hc4, hr4, hb4⟩
  have hr4 : RB w4 w4.heap.size A4 n4 (pageBk knownBk) := hr4
  obtain rfl : n4 = 240 := by rw [← hr4.len, hlen]
  have HB4 := Lib.hid (HB3.out.trans (hb4.mono HB3.out.size))
  have HQ := Lib.hid (bkParse_any hr4 (Nat.le_refl _) hc4 (by decide))
  rw [show parseBk (pageBk knownBk) = ((⟨2, 0, [([97], [98])]⟩ : BV), 0) from HPP.out] at HQ
  clear hr4 hb4 HP HB3 s3
  go_wp2_with fail
  refine HQ.out.mono ?_
  rintro e w5 ⟨A5, n5, c5, rfl, hc5, hr5, hb5⟩
  have hr5 : RPairs w5 w5.heap.size A5 n5 [([97], [98])] := hr5
  obtain rfl : n5 = 1 := hr5.len.symm
  have hbx := BkBox.new w5 2 0 A5 1 c5
  have hX : Below w5.heap.size w5 ((w5.alloc (BkObj 2 0 A5 1 c5)).alloc (.cells #[.int .u8 97] 5 (1, 2))) := ((Below.refl _ _).alloc (Nat.le_refl _) _).alloc (by simp) _
  have hbx2 := hbx.below ((Below.refl _ _).alloc (Nat.le_refl _) (.cells #[.int .u8 97] 5 (1, 2)))
  have mk := RB.mark (w5.alloc (BkObj 2 0 A5 1 c5)) 5 [97] #[.int .u8 97] (1, 2) rfl (by unfold AllBytes; decide)
  have sx : (w5.alloc (BkObj 2 0 A5 1 c5)).heap.size = w5.heap.size + 1 := by simp
  have sx2 : ((w5.alloc (BkObj 2 0 A5 1 c5)).alloc (.cells #[.int .u8 97] 5 (1, 2))).heap.size = w5.heap.size + 2 := by simp
  rw [sx] at mk
  have kc3 := fun (C : Array Value) (n c : Nat) => kc (w5.alloc (BkObj 2 0 A5 1 c5)) C n c
  rw [sx] at kc3
  have HF := Lib.hid (bkFind_any 2 0 c5 1 ((hr5.below hX).more (show w5.heap.size ≤ w5.heap.size + 2 by omega)) (by omega) (by decide) mk)
  rw [known_find] at HF
  have HS := Lib.hid (fun (W : World) (hW : Below w5.heap.size w5 W) => bkSize_any 2 0 c5 ((hr5.below hW)) hW.size (by decide) (by decide))
  have HB5 := Lib.hid (And.intro hX (HB4.out.trans (hb5.mono HB4.out.size)))
  have HBX := Lib.hid (And.intro hbx hbx2)
  obtain ⟨x0, x1, x2, _⟩ := hbx.cells
  obtain ⟨y0, y1, y2, _⟩ := hbx2.cells
  clear hr5 hb5 hX hbx hbx2 mk sx sx2 HQ HB4
  unfold BkObj at *
  go_wp2_with fail
  refine HF.out.mono ?_
  rintro e w6 ⟨rfl, hb6⟩
  have HB6 := Lib.hid (HB5.out.1.trans (hb6.mono HB5.out.1.size))
  obtain ⟨z0, z1, z2, _⟩ := (HBX.out.2.below hb6).cells
  have HS6 := Lib.hid (HS.out _ HB6.out)
  rw [show ((8 + szP [([97], [98])] : Nat) : Int) = 12 from rfl] at HS6
  clear x0 x1 x2 y0 y1 y2 hb6 HF HS
  go_wp2_with fail
  refine HS6.out.mono ?_
  rintro e w7 ⟨rfl, hb7⟩
  have HE := Lib.hid (HB5.out.2.trans ((HB6.out.trans (hb7.mono HB6.out.size)).mono HB5.out.2.size))
  clear z0 z1 z2 hb7
  go_wp2
  go_ret
  exact ⟨rfl, HE.out⟩
end Go.Proofs.Ythpgcdfbngngjaa
