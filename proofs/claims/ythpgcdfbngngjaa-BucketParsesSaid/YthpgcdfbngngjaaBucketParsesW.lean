/-
  BucketParses by the walk: what bucket.Parse answers is what the plain one answers. Condition: a slice of bytes.
-/
import Derived.Test.YthpgcdfbngngjaaBkU
import Derived.Test.YthpgcdfbngngjaaBkS
namespace Go.Proofs.Ythpgcdfbngngjaa
open Go.RowKit
set_option maxRecDepth 100000
set_option linter.unusedVariables false

theorem parseBk_few (l : List Int) : (parseBk l).1.ps.length ≤ 116 := by
  unfold parseBk
  split
  · exact (readBk_few l).2
  · exact Nat.zero_le _

set_option maxHeartbeats 3200000 in
theorem bucketParses_any {w : World} {A : Option Addr} {n c : Nat} {data : List Int} (hr : RB w w.heap.size A n data) (hc : n ≤ c) (hm : n ≤ maxLen) :
    Calls Try.prog 6 #[.slice A n c] w fun e w' => e = .returned (.bool true) ∧ Below w.heap.size w w' := by
  have hm' := hm
  unfold maxLen at hm'
  by_cases h : 1000 < n
  · have k0 : decide ((n : Int) > 1000) = true := by simp; omega
    go_enter Try.func6, Try.ntmps6
    go_wp2_with fail
    refine (bkAwake_any _).mono ?_
    rintro e w' ⟨rfl, hb⟩
    go_wp2
    go_ret
    exact ⟨rfl, hb⟩
  have k0 : decide ((n : Int) > 1000) = false := by simp; omega
  have HP := Lib.hid (bkParse_any hr (Nat.le_refl _) hc hm)
  have HFEW := Lib.hid (parseBk_few data)
  have HSI := Lib.hid (sameBk_self (parseBk data).1)
  have HPR := Lib.hid (fun (W : World) (hb : Below w.heap.size w W) => refBkParse_any (hr.below hb) hb.size hc hm)
  clear hr
  generalize hq : parseBk data = P at *
  obtain ⟨⟨pd, px, pl⟩, pe⟩ := P
  clear hq
  go_enter Try.func6, Try.ntmps6
  go_wp2_with fail
  refine HP.out.mono ?_
  rintro e w1 ⟨A1, n1, c1, rfl, hc1, hr1, hb1⟩
  have hr1 : RPairs w1 w1.heap.size A1 n1 pl := hr1
  have hX1 : Below w1.heap.size w1 (w1.alloc (BkObj pd px A1 n1 c1)) := (Below.refl _ _).alloc (Nat.le_refl _) _
  have hb1x := hb1.trans (hX1.mono hb1.size)
  have HQ := Lib.hid (HPR.out _ hb1x)
  have HX1 := Lib.hid (And.intro hb1x (And.intro ((hr1.below hX1).more hX1.size) (BkBox.new w1 pd px A1 n1 c1)))
  clear hr1 hb1 hb1x hX1
  unfold BkObj at *
  go_wp2_with fail
  refine HQ.out.mono ?_
  rintro e w2 ⟨A2, n2, c2, rfl, hc2, hr2, hb2⟩
  have hr2 : RPairs w2 w2.heap.size A2 n2 pl := hr2
  obtain ⟨hb1, hr1, hbx1⟩ := HX1.out
  have hX2 : Below w2.heap.size w2 (w2.alloc (BkObj pd px A2 n2 c2)) := (Below.refl _ _).alloc (Nat.le_refl _) _
  have hb12 := hb2.trans (hX2.mono hb2.size)
  have hbx12 := hbx1.below hb12
  have hr12 := (hr1.below hb12).more hb12.size
  have hr22 := (hr2.below hX2).more hX2.size
  have hbx22 := BkBox.new w2 pd px A2 n2 c2
  have hn1 : n1 ≤ maxLen := by rw [← hr12.len]; exact Nat.le_trans HFEW.out (by decide)
  have hn2 : n2 ≤ maxLen := by rw [← hr22.len]; exact Nat.le_trans HFEW.out (by decide)
  have HS := Lib.hid (lawSame_any pd px pd px c1 c2 hr12 hr22 (Nat.le_refl _) hn1 hn2)
  rw [show sameBk ⟨pd, px, pl⟩ ⟨pd, px, pl⟩ = true from HSI.out] at HS
  have HB2 := Lib.hid (hb1.trans (hb12.mono hb1.size))
  obtain ⟨a0, a1, a2, _⟩ := hbx12.cells
  obtain ⟨d0, d1, d2, _⟩ := hbx22.cells
  clear hb1 hr1 hbx1 hb2 hr2 hX2 hb12 hbx12 hr12 hr22 hbx22 HX1 HQ hn1 hn2
  unfold BkObj at *
  go_wp2_with fail
  refine HS.out.mono ?_
  rintro e w3 ⟨rfl, hb3⟩
  have HB3 := Lib.hid (HB2.out.trans (hb3.mono HB2.out.size))
  clear hb3 a0 a1 a2 d0 d1 d2
  go_wp2_with fail
  refine (bkAwake_any _).mono ?_
  rintro e w4 ⟨rfl, hb4⟩
  have HB4 := Lib.hid (HB3.out.trans (hb4.mono HB3.out.size))
  clear hb4
  go_wp2
  go_ret
  exact ⟨rfl, HB4.out⟩
end Go.Proofs.Ythpgcdfbngngjaa
