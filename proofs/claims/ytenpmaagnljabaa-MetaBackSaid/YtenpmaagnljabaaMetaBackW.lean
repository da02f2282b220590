/-
  MetaBack by the walk: what Put laid is read back, and what is read has just this page. Condition: what came in is such words, and bytes.
-/
import Derived.Test.YtenpmaagnljabaaMetaParsesW
namespace Go.Proofs.Ytenpmaagnljabaa
open Go.RowKit
set_option maxRecDepth 100000
set_option linter.unusedVariables false

theorem parse_split (data : List Int) : (parseM data = (readM data (countM data), 0) ∧ mayB (readM data (countM data)) = true ∧ putM (readM data (countM data)) = (data, 0)) ∨ parseM data = (MV.zero, 4) := by
  by_cases h : isMeta data
  · left
    refine ⟨by unfold parseM; rw [if_pos h], h.2.1, ?_⟩
    unfold putM
    rw [if_pos h.2.1, h.2.2]
  · right
    unfold parseM
    rw [if_neg h]

set_option maxHeartbeats 12800000 in
theorem metaBack_any {w : World} {A A' : Option Addr} {k m cap cap' : Nat} (d f n c : Int) {l data : List Int} (hr : RI w w.heap.size A k l) (hk : k ≤ maxLen)
    (hd : -9223372036854775808 ≤ d ∧ d ≤ 9223372036854775807) (hf : -9223372036854775808 ≤ f ∧ f ≤ 9223372036854775807) (hn : -9223372036854775808 ≤ n ∧ n ≤ 9223372036854775807) (hc : -9223372036854775808 ≤ c ∧ c ≤ 9223372036854775807)
    (hr' : RB w w.heap.size A' m data) (hc' : m ≤ cap') (hm : m ≤ maxLen) :
    Calls Try.prog 5 #[.agg #[.int .i64 d, .int .i64 f, .int .i64 n, .int .i64 c, .slice A k cap], .slice A' m cap'] w fun e w' => e = .returned (.bool true) ∧ Below w.heap.size w w' := by
  have hk' := hk
  have hm' := hm
  unfold maxLen at hk' hm'
  have hX : Below w.heap.size w (w.alloc (.cells #[.int .i64 d, .int .i64 f, .int .i64 n, .int .i64 c, .slice A k cap] 24)) := (Below.refl _ _).alloc (Nat.le_refl _) _
  have hbx := MBox.new w d f n c (.slice A k cap)
  have HX := Lib.hid hX
  obtain ⟨x0, x1, x2, x3, x4, _⟩ := hbx.cells
  by_cases h1 : 60 < k
  · have k0 : decide ((k : Int) > 60) = true := by simp; omega
    clear hX hbx
    go_enter Try.func5, Try.ntmps5
    go_wp2_with fail
    refine (metaAwake_any _).mono ?_
    rintro e w1 ⟨rfl, hb⟩
    have HE := Lib.hid (HX.out.trans (hb.mono HX.out.size))
    clear hb x0 x1 x2 x3 x4
    go_wp2
    go_ret
    exact ⟨rfl, HE.out⟩
  have k0 : decide ((k : Int) > 60) = false := by simp; omega
  by_cases h2 : 1000 < m
  · have k1 : decide ((m : Int) > 1000) = true := by simp; omega
    clear hX hbx
    go_enter Try.func5, Try.ntmps5
    go_wp2_with fail
    refine (metaAwake_any _).mono ?_
    rintro e w1 ⟨rfl, hb⟩
    have HE := Lib.hid (HX.out.trans (hb.mono HX.out.size))
    clear hb x0 x1 x2 x3 x4
    go_wp2
    go_ret
    exact ⟨rfl, HE.out⟩
  have k1 : decide ((m : Int) > 1000) = false := by simp; omega
  have HP := Lib.hid (metaPut_any (w := w.alloc (.cells #[.int .i64 d, .int .i64 f, .int .i64 n, .int .i64 c, .slice A k cap] 24)) (cap := cap) d f n c ((hr.below hX).more hX.size) hk hd hf hn hc)
  have HR := Lib.hid (fun (W : World) (hb : Below w.heap.size w W) => hr.below hb)
  have HD := Lib.hid (fun (W : World) (hb : Below w.heap.size w W) => hr'.below hb)
  have HPB := Lib.hid (fun (W : World) (hb : Below w.heap.size w W) => parse_any (hr'.below hb) hc' hb.size hm)
  have hby := Lib.hid hr'.bytes
  have HFEW := Lib.hid (parse_few data)
  have HBX := Lib.hid hbx
  have HK := Lib.hid (And.intro hk (And.intro hm hr.len))
  have HSPLIT := parse_split data
  have hk60 : k ≤ 60 := by omega
  clear hr hr' hX hbx h1 h2 hk hm hk' hm'
  by_cases hmay : mayB ⟨d, f, n, c, l⟩ = true
  · have hput : putM ⟨d, f, n, c, l⟩ = (metaL ⟨d, f, n, c, l⟩, 0) := by unfold putM; rw [if_pos hmay]
    have hpar := (isMeta_put hmay).2
    have hml : (metaL ⟨d, f, n, c, l⟩).length = 240 := metaL_length (by show l.length ≤ 55; have := (may_few hmay).2.1.2; exact Nat.le_trans this (by decide))
    rw [hput] at HP
    have HPAR := Lib.hid hpar
    have HML := Lib.hid hml
    clear hput hpar hml hmay
    go_enter Try.func5, Try.ntmps5
    go_wp2_with fail
    refine HP.out.mono ?_
    rintro e w1 ⟨A1, n1, c1, rfl, hc1, hr1, hb1⟩
    have hr1 : RB w1 w1.heap.size A1 n1 (metaL ⟨d, f, n, c, l⟩) := hr1
    have hn1 : n1 = 240 := by rw [← hr1.len]; exact HML.out
    subst hn1
    have HPA := Lib.hid (parse_any hr1 hc1 (Nat.le_refl _) (by decide))
    rw [HPAR.out] at HPA
    have HB1 := Lib.hid (And.intro (HX.out.trans (hb1.mono HX.out.size)) (HBX.out.below hb1))
    clear hr1 hb1 x0 x1 x2 x3 x4 HP HBX
    go_wp2_with fail
    refine HPA.out.mono ?_
    rintro e w2 ⟨A2, k2, c2, rfl, hc2, hr2, hb2⟩
    have hr2 : RI w2 w2.heap.size A2 k2 l := hr2
    obtain rfl : k2 = k := by rw [← hr2.len]; exact HK.out.2.2
    have hb02 := HB1.out.1.trans (hb2.mono HB1.out.1.size)
    have hX2 : Below w2.heap.size w2 (w2.alloc (.cells #[.int .i64 d, .int .i64 f, .int .i64 n, .int .i64 c, .slice A2 k2 c2] 24)) := (Below.refl _ _).alloc (Nat.le_refl _) _
    have hb0x := hb02.trans (hX2.mono hb02.size)
    have HSA := Lib.hid (same_any (cap := cap) (cap' := c2) d f n c d f n c ((HR.out _ hb0x).more hb0x.size) ((hr2.below hX2).more hX2.size) (Nat.le_refl _) HK.out.1 HK.out.1)
    rw [sameB_self] at HSA
    obtain ⟨x0, x1, x2, x3, x4, _⟩ := ((HB1.out.2.below hb2).below hX2).cells
    obtain ⟨y0, y1, y2, y3, y4, _⟩ := (MBox.new w2 d f n c (.slice A2 k2 c2)).cells
    have HB2 := Lib.hid hb0x
    clear hr2 hb2 hb02 hX2 hb0x HPA HB1
    go_wp2_with fail
    refine HSA.out.mono ?_
    rintro e w3 ⟨rfl, hb3⟩
    have HV := Lib.hid (HB2.out.trans (hb3.mono HB2.out.size))
    clear hb3 x0 x1 x2 x3 x4 y0 y1 y2 y3 y4 HSA HB2
    go_wp2_with fail
    refine (HPB.out _ HV.out).mono ?_
    rcases HSPLIT with ⟨hps, hmy, hpt⟩ | hps
    · have hmd := at_bounds hby.out 4 1
      have hmf := at_bounds hby.out 6 4
      have hmn := at_bounds hby.out 10 4
      have hmc := at_bounds hby.out 14 4
      rw [hps] at HFEW ⊢
      rintro e w4 ⟨A4, n4, c4, rfl, hc4, hr4, hb4⟩
      have hr4 : RI w4 w4.heap.size A4 n4 (cutL data 18 4 (countM data)) := hr4
      have hn4 : n4 ≤ maxLen := by rw [← hr4.len]; exact Nat.le_trans HFEW.out (by decide)
      have hb04 := HV.out.trans (hb4.mono HV.out.size)
      have hX4 : Below w4.heap.size w4 (w4.alloc (.cells #[.int .i64 (at_ data 4 1), .int .i64 (at_ data 6 4), .int .i64 (at_ data 10 4), .int .i64 (at_ data 14 4), .slice A4 n4 c4] 24)) := (Below.refl _ _).alloc (Nat.le_refl _) _
      have HPC := Lib.hid (metaPut_any (w := w4.alloc (.cells #[.int .i64 (at_ data 4 1), .int .i64 (at_ data 6 4), .int .i64 (at_ data 10 4), .int .i64 (at_ data 14 4), .slice A4 n4 c4] 24)) (cap := c4) (at_ data 4 1) (at_ data 6 4) (at_ data 10 4) (at_ data 14 4) ((hr4.below hX4).more hX4.size) hn4 hmd hmf hmn hmc)
      rw [← read_mv, hpt] at HPC
      obtain ⟨z0, z1, z2, z3, z4, _⟩ := (MBox.new w4 (at_ data 4 1) (at_ data 6 4) (at_ data 10 4) (at_ data 14 4) (.slice A4 n4 c4)).cells
      have HV4 := Lib.hid (hb04.trans (hX4.mono hb04.size))
      clear hr4 hb4 hb04 hX4 hps hmy hpt HV hmd hmf hmn hmc hn4
      go_wp2_with fail
      refine HPC.out.mono ?_
      rintro e w5 ⟨A5, n5, c5, rfl, hc5, hr5, hb5⟩
      have hr5 : RB w5 w5.heap.size A5 n5 data := hr5
      have hb05 := HV4.out.trans (hb5.mono HV4.out.size)
      have HEQ := Lib.hid (Equal_any (w := w5) c5 cap' hr5 (HD.out _ hb05))
      rw [decide_eq_true rfl] at HEQ
      have HV5 := Lib.hid hb05
      clear hr5 hb5 hb05 z0 z1 z2 z3 z4 HPC HV4
      go_wp2_with fail
      refine HEQ.out.mono ?_
      rintro e wE ⟨rfl, rfl⟩
      go_wp2_with fail
      refine (metaAwake_any _).mono ?_
      rintro e w6 ⟨rfl, hb6⟩
      have HE := Lib.hid (HV5.out.trans (hb6.mono HV5.out.size))
      clear hb6
      go_wp2
      go_ret
      exact ⟨rfl, HE.out⟩
    · rw [hps]
      rintro e w4 ⟨A4, n4, c4, rfl, hc4, hr4, hb4⟩
      have hr4 : RI w4 w4.heap.size A4 n4 [] := hr4
      obtain rfl : n4 = 0 := hr4.len.symm
      have hb04 := HV.out.trans (hb4.mono HV.out.size)
      have hX4 : Below w4.heap.size w4 (w4.alloc (.cells #[.int .i64 0, .int .i64 0, .int .i64 0, .int .i64 0, .slice A4 0 c4] 24)) := (Below.refl _ _).alloc (Nat.le_refl _) _
      have HSZ := Lib.hid (same_any (w := w4.alloc (.cells #[.int .i64 0, .int .i64 0, .int .i64 0, .int .i64 0, .slice A4 0 c4] 24)) (A := A4) (A' := none) (k := 0) (m := 0) (cap := c4) (cap' := 0) (B := 0) 0 0 0 0 0 0 0 0 (RI.nil_) (RI.nil_) (Nat.zero_le _) (Nat.zero_le _) (Nat.zero_le _))
      rw [sameB_self] at HSZ
      obtain ⟨z0, z1, z2, z3, z4, _⟩ := (MBox.new w4 0 0 0 0 (.slice A4 0 c4)).cells
      have HV4 := Lib.hid (hb04.trans (hX4.mono hb04.size))
      clear hr4 hb4 hb04 hX4 hps HV
      go_wp2_with fail
      refine HSZ.out.mono ?_
      rintro e w5 ⟨rfl, hb5⟩
      have HV5 := Lib.hid (HV4.out.trans (hb5.mono HV4.out.size))
      clear hb5 z0 z1 z2 z3 z4 HSZ HV4
      go_wp2_with fail
      refine (metaAwake_any _).mono ?_
      rintro e w6 ⟨rfl, hb6⟩
      have HE := Lib.hid (HV5.out.trans (hb6.mono HV5.out.size))
      clear hb6
      go_wp2
      go_ret
      exact ⟨rfl, HE.out⟩
  · have hput : putM ⟨d, f, n, c, l⟩ = ([], 1) := by unfold putM; rw [if_neg hmay]
    rw [hput] at HP
    clear hput hmay
    go_enter Try.func5, Try.ntmps5
    go_wp2_with fail
    refine HP.out.mono ?_
    rintro e w3 ⟨A1, n1, c1, rfl, hc1, hr1, hb1⟩
    have HV := Lib.hid (HX.out.trans (hb1.mono HX.out.size))
    clear hr1 hb1 x0 x1 x2 x3 x4 HP HBX
    go_wp2_with fail
    refine (HPB.out _ HV.out).mono ?_
    rcases HSPLIT with ⟨hps, hmy, hpt⟩ | hps
    · have hmd := at_bounds hby.out 4 1
      have hmf := at_bounds hby.out 6 4
      have hmn := at_bounds hby.out 10 4
      have hmc := at_bounds hby.out 14 4
      rw [hps] at HFEW ⊢
      rintro e w4 ⟨A4, n4, c4, rfl, hc4, hr4, hb4⟩
      have hr4 : RI w4 w4.heap.size A4 n4 (cutL data 18 4 (countM data)) := hr4
      have hn4 : n4 ≤ maxLen := by rw [← hr4.len]; exact Nat.le_trans HFEW.out (by decide)
      have hb04 := HV.out.trans (hb4.mono HV.out.size)
      have hX4 : Below w4.heap.size w4 (w4.alloc (.cells #[.int .i64 (at_ data 4 1), .int .i64 (at_ data 6 4), .int .i64 (at_ data 10 4), .int .i64 (at_ data 14 4), .slice A4 n4 c4] 24)) := (Below.refl _ _).alloc (Nat.le_refl _) _
      have HPC := Lib.hid (metaPut_any (w := w4.alloc (.cells #[.int .i64 (at_ data 4 1), .int .i64 (at_ data 6 4), .int .i64 (at_ data 10 4), .int .i64 (at_ data 14 4), .slice A4 n4 c4] 24)) (cap := c4) (at_ data 4 1) (at_ data 6 4) (at_ data 10 4) (at_ data 14 4) ((hr4.below hX4).more hX4.size) hn4 hmd hmf hmn hmc)
      rw [← read_mv, hpt] at HPC
      obtain ⟨z0, z1, z2, z3, z4, _⟩ := (MBox.new w4 (at_ data 4 1) (at_ data 6 4) (at_ data 10 4) (at_ data 14 4) (.slice A4 n4 c4)).cells
      have HV4 := Lib.hid (hb04.trans (hX4.mono hb04.size))
      clear hr4 hb4 hb04 hX4 hps hmy hpt HV hmd hmf hmn hmc hn4
      go_wp2_with fail
      refine HPC.out.mono ?_
      rintro e w5 ⟨A5, n5, c5, rfl, hc5, hr5, hb5⟩
      have hr5 : RB w5 w5.heap.size A5 n5 data := hr5
      have hb05 := HV4.out.trans (hb5.mono HV4.out.size)
      have HEQ := Lib.hid (Equal_any (w := w5) c5 cap' hr5 (HD.out _ hb05))
      rw [decide_eq_true rfl] at HEQ
      have HV5 := Lib.hid hb05
      clear hr5 hb5 hb05 z0 z1 z2 z3 z4 HPC HV4
      go_wp2_with fail
      refine HEQ.out.mono ?_
      rintro e wE ⟨rfl, rfl⟩
      go_wp2_with fail
      refine (metaAwake_any _).mono ?_
      rintro e w6 ⟨rfl, hb6⟩
      have HE := Lib.hid (HV5.out.trans (hb6.mono HV5.out.size))
      clear hb6
      go_wp2
      go_ret
      exact ⟨rfl, HE.out⟩
    · rw [hps]
      rintro e w4 ⟨A4, n4, c4, rfl, hc4, hr4, hb4⟩
      have hr4 : RI w4 w4.heap.size A4 n4 [] := hr4
      obtain rfl : n4 = 0 := hr4.len.symm
      have hb04 := HV.out.trans (hb4.mono HV.out.size)
      have hX4 : Below w4.heap.size w4 (w4.alloc (.cells #[.int .i64 0, .int .i64 0, .int .i64 0, .int .i64 0, .slice A4 0 c4] 24)) := (Below.refl _ _).alloc (Nat.le_refl _) _
      have HSZ := Lib.hid (same_any (w := w4.alloc (.cells #[.int .i64 0, .int .i64 0, .int .i64 0, .int .i64 0, .slice A4 0 c4] 24)) (A := A4) (A' := none) (k := 0) (m := 0) (cap := c4) (cap' := 0) (B := 0) 0 0 0 0 0 0 0 0 (RI.nil_) (RI.nil_) (Nat.zero_le _) (Nat.zero_le _) (Nat.zero_le _))
      rw [sameB_self] at HSZ
      obtain ⟨z0, z1, z2, z3, z4, _⟩ := (MBox.new w4 0 0 0 0 (.slice A4 0 c4)).cells
      have HV4 := Lib.hid (hb04.trans (hX4.mono hb04.size))
      clear hr4 hb4 hb04 hX4 hps HV
      go_wp2_with fail
      refine HSZ.out.mono ?_
      rintro e w5 ⟨rfl, hb5⟩
      have HV5 := Lib.hid (HV4.out.trans (hb5.mono HV4.out.size))
      clear hb5 z0 z1 z2 z3 z4 HSZ HV4
      go_wp2_with fail
      refine (metaAwake_any _).mono ?_
      rintro e w6 ⟨rfl, hb6⟩
      have HE := Lib.hid (HV5.out.trans (hb6.mono HV5.out.size))
      clear hb6
      go_wp2
      go_ret
      exact ⟨rfl, HE.out⟩

end Go.Proofs.Ytenpmaagnljabaa
