/-
  MetaParses by the walk: what meta.Parse answers is what the plain one answers. Condition: a slice of bytes.
-/
import Derived.Test.YtenpmaagnljabaaMetaV
namespace Go.Proofs.Ytenpmaagnljabaa
open Go.RowKit
set_option maxRecDepth 100000
set_option linter.unusedVariables false

theorem same_itself (m : MV) : sameB ⟨m.d, m.f, m.n, m.c, m.l⟩ ⟨m.d, m.f, m.n, m.c, m.l⟩ = true := sameB_self _

theorem parse_few (data : List Int) : (parseM data).1.l.length ≤ 20 := by
  unfold parseM
  split
  · rename_i h
    exact (may_few h.2.1).2.1.2
  · exact Nat.zero_le _

set_option maxHeartbeats 3200000 in
theorem metaParses_any {w : World} {A : Option Addr} {n c : Nat} {data : List Int} (hr : RB w w.heap.size A n data) (hc : n ≤ c) (hm : n ≤ maxLen) :
    Calls Try.prog 4 #[.slice A n c] w fun e w' => e = .returned (.bool true) ∧ Below w.heap.size w w' := by
  have hm' := hm
  unfold maxLen at hm'
  by_cases h : 1000 < n
  · have k0 : decide ((n : Int) > 1000) = true := by simp; omega
    go_enter Try.func4, Try.ntmps4
    go_wp2_with fail
    refine (metaAwake_any _).mono ?_
    rintro e w' ⟨rfl, hb⟩
    go_wp2
    go_ret
    exact ⟨rfl, hb⟩
  have k0 : decide ((n : Int) > 1000) = false := by simp; omega
  have HP := Lib.hid (parse_any hr hc (Nat.le_refl _) hm)
  have HR := Lib.hid hr
  have HFEW := Lib.hid (parse_few data)
  have HSI := Lib.hid (same_itself (parseM data).1)
  have HPR := Lib.hid (fun (W : World) (hb : Below w.heap.size w W) => refMetaParse_any (hr.below hb) hc hb.size hm)
  clear hr
  generalize hq : parseM data = P at *
  obtain ⟨⟨pd, pf, pn, pc, pl⟩, pe⟩ := P
  clear hq
  go_enter Try.func4, Try.ntmps4
  go_wp2_with fail
  refine HP.out.mono ?_
  rintro e w1 ⟨A1, n1, c1, rfl, hc1, hr1, hb1⟩
  have hr1 : RI w1 w1.heap.size A1 n1 pl := hr1
  have hb1x := hb1.alloc hb1.size (.cells #[.int .i64 pd, .int .i64 pf, .int .i64 pn, .int .i64 pc, .slice A1 n1 c1] 24)
  have HQ := Lib.hid (HPR.out _ hb1x)
  have HX1 := Lib.hid (And.intro hb1x (And.intro (hr1.below ((Below.refl _ _).alloc (Nat.le_refl _) (.cells #[.int .i64 pd, .int .i64 pf, .int .i64 pn, .int .i64 pc, .slice A1 n1 c1] 24))) (MBox.new w1 pd pf pn pc (.slice A1 n1 c1))))
  have hs1 : w1.heap.size ≤ (w1.alloc (.cells #[.int .i64 pd, .int .i64 pf, .int .i64 pn, .int .i64 pc, .slice A1 n1 c1] 24)).heap.size := by simp
  clear hr1 hb1 hb1x
  go_wp2_with fail
  generalize hb1n : w1.heap.size = b1 at *
  generalize (w1.alloc (.cells #[.int .i64 pd, .int .i64 pf, .int .i64 pn, .int .i64 pc, .slice A1 n1 c1] 24)) = X1 at *
  clear hb1n
  refine HQ.out.mono ?_
  rintro e w2 ⟨A2, n2, c2, rfl, hc2, hr2, hb2⟩
  have hr2 : RI w2 w2.heap.size A2 n2 pl := hr2
  obtain ⟨hb1, hr1, hmb1⟩ := HX1.out
  have hX2 : Below w2.heap.size w2 (w2.alloc (.cells #[.int .i64 pd, .int .i64 pf, .int .i64 pn, .int .i64 pc, .slice A2 n2 c2] 24)) := (Below.refl _ _).alloc (Nat.le_refl _) _
  have hb12 := hb2.trans (hX2.mono hb2.size)
  have hmb12 := hmb1.below hb12
  have hr12 := (hr1.below (hb12.mono hs1)).more (Nat.le_trans hs1 hb12.size)
  have hr22 := (hr2.below hX2).more hX2.size
  have hmb22 := MBox.new w2 pd pf pn pc (.slice A2 n2 c2)
  have hn1 : n1 ≤ maxLen := by rw [← hr12.len]; exact Nat.le_trans HFEW.out (by decide)
  have hn2 : n2 ≤ maxLen := by rw [← hr22.len]; exact Nat.le_trans HFEW.out (by decide)
  have HS := Lib.hid (refSame_any (cap := c1) (cap' := c2) pd pf pn pc pd pf pn pc hr12 hr22 (Nat.le_refl _) hn1 hn2)
  rw [HSI.out] at HS
  have HB2 := Lib.hid (hb1.trans (hb12.mono hb1.size))
  obtain ⟨a0, a1, a2, a3, a4, _⟩ := hmb12.cells
  obtain ⟨d0, d1, d2, d3, d4, _⟩ := hmb22.cells
  clear hb1 hr1 hmb1 hb2 hr2 hX2 hb12 hmb12 hr12 hr22 hmb22 HX1 HQ
  go_wp2_with fail
  refine HS.out.mono ?_
  rintro e w3 ⟨rfl, hb3⟩
  have HB3 := Lib.hid (HB2.out.trans (hb3.mono HB2.out.size))
  clear hb3 a0 a1 a2 a3 a4 d0 d1 d2 d3 d4
  go_wp2_with fail
  refine (metaAwake_any _).mono ?_
  rintro e w4 ⟨rfl, hb4⟩
  have HB4 := Lib.hid (HB3.out.trans (hb4.mono HB3.out.size))
  clear hb4
  go_wp2
  go_ret
  exact ⟨rfl, HB4.out⟩

end Go.Proofs.Ytenpmaagnljabaa
