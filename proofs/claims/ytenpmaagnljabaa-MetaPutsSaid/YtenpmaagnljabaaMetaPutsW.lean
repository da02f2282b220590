/-
  MetaPuts by the walk: any Meta's page is the plain one's, and Same is the plain one's. Condition: what came in is two such words.
-/
import Derived.Test.YtenpmaagnljabaaMetaV
namespace Go.Proofs.Ytenpmaagnljabaa
open Go.RowKit
set_option maxRecDepth 100000
set_option linter.unusedVariables false

set_option maxHeartbeats 6400000 in
theorem metaPuts_any {w : World} {A A' : Option Addr} {k m cap cap' : Nat} (d f n c d' f' n' c' : Int) {l l' : List Int} (hr : RI w w.heap.size A k l) (hr' : RI w w.heap.size A' m l') (hk : k ≤ maxLen) (hm : m ≤ maxLen)
    (hd : -9223372036854775808 ≤ d ∧ d ≤ 9223372036854775807) (hf : -9223372036854775808 ≤ f ∧ f ≤ 9223372036854775807) (hn : -9223372036854775808 ≤ n ∧ n ≤ 9223372036854775807) (hc : -9223372036854775808 ≤ c ∧ c ≤ 9223372036854775807) :
    Calls Try.prog 3 #[.agg #[.int .i64 d, .int .i64 f, .int .i64 n, .int .i64 c, .slice A k cap], .agg #[.int .i64 d', .int .i64 f', .int .i64 n', .int .i64 c', .slice A' m cap']] w fun e w' => e = .returned (.bool true) ∧ Below w.heap.size w w' := by
  have hk' := hk
  have hm' := hm
  unfold maxLen at hk' hm'
  have hX : Below w.heap.size w ((w.alloc (.cells #[.int .i64 d, .int .i64 f, .int .i64 n, .int .i64 c, .slice A k cap] 24)).alloc (.cells #[.int .i64 d', .int .i64 f', .int .i64 n', .int .i64 c', .slice A' m cap'] 24)) := ((Below.refl _ _).alloc (Nat.le_refl _) _).alloc (by simp) _
  have hbx : Boxes ((w.alloc (.cells #[.int .i64 d, .int .i64 f, .int .i64 n, .int .i64 c, .slice A k cap] 24)).alloc (.cells #[.int .i64 d', .int .i64 f', .int .i64 n', .int .i64 c', .slice A' m cap'] 24)) w.heap.size (d, f, n, c) (d', f', n', c') (.slice A k cap) (.slice A' m cap') := by
    refine ⟨MBox.five w d f n c d' f' n' c' _ _, ?_⟩
    have := heap_alloc_new (w.alloc (.cells #[.int .i64 d, .int .i64 f, .int .i64 n, .int .i64 c, .slice A k cap] 24)) (.cells #[.int .i64 d', .int .i64 f', .int .i64 n', .int .i64 c', .slice A' m cap'] 24)
    show (World.alloc _ _).heap[w.heap.size + 1]? = _
    simpa using this
  have HX := Lib.hid hX
  obtain ⟨x0, x1, x2, x3, x4, y0, y1, y2, y3, y4⟩ := hbx.cells
  by_cases h1 : 60 < k
  · have k0 : decide ((k : Int) > 60) = true := by simp; omega
    clear hX hbx
    go_enter Try.func3, Try.ntmps3
    go_wp2_with fail
    refine (metaAwake_any _).mono ?_
    rintro e w1 ⟨rfl, hb⟩
    have HE := Lib.hid (HX.out.trans (hb.mono HX.out.size))
    clear hb x0 x1 x2 x3 x4 y0 y1 y2 y3 y4
    go_wp2
    go_ret
    exact ⟨rfl, HE.out⟩
  have k0 : decide ((k : Int) > 60) = false := by simp; omega
  by_cases h2 : 60 < m
  · have k1 : decide ((m : Int) > 60) = true := by simp; omega
    clear hX hbx
    go_enter Try.func3, Try.ntmps3
    go_wp2_with fail
    refine (metaAwake_any _).mono ?_
    rintro e w1 ⟨rfl, hb⟩
    have HE := Lib.hid (HX.out.trans (hb.mono HX.out.size))
    clear hb x0 x1 x2 x3 x4 y0 y1 y2 y3 y4
    go_wp2
    go_ret
    exact ⟨rfl, HE.out⟩
  have k1 : decide ((m : Int) > 60) = false := by simp; omega
  have HP := Lib.hid (fun (W : World) (hb : Below w.heap.size w W) => metaPut_any (w := W) (cap := cap) d f n c ((hr.below hb).more hb.size) hk hd hf hn hc)
  have HQ := Lib.hid (fun (W : World) (hb : Below w.heap.size w W) => refMetaPut_any (w := W) (cap := cap) d f n c ((hr.below hb).more hb.size) hk hd hf hn hc)
  have HS : Hid (∀ W : World, Below w.heap.size w W → Calls Try.prog 10 #[.agg #[.int .i64 d, .int .i64 f, .int .i64 n, .int .i64 c, .slice A k cap], .agg #[.int .i64 d', .int .i64 f', .int .i64 n', .int .i64 c', .slice A' m cap']] W fun e w' => e = .returned (.bool (sameB ⟨d, f, n, c, l⟩ ⟨d', f', n', c', l'⟩)) ∧ Below W.heap.size W w') := Lib.hid (fun W hb => same_any d f n c d' f' n' c' (hr.below hb) (hr'.below hb) hb.size hk hm)
  have HT : Hid (∀ W : World, Below w.heap.size w W → Calls Try.prog 11 #[.agg #[.int .i64 d, .int .i64 f, .int .i64 n, .int .i64 c, .slice A k cap], .agg #[.int .i64 d', .int .i64 f', .int .i64 n', .int .i64 c', .slice A' m cap']] W fun e w' => e = .returned (.bool (sameB ⟨d, f, n, c, l⟩ ⟨d', f', n', c', l'⟩)) ∧ Below W.heap.size W w') := Lib.hid (fun W hb => refSame_any d f n c d' f' n' c' (hr.below hb) (hr'.below hb) hb.size hk hm)
  generalize sameB ⟨d, f, n, c, l⟩ ⟨d', f', n', c', l'⟩ = sb at HS HT
  generalize hpq : putM ⟨d, f, n, c, l⟩ = PQ at HP HQ
  obtain ⟨pl, pe⟩ := PQ
  have HBX := Lib.hid hbx
  clear hpq hr hr' hX hbx h1 h2 hk hm hk' hm'
  go_enter Try.func3, Try.ntmps3
  go_wp2_with fail
  refine (HP.out _ HX.out).mono ?_
  rintro e w1 ⟨A1, n1, c1, rfl, hc1, hr1, hb1⟩
  have hr1 : RB w1 w1.heap.size A1 n1 pl := hr1
  have HB1 := Lib.hid (And.intro (HX.out.trans (hb1.mono HX.out.size)) (And.intro (HBX.out.below hb1) hr1))
  clear hr1 hb1 x0 x1 x2 x3 x4 y0 y1 y2 y3 y4
  obtain ⟨x0, x1, x2, x3, x4, y0, y1, y2, y3, y4⟩ := HB1.out.2.1.cells
  go_wp2_with fail
  refine (HQ.out _ HB1.out.1).mono ?_
  rintro e w2 ⟨A2, n2, c2, rfl, hc2, hr2, hb2⟩
  have hr2 : RB w2 w2.heap.size A2 n2 pl := hr2
  have HE := Lib.hid (Equal_any (w := w2.drew) c1 c2 (HB1.out.2.2.below hb2).drew hr2.drew)
  rw [decide_eq_true rfl] at HE
  have hT := (HB1.out.1.trans (hb2.mono HB1.out.1.size)).drew
  have hbx : Boxes w2.drew w.heap.size (d, f, n, c) (d', f', n', c') (.slice A k cap) (.slice A' m cap') := HB1.out.2.1.below hb2.drew
  have c5 := hbx.cells
  clear hr2 hb2 x0 x1 x2 x3 x4 y0 y1 y2 y3 y4 HP HQ
  go_wp2_with fail
  go_region_held3 (fun w' => w'.cell? ⟨w.heap.size, 0, none⟩ = some (.int .i64 d) ∧ w'.cell? ⟨w.heap.size, 1, none⟩ = some (.int .i64 f) ∧ w'.cell? ⟨w.heap.size, 2, none⟩ = some (.int .i64 n) ∧ w'.cell? ⟨w.heap.size, 3, none⟩ = some (.int .i64 c) ∧ w'.cell? ⟨w.heap.size, 4, none⟩ = some (.slice A k cap) ∧ w'.cell? ⟨w.heap.size + 1, 0, none⟩ = some (.int .i64 d') ∧ w'.cell? ⟨w.heap.size + 1, 1, none⟩ = some (.int .i64 f') ∧ w'.cell? ⟨w.heap.size + 1, 2, none⟩ = some (.int .i64 n') ∧ w'.cell? ⟨w.heap.size + 1, 3, none⟩ = some (.int .i64 c') ∧ w'.cell? ⟨w.heap.size + 1, 4, none⟩ = some (.slice A' m cap'))
    (first | with_reducible exact c5 | exact c5)
    (first
      | (go_at_call 9; refine HE.out.mono ?_; rintro e wE ⟨rfl, rfl⟩)
      | (go_at_call 10; refine (HS.out _ hT).mono ?_; rintro e wN ⟨rfl, hbN⟩; have hbx := hbx.below hbN; have hT := hT.trans (hbN.mono hT.size); have c5 := hbx.cells)
      | (go_at_call 11; refine (HT.out _ hT).mono ?_; rintro e wN ⟨rfl, hbN⟩; have hbx := hbx.below hbN; have hT := hT.trans (hbN.mono hT.size); have c5 := hbx.cells)
      | (go_at_call 6; refine (metaAwake_any _).mono ?_; rintro e wN ⟨rfl, hbN⟩; have hbx := hbx.below hbN; have hT := hT.trans (hbN.mono hT.size); have c5 := hbx.cells))
  all_goals go_wp2
  all_goals go_ret
  all_goals exact ⟨rfl, hT⟩

end Go.Proofs.Ytenpmaagnljabaa
