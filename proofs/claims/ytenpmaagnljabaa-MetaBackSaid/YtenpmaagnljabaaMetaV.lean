/-
  Contract of law 08's own check: Meta is its page. No condition.
-/
import Derived.Test.YtenpmaagnljabaaMetaT
import Derived.Test.YtenpmaagnljabaaMetaU
namespace Go.Proofs.Ytenpmaagnljabaa
open Go.RowKit
set_option maxRecDepth 100000
set_option linter.unusedVariables false

set_option maxHeartbeats 1600000 in
theorem metaAwake_any (w : World) : Calls Try.prog 6 #[] w fun e w' => e = .returned (.bool true) ∧ Below w.heap.size w w' := by
  have hX : Below w.heap.size w (w.alloc (.cells #[.int .i64 1] 3)) := (Below.refl _ _).alloc (Nat.le_refl _) _
  have hri := RI.lit w 3 [1] #[.int .i64 1] rfl (fun x hx => by
    obtain rfl := List.mem_singleton.1 hx
    decide)
  have hsX : (w.alloc (.cells #[.int .i64 1] 3)).heap.size = w.heap.size + 1 := by simp
  have HP := Lib.hid (metaPut_any (w := w.alloc (.cells #[.int .i64 1] 3)) (cap := 1) 1 0 4 0 (by rw [hsX]; exact hri) (by decide) (by decide) (by decide) (by decide) (by decide))
  have hmay : mayB ⟨1, 0, 4, 0, [1]⟩ = true := by decide
  have hput : putM ⟨1, 0, 4, 0, [1]⟩ = (metaL ⟨1, 0, 4, 0, [1]⟩, 0) := by unfold putM; rw [if_pos hmay]
  have hps := (isMeta_put hmay).2
  have hml : (metaL ⟨1, 0, 4, 0, [1]⟩).length = 240 := metaL_length (by decide)
  rw [hput] at HP
  have HX := Lib.hid hX
  have HPS := Lib.hid hps
  have HML := Lib.hid hml
  clear hX hri hmay hput hps hml
  go_enter Try.func6, Try.ntmps6
  go_wp2_with fail
  refine HP.out.mono ?_
  rintro e w1 ⟨A1, n1, c1, rfl, hc1, hr1, hb1⟩
  have hr1 : RB w1 w1.heap.size A1 n1 (metaL ⟨1, 0, 4, 0, [1]⟩) := hr1
  obtain rfl : n1 = 240 := by rw [← hr1.len]; exact HML.out
  have HQ := Lib.hid (parse_any hr1 hc1 (Nat.le_refl _) (by decide))
  rw [HPS.out] at HQ
  have hb01 := HX.out.trans (hb1.mono HX.out.size)
  have HB1 := Lib.hid hb01
  clear hr1 hb1 hb01 HP
  go_wp2_with fail
  refine HQ.out.mono ?_
  rintro e w2 ⟨A2, k2, c2, rfl, hc2, hr2, hb2⟩
  have hl2 : k2 = 1 := (hr2.len).symm
  subst hl2
  have hb02 := HB1.out.trans (hb2.mono HB1.out.size)
  have HE := Lib.hid (hb02.alloc hb02.size (.cells #[.int .i64 1, .int .i64 0, .int .i64 4, .int .i64 0, .slice A2 1 c2] 24))
  obtain ⟨d0, d1, d2, d3, d4, _⟩ := (MBox.new w2 1 0 4 0 (.slice A2 1 c2)).cells
  clear hr2 hb2 hb02
  go_wp2
  go_ret
  exact ⟨rfl, HE.out⟩

end Go.Proofs.Ytenpmaagnljabaa
