/-
  Contracts of bal over a view in memory: what line a pair is, and All. Condition: what a scan of the year comes to.
-/
import Derived.Test.YtihjlhegcoceoaaGreatBalA
import Derived.Test.YtihjlhegcoceoaaGreatChaA
import Derived.Test.YtihjlhegcoceoaaGreatLinA
import Derived.Laws.ResultCell
import Derived.StillTailTactics
namespace Go.Proofs.YtihjlhegcoceoaaGreat
open Go.RowKit Go.Maps
set_option maxRecDepth 100000
set_option linter.unusedVariables false

/-- The line that a pair is. -/
def lineK (x : KV) : Option Ln := if (splitK x.1).2.2 = true ∧ (splitK x.1).1.length = 3 then (if (numB x.2).2 = true then some ⟨(splitK x.1).1[1]?.getD 0, (splitK x.1).1[2]?.getD 0, 0, (numB x.2).1⟩ else none) else none
def lnO : Option Ln → Value
  | some l => .agg #[.int .i64 l.f, .int .i64 l.o, .int .i64 l.n, .int .i64 l.a]
  | none => .agg #[.int .i64 0, .int .i64 0, .int .i64 0, .int .i64 0]
theorem balResults {fn : Func} {p u : Tmp} {ty : TypeId} {P : Program} {w : World} (h : fn.results = #[.cell p ty, .tmp u]) (tmps : Array Value) (g : Nat) (cs : Array Value)
    (hp : tmps.getD p undef = .pointer (some ⟨g, 0, none⟩)) (hr : (loadVar ty ⟨g, 0, none⟩).run P w = .ok (.agg cs) w) :
    (results fn tmps).run P w = .ok (.tuple #[.agg cs, tmps.getD u undef]) w := by
  rw [results_cell_tmp h, hp]
  simp [asAddr, hr, Result.andThen]
theorem balBox {w w' : World} {g : Nat} (h : Below w.heap.size w w') (hg : w.heap.size ≤ g) (i : Nat) (x : Value) : Below w.heap.size w (w'.setCell ⟨g, i, none⟩ x) := h.setCell hg x
theorem balFrozen {w : World} {g o : Nat} {cs : Array Value} {T : TypeId} (h : w.heap[g]? = some (.cells cs T (0, 0))) : w.frozen? ⟨g, o, none⟩ = false := by simp [World.frozen?, h]
theorem balLine_size : (Tryz.prog.info? 27).map (·.size) = some 4 := by kernel_rfl
theorem balLine_set {w : World} {g : Nat} {T : TypeId} {z0 z1 z2 z3 : Value} {x0 x1 x2 x3 : Value} (h : w.heap[g]? = some (.cells #[z0, z1, z2, z3] T (0, 0))) : ((((w.setCell ⟨g, 0, none⟩ x0).setCell ⟨g, 1, none⟩ x1).setCell ⟨g, 2, none⟩ x2).setCell ⟨g, 3, none⟩ x3).heap[g]? = some (.cells #[x0, x1, x2, x3] T (0, 0)) := by
  have h1 : (w.setCell ⟨g, 0, none⟩ x0).heap[g]? = some (.cells #[x0, z1, z2, z3] T (0, 0)) := heap_setCell_same _ g 0 _ T x0 h
  have h2 : ((w.setCell ⟨g, 0, none⟩ x0).setCell ⟨g, 1, none⟩ x1).heap[g]? = some (.cells #[x0, x1, z2, z3] T (0, 0)) := heap_setCell_same _ g 1 _ T x1 h1
  have h3 : (((w.setCell ⟨g, 0, none⟩ x0).setCell ⟨g, 1, none⟩ x1).setCell ⟨g, 2, none⟩ x2).heap[g]? = some (.cells #[x0, x1, x2, z3] T (0, 0)) := heap_setCell_same _ g 2 _ T x2 h2
  have h4 : ((((w.setCell ⟨g, 0, none⟩ x0).setCell ⟨g, 1, none⟩ x1).setCell ⟨g, 2, none⟩ x2).setCell ⟨g, 3, none⟩ x3).heap[g]? = some (.cells #[x0, x1, x2, x3] T (0, 0)) := heap_setCell_same _ g 3 _ T x3 h3
  exact h4
theorem balLine_cells {w : World} {g : Nat} {T : TypeId} {z0 z1 z2 z3 : Value} (h : w.heap[g]? = some (.cells #[z0, z1, z2, z3] T (0, 0))) : w.cell? ⟨g, 0, none⟩ = some z0 ∧ w.cell? ⟨g, 1, none⟩ = some z1 ∧ w.cell? ⟨g, 2, none⟩ = some z2 ∧ w.cell? ⟨g, 3, none⟩ = some z3 :=
  ⟨cell_of_row w g 0 _ T (0, 0) h, cell_of_row w g 1 _ T (0, 0) h, cell_of_row w g 2 _ T (0, 0) h, cell_of_row w g 3 _ T (0, 0) h⟩
theorem balFour {w0 w : World} {g : Nat} (h : Below w0.heap.size w0 w) (hg : w0.heap.size ≤ g) (x0 x1 x2 x3 : Value) : Below w0.heap.size w0 ((((w.setCell ⟨g, 0, none⟩ x0).setCell ⟨g, 1, none⟩ x1).setCell ⟨g, 2, none⟩ x2).setCell ⟨g, 3, none⟩ x3) := balBox (balBox (balBox (balBox h hg 0 x0) hg 1 x1) hg 2 x2) hg 3 x3

set_option maxHeartbeats 3200000 in
theorem balLineOf_any (ka : Option Addr) (kn kc : Nat) (va : Option Addr) (vn vc : Nat) (p : KV) (B : Nat) (w : World) (hk : RB w B ka kn p.1) (hv : RB w B va vn p.2) (hB : B ≤ w.heap.size) (hkc : kn ≤ kc) (hvc : vn ≤ vc) (hkm : kn ≤ maxLen) (hvm : vn ≤ maxLen) :
    Calls Tryz.prog 25 #[.agg #[.slice ka kn kc, .slice va vn vc]] w fun e w' => e = .returned (.tuple #[lnO (lineK p), .bool (lineK p).isSome]) ∧ Below w.heap.size w w' := by
  obtain ⟨w1, hw1⟩ : ∃ w1, w1 = ((w.alloc (.cells #[.slice ka kn kc, .slice va vn vc] 61)).alloc (.cells #[.int .i64 0, .int .i64 0, .int .i64 0, .int .i64 0] 27)) := ⟨_, rfl⟩
  have hb1 : Below w.heap.size w w1 := by rw [hw1]; exact ((Below.refl _ _).alloc (Nat.le_refl _) _).alloc (by simp) _
  have g0 : w1.heap[w.heap.size]? = some (.cells #[.slice ka kn kc, .slice va vn vc] 61 (0, 0)) := by rw [hw1]; exact (((Below.refl (w.alloc _).heap.size _).alloc (Nat.le_refl _) _).block _ (by simp)).trans (heap_alloc_new _ _)
  have g1 : w1.heap[w.heap.size + 1]? = some (.cells #[.int .i64 0, .int .i64 0, .int .i64 0, .int .i64 0] 27 (0, 0)) := by rw [hw1]; exact heap_alloc2_new _ _ _
  have hs1 : w1.heap.size = w.heap.size + 2 := by rw [hw1]; simp
  have c0 : w1.cell? ⟨w.heap.size, 0, none⟩ = some (.slice ka kn kc) := cell_of_row w1 _ 0 _ _ (0, 0) g0
  have C1 := Lib.hid (show ∀ W, Below w1.heap.size w1 W → W.cell? ⟨w.heap.size, 1, none⟩ = some (.slice va vn vc) from fun W hW => (hW.cell (p := ⟨w.heap.size, 1, none⟩) (by show w.heap.size < w1.heap.size; omega)).trans (cell_of_row w1 _ 1 _ _ (0, 0) g0))
  have HS := Lib.hid (kSplit_any ka kn kc B p.1 w1 (hk.below (hb1.mono hB)) (Nat.le_trans hB hb1.size) hkc hkm)
  have HNU := Lib.hid (show ∀ W, Below w1.heap.size w1 W → Calls Tryz.prog 29 #[.slice va vn vc] W fun e w' => e = .returned (.tuple #[.int .i64 (numB p.2).1, .bool (numB p.2).2]) ∧ Below W.heap.size W w' from fun W hW => numberOf_any (hv.below ((hb1.trans (hW.mono hb1.size)).mono hB)) (Nat.le_trans hB (Nat.le_trans hb1.size hW.size)) hvc hvm)
  have HLK := Lib.hid (show lineK p = if (splitK p.1).2.2 = true ∧ (splitK p.1).1.length = 3 then (if (numB p.2).2 = true then some ⟨(splitK p.1).1[1]?.getD 0, (splitK p.1).1[2]?.getD 0, 0, (numB p.2).1⟩ else none) else none from rfl)
  have HZ := Lib.hid (fun (W : World) (h : Below w1.heap.size w1 W) => show W.heap[w.heap.size + 1]? = some (.cells #[.int .i64 0, .int .i64 0, .int .i64 0, .int .i64 0] 27 (0, 0)) from (h.block _ (by omega)).trans g1)
  have HB1 := Lib.hid hb1
  generalize lineK p = L at HLK ⊢
  generalize splitK p.1 = sp at HS HLK
  generalize numB p.2 = nb at HNU HLK
  obtain ⟨nums, tag, ok⟩ := sp
  obtain ⟨x, xok⟩ := nb
  clear g0 g1 hs1 hk hv hb1
  go_enter Tryz.func25, Tryz.ntmps25
  go_wp2_with fail
  rw [← hw1]
  clear hw1
  go_wp2_with fail
  refine HS.out.mono ?_
  clear HS
  rintro e w2 ⟨A, n, c, rfl, hnc, hn1, hri, hb2⟩
  have hlen := hri.len
  by_cases hok : ok = true ∧ n = 3
  · obtain ⟨rfl, rfl⟩ := hok
    obtain ⟨b, o, rfl, hbb, hcell⟩ := hri.2.2 (by omega)
    have HN := Lib.hid (HNU.out w2 hb2)
    have c1 := C1.out w2 hb2
    have HC := Lib.hid (show ∀ W, Below w2.heap.size w2 W → W.cell? ⟨b, o + 1, none⟩ = some (.int .i64 (nums[1]?.getD 0)) ∧ W.cell? ⟨b, o + 2, none⟩ = some (.int .i64 (nums[2]?.getD 0)) from fun W hW => ⟨(hW.cell (p := ⟨b, o + 1, none⟩) hbb).trans (hcell 1 (by omega)), (hW.cell (p := ⟨b, o + 2, none⟩) hbb).trans (hcell 2 (by omega))⟩)
    have HB2 := Lib.hid hb2
    have HLK2 := Lib.hid (show L = if xok = true then some ⟨nums[1]?.getD 0, nums[2]?.getD 0, 0, x⟩ else none from by
      have := HLK.out
      rwa [if_pos ⟨rfl, hlen⟩] at this)
    clear hri hcell hb2 hlen HLK C1 HNU c0
    go_wp2_with fail
    refine HN.out.mono ?_
    rintro e w3 ⟨rfl, hb3⟩
    have hb13 := HB2.out.trans (hb3.mono HB2.out.size)
    have g3 := HZ.out w3 hb13
    have HC3 := Lib.hid (HC.out w3 hb3)
    have hb03 := HB1.out.trans (hb13.mono HB1.out.size)
    clear HC HN c1 hb13 hb3
    cases xok with
    | false =>
      have HL := Lib.hid (show L = none from HLK2.out)
      obtain ⟨z0, z1, z2, z3⟩ := balLine_cells g3
      have f0 := balFrozen (o := 0) g3
      have f1 := balFrozen (o := 1) g3
      have f2 := balFrozen (o := 2) g3
      have f3 := balFrozen (o := 3) g3
      have HG := Lib.hid (balLine_set (x0 := .int .i64 0) (x1 := .int .i64 0) (x2 := .int .i64 0) (x3 := .int .i64 0) g3)
      have HB := Lib.hid (balFour (g := w.heap.size + 1) hb03 (Nat.le_succ _) (.int .i64 0) (.int .i64 0) (.int .i64 0) (.int .i64 0))
      clear g3 hb03
      go_wp2_with fail
      refine bodyPost_ret (balResults rfl _ (w.heap.size + 1) _ rfl (run_loadVar_row _ _ _ _ _ (0, 0) _ HG.out Tryz.underlying27 rfl balLine_size)) rfl ?_
      rw [HL.out]
      exact ⟨rfl, HB.out⟩
    | true =>
      have HL := Lib.hid (show L = some ⟨nums[1]?.getD 0, nums[2]?.getD 0, 0, x⟩ from HLK2.out)
      generalize nums[1]?.getD 0 = n1 at HC3 HL
      generalize nums[2]?.getD 0 = n2 at HC3 HL
      have HG := Lib.hid (balLine_set (w := w3.drew) (x0 := .int .i64 n1) (x1 := .int .i64 n2) (x2 := .int .i64 0) (x3 := .int .i64 x) g3)
      have HB := Lib.hid (balFour (g := w.heap.size + 1) hb03.drew (Nat.le_succ _) (.int .i64 n1) (.int .i64 n2) (.int .i64 0) (.int .i64 x))
      have HZ3 := Lib.hid (show w3.drew.heap[w.heap.size + 1]? = _ from g3)
      have HT : Hid (w3.drew.cell? ⟨b, o + 1, none⟩ = some (.int .i64 n1) ∧ w3.drew.cell? ⟨b, o + 2, none⟩ = some (.int .i64 n2)) := Lib.hid HC3.out
      obtain ⟨s1, s2⟩ := HC3.out
      clear g3 hb03 HC3 HLK2
      go_wp2_with fail
      go_still_tail 8, (by kernel_rfl)
      change wpList _ _ _ _ _ w3.drew
      obtain ⟨w4, hw4⟩ : ∃ w4 : World, w4 = w3.drew := ⟨_, rfl⟩
      rw [← hw4] at HT HG HB HZ3 ⊢
      clear hw4 s1 s2 HZ
      obtain ⟨s1, s2⟩ := HT.out
      obtain ⟨z0, z1, z2, z3⟩ := balLine_cells HZ3.out
      have f0 := balFrozen (o := 0) HZ3.out
      have f1 := balFrozen (o := 1) HZ3.out
      have f2 := balFrozen (o := 2) HZ3.out
      have f3 := balFrozen (o := 3) HZ3.out
      go_wp2_with fail
      refine bodyPost_ret (balResults rfl _ (w.heap.size + 1) _ rfl (run_loadVar_row _ _ _ _ _ (0, 0) _ HG.out Tryz.underlying27 rfl balLine_size)) rfl ?_
      rw [HL.out]
      exact ⟨rfl, HB.out⟩
  · have HL := Lib.hid (show L = none from by
      have := HLK.out
      rwa [if_neg (show ¬ (ok = true ∧ nums.length = 3) from fun q => hok ⟨q.1, by rw [← hlen]; exact q.2⟩)] at this)
    have g3 := HZ.out w2 hb2
    obtain ⟨z0, z1, z2, z3⟩ := balLine_cells g3
    have f0 := balFrozen (o := 0) g3
    have f1 := balFrozen (o := 1) g3
    have f2 := balFrozen (o := 2) g3
    have f3 := balFrozen (o := 3) g3
    have HG := Lib.hid (balLine_set (x0 := .int .i64 0) (x1 := .int .i64 0) (x2 := .int .i64 0) (x3 := .int .i64 0) g3)
    have HB := Lib.hid (balFour (g := w.heap.size + 1) (HB1.out.trans (hb2.mono HB1.out.size)) (Nat.le_succ _) (.int .i64 0) (.int .i64 0) (.int .i64 0) (.int .i64 0))
    clear g3 hri hb2 HLK C1 HNU c0
    cases ok with
    | false =>
      clear hok hlen
      go_wp2_with fail
      refine bodyPost_ret (balResults rfl _ (w.heap.size + 1) _ rfl (run_loadVar_row _ _ _ _ _ (0, 0) _ HG.out Tryz.underlying27 rfl balLine_size)) rfl ?_
      rw [HL.out]
      exact ⟨rfl, HB.out⟩
    | true =>
      have hn3 : ((n : Int) != 3) = true := by simp; exact fun q => hok ⟨rfl, by omega⟩
      clear hok hlen
      go_wp2_with fail
      refine bodyPost_ret (balResults rfl _ (w.heap.size + 1) _ rfl (run_loadVar_row _ _ _ _ _ (0, 0) _ HG.out Tryz.underlying27 rfl balLine_size)) rfl ?_
      rw [HL.out]
      exact ⟨rfl, HB.out⟩
end Go.Proofs.YtihjlhegcoceoaaGreat
