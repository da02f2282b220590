/-
  The texts BalC, BalE joined. Conditions: those that each part says at its head.
-/
import Derived.Test.YtilhcchnlbdlhaaGreatBalA
import Derived.Test.YtilhcchnlbdlhaaGreatChaA
import Derived.Test.YtilhcchnlbdlhaaGreatLinA
import Derived.Laws.ResultCell
import Derived.StillTailTactics
import Derived.Test.YtilhcchnlbdlhaaGreatViewN
import Derived.Lib.AppendZeros

/-
  Contracts of bal over a view in memory: what line a pair is, and All. Condition: what a scan of the year comes to.
-/
namespace Go.Proofs.YtilhcchnlbdlhaaGreat
open Go.RowKit Go.Maps
set_option maxRecDepth 100000
set_option linter.unusedVariables false

/-- The line that a pair is. -/
def lineK (x : KV) : Option Ln := if (splitK x.1).2.2 = true ∧ (splitK x.1).1.length = 3 then (if (numB x.2).2 = true then some ⟨(splitK x.1).1[1]?.getD 0, (splitK x.1).1[2]?.getD 0, 0, (numB x.2).1⟩ else none) else none
def lnO : Option Ln → Value
  | some l => .agg #[.int .i64 l.f, .int .i64 l.o, .int .i64 l.n, .int .i64 l.a]
  | none => .agg #[.int .i64 0, .int .i64 0, .int .i64 0, .int .i64 0]
theorem balResults {fn : Func} {p u : Tmp} {ty : TypeId} {P : Program} {w : World} (h : fn.results = #[.cell p ty, .tmp u]) (tmps : Array Value) (g : Nat) (cs : Array Value)
    (hp : tmps.getD p undef = .pointer (some ⟨g, 0, none⟩)) (hr : (loadVar ty ⟨g, 0, none⟩).run P w = .ok (.agg cs) w) :
    (results fn tmps).run P w = .ok (.tuple #[.agg cs, tmps.getD u undef]) w := by
  rw [results_cell_tmp h, hp]
  simp [asAddr, hr, Result.andThen]
theorem balBox {w w' : World} {g : Nat} (h : Below w.heap.size w w') (hg : w.heap.size ≤ g) (i : Nat) (x : Value) : Below w.heap.size w (w'.setCell ⟨g, i, none⟩ x) := h.setCell hg x
theorem balFrozen {w : World} {g o : Nat} {cs : Array Value} {T : TypeId} (h : w.heap[g]? = some (.cells cs T (0, 0))) : w.frozen? ⟨g, o, none⟩ = false := by simp [World.frozen?, h]
theorem balLine_size : (Tryz.prog.info? 30).map (·.size) = some 4 := by kernel_rfl
theorem balLine_set {w : World} {g : Nat} {T : TypeId} {z0 z1 z2 z3 : Value} {x0 x1 x2 x3 : Value} (h : w.heap[g]? = some (.cells #[z0, z1, z2, z3] T (0, 0))) : ((((w.setCell ⟨g, 0, none⟩ x0).setCell ⟨g, 1, none⟩ x1).setCell ⟨g, 2, none⟩ x2).setCell ⟨g, 3, none⟩ x3).heap[g]? = some (.cells #[x0, x1, x2, x3] T (0, 0)) := by
  have h1 : (w.setCell ⟨g, 0, none⟩ x0).heap[g]? = some (.cells #[x0, z1, z2, z3] T (0, 0)) := heap_setCell_same _ g 0 _ T x0 h
  have h2 : ((w.setCell ⟨g, 0, none⟩ x0).setCell ⟨g, 1, none⟩ x1).heap[g]? = some (.cells #[x0, x1, z2, z3] T (0, 0)) := heap_setCell_same _ g 1 _ T x1 h1
  have h3 : (((w.setCell ⟨g, 0, none⟩ x0).setCell ⟨g, 1, none⟩ x1).setCell ⟨g, 2, none⟩ x2).heap[g]? = some (.cells #[x0, x1, x2, z3] T (0, 0)) := heap_setCell_same _ g 2 _ T x2 h2
  have h4 : ((((w.setCell ⟨g, 0, none⟩ x0).setCell ⟨g, 1, none⟩ x1).setCell ⟨g, 2, none⟩ x2).setCell ⟨g, 3, none⟩ x3).heap[g]? = some (.cells #[x0, x1, x2, x3] T (0, 0)) := heap_setCell_same _ g 3 _ T x3 h3
  exact h4
theorem balLine_cells {w : World} {g : Nat} {T : TypeId} {z0 z1 z2 z3 : Value} (h : w.heap[g]? = some (.cells #[z0, z1, z2, z3] T (0, 0))) : w.cell? ⟨g, 0, none⟩ = some z0 ∧ w.cell? ⟨g, 1, none⟩ = some z1 ∧ w.cell? ⟨g, 2, none⟩ = some z2 ∧ w.cell? ⟨g, 3, none⟩ = some z3 :=
  ⟨cell_of_row w g 0 _ T (0, 0) h, cell_of_row w g 1 _ T (0, 0) h, cell_of_row w g 2 _ T (0, 0) h, cell_of_row w g 3 _ T (0, 0) h⟩
theorem balFour {w0 w : World} {g : Nat} (h : Below w0.heap.size w0 w) (hg : w0.heap.size ≤ g) (x0 x1 x2 x3 : Value) : Below w0.heap.size w0 ((((w.setCell ⟨g, 0, none⟩ x0).setCell ⟨g, 1, none⟩ x1).setCell ⟨g, 2, none⟩ x2).setCell ⟨g, 3, none⟩ x3) := balBox (balBox (balBox (balBox h hg 0 x0) hg 1 x1) hg 2 x2) hg 3 x3

set_option maxHeartbeats 3200000 in
theorem balLineOf_any (ka : Option Addr) (kn kc : Nat) (va : Option Addr) (vn vc : Nat) (p : KV) (B : Nat) (w : World) (hk : RB w B ka kn p.1) (hv : RB w B va vn p.2) (hB : B ≤ w.heap.size) (hkc : kn ≤ kc) (hvc : vn ≤ vc) (hkm : kn ≤ maxLen) (hvm : vn ≤ maxLen) :
    Calls Tryz.prog 94 #[.agg #[.slice ka kn kc, .slice va vn vc]] w fun e w' => e = .returned (.tuple #[lnO (lineK p), .bool (lineK p).isSome]) ∧ Below w.heap.size w w' := by
  obtain ⟨w1, hw1⟩ : ∃ w1, w1 = ((w.alloc (.cells #[.slice ka kn kc, .slice va vn vc] 46)).alloc (.cells #[.int .i64 0, .int .i64 0, .int .i64 0, .int .i64 0] 30)) := ⟨_, rfl⟩
  have hb1 : Below w.heap.size w w1 := by rw [hw1]; exact ((Below.refl _ _).alloc (Nat.le_refl _) _).alloc (by simp) _
  have g0 : w1.heap[w.heap.size]? = some (.cells #[.slice ka kn kc, .slice va vn vc] 46 (0, 0)) := by rw [hw1]; exact (((Below.refl (w.alloc _).heap.size _).alloc (Nat.le_refl _) _).block _ (by simp)).trans (heap_alloc_new _ _)
  have g1 : w1.heap[w.heap.size + 1]? = some (.cells #[.int .i64 0, .int .i64 0, .int .i64 0, .int .i64 0] 30 (0, 0)) := by rw [hw1]; exact heap_alloc2_new _ _ _
  have hs1 : w1.heap.size = w.heap.size + 2 := by rw [hw1]; simp
  have c0 : w1.cell? ⟨w.heap.size, 0, none⟩ = some (.slice ka kn kc) := cell_of_row w1 _ 0 _ _ (0, 0) g0
  have C1 := Lib.hid (show ∀ W, Below w1.heap.size w1 W → W.cell? ⟨w.heap.size, 1, none⟩ = some (.slice va vn vc) from fun W hW => (hW.cell (p := ⟨w.heap.size, 1, none⟩) (by show w.heap.size < w1.heap.size; omega)).trans (cell_of_row w1 _ 1 _ _ (0, 0) g0))
  have HS := Lib.hid (kSplit_any ka kn kc B p.1 w1 (hk.below (hb1.mono hB)) (Nat.le_trans hB hb1.size) hkc hkm)
  have HNU := Lib.hid (show ∀ W, Below w1.heap.size w1 W → Calls Tryz.prog 122 #[.slice va vn vc] W fun e w' => e = .returned (.tuple #[.int .i64 (numB p.2).1, .bool (numB p.2).2]) ∧ Below W.heap.size W w' from fun W hW => numberOf_any (hv.below ((hb1.trans (hW.mono hb1.size)).mono hB)) (Nat.le_trans hB (Nat.le_trans hb1.size hW.size)) hvc hvm)
  have HLK := Lib.hid (show lineK p = if (splitK p.1).2.2 = true ∧ (splitK p.1).1.length = 3 then (if (numB p.2).2 = true then some ⟨(splitK p.1).1[1]?.getD 0, (splitK p.1).1[2]?.getD 0, 0, (numB p.2).1⟩ else none) else none from rfl)
  have HZ := Lib.hid (fun (W : World) (h : Below w1.heap.size w1 W) => show W.heap[w.heap.size + 1]? = some (.cells #[.int .i64 0, .int .i64 0, .int .i64 0, .int .i64 0] 30 (0, 0)) from (h.block _ (by omega)).trans g1)
  have HB1 := Lib.hid hb1
  generalize lineK p = L at HLK ⊢
  generalize splitK p.1 = sp at HS HLK
  generalize numB p.2 = nb at HNU HLK
  obtain ⟨nums, tag, ok⟩ := sp
  obtain ⟨x, xok⟩ := nb
  clear g0 g1 hs1 hk hv hb1
  go_enter Tryz.func94, Tryz.ntmps94
  go_wp2_with fail
  rw [← hw1]
  clear hw1
  go_wp2_with fail
  refine HS.out.mono ?_
  clear HS
  rintro e w2 ⟨A, n, c, rfl, hnc, hn1, hri, hb2⟩
  have hlen := hri.len
  by_cases hok : ok = true ∧ n = 3
  · obtain ⟨rfl, rfl⟩ := hok
    obtain ⟨b, o, rfl, hbb, hcell⟩ := hri.2.2 (by omega)
    have HN := Lib.hid (HNU.out w2 hb2)
    have c1 := C1.out w2 hb2
    have HC := Lib.hid (show ∀ W, Below w2.heap.size w2 W → W.cell? ⟨b, o + 1, none⟩ = some (.int .i64 (nums[1]?.getD 0)) ∧ W.cell? ⟨b, o + 2, none⟩ = some (.int .i64 (nums[2]?.getD 0)) from fun W hW => ⟨(hW.cell (p := ⟨b, o + 1, none⟩) hbb).trans (hcell 1 (by omega)), (hW.cell (p := ⟨b, o + 2, none⟩) hbb).trans (hcell 2 (by omega))⟩)
    have HB2 := Lib.hid hb2
    have HLK2 := Lib.hid (show L = if xok = true then some ⟨nums[1]?.getD 0, nums[2]?.getD 0, 0, x⟩ else none from by
      have := HLK.out
      rwa [if_pos ⟨rfl, hlen⟩] at this)
    clear hri hcell hb2 hlen HLK C1 HNU c0
    go_wp2_with fail
    refine HN.out.mono ?_
    rintro e w3 ⟨rfl, hb3⟩
    have hb13 := HB2.out.trans (hb3.mono HB2.out.size)
    have g3 := HZ.out w3 hb13
    have HC3 := Lib.hid (HC.out w3 hb3)
    have hb03 := HB1.out.trans (hb13.mono HB1.out.size)
    clear HC HN c1 hb13 hb3
    cases xok with
    | false =>
      have HL := Lib.hid (show L = none from HLK2.out)
      obtain ⟨z0, z1, z2, z3⟩ := balLine_cells g3
      have f0 := balFrozen (o := 0) g3
      have f1 := balFrozen (o := 1) g3
      have f2 := balFrozen (o := 2) g3
      have f3 := balFrozen (o := 3) g3
      have HG := Lib.hid (balLine_set (x0 := .int .i64 0) (x1 := .int .i64 0) (x2 := .int .i64 0) (x3 := .int .i64 0) g3)
      have HB := Lib.hid (balFour (g := w.heap.size + 1) hb03 (Nat.le_succ _) (.int .i64 0) (.int .i64 0) (.int .i64 0) (.int .i64 0))
      clear g3 hb03
      go_wp2_with fail
      refine bodyPost_ret (balResults rfl _ (w.heap.size + 1) _ rfl (run_loadVar_row _ _ _ _ _ (0, 0) _ HG.out Tryz.underlying30 rfl balLine_size)) rfl ?_
      rw [HL.out]
      exact ⟨rfl, HB.out⟩
    | true =>
      have HL := Lib.hid (show L = some ⟨nums[1]?.getD 0, nums[2]?.getD 0, 0, x⟩ from HLK2.out)
      generalize nums[1]?.getD 0 = n1 at HC3 HL
      generalize nums[2]?.getD 0 = n2 at HC3 HL
      have HG := Lib.hid (balLine_set (w := w3.drew) (x0 := .int .i64 n1) (x1 := .int .i64 n2) (x2 := .int .i64 0) (x3 := .int .i64 x) g3)
      have HB := Lib.hid (balFour (g := w.heap.size + 1) hb03.drew (Nat.le_succ _) (.int .i64 n1) (.int .i64 n2) (.int .i64 0) (.int .i64 x))
      have HZ3 := Lib.hid (show w3.drew.heap[w.heap.size + 1]? = _ from g3)
      have HT : Hid (w3.drew.cell? ⟨b, o + 1, none⟩ = some (.int .i64 n1) ∧ w3.drew.cell? ⟨b, o + 2, none⟩ = some (.int .i64 n2)) := Lib.hid HC3.out
      obtain ⟨s1, s2⟩ := HC3.out
      clear g3 hb03 HC3 HLK2
      go_wp2_with fail
      go_still_tail 8, (by kernel_rfl)
      change wpList _ _ _ _ _ w3.drew
      obtain ⟨w4, hw4⟩ : ∃ w4 : World, w4 = w3.drew := ⟨_, rfl⟩
      rw [← hw4] at HT HG HB HZ3 ⊢
      clear hw4 s1 s2 HZ
      obtain ⟨s1, s2⟩ := HT.out
      obtain ⟨z0, z1, z2, z3⟩ := balLine_cells HZ3.out
      have f0 := balFrozen (o := 0) HZ3.out
      have f1 := balFrozen (o := 1) HZ3.out
      have f2 := balFrozen (o := 2) HZ3.out
      have f3 := balFrozen (o := 3) HZ3.out
      go_wp2_with fail
      refine bodyPost_ret (balResults rfl _ (w.heap.size + 1) _ rfl (run_loadVar_row _ _ _ _ _ (0, 0) _ HG.out Tryz.underlying30 rfl balLine_size)) rfl ?_
      rw [HL.out]
      exact ⟨rfl, HB.out⟩
  · have HL := Lib.hid (show L = none from by
      have := HLK.out
      rwa [if_neg (show ¬ (ok = true ∧ nums.length = 3) from fun q => hok ⟨q.1, by rw [← hlen]; exact q.2⟩)] at this)
    have g3 := HZ.out w2 hb2
    obtain ⟨z0, z1, z2, z3⟩ := balLine_cells g3
    have f0 := balFrozen (o := 0) g3
    have f1 := balFrozen (o := 1) g3
    have f2 := balFrozen (o := 2) g3
    have f3 := balFrozen (o := 3) g3
    have HG := Lib.hid (balLine_set (x0 := .int .i64 0) (x1 := .int .i64 0) (x2 := .int .i64 0) (x3 := .int .i64 0) g3)
    have HB := Lib.hid (balFour (g := w.heap.size + 1) (HB1.out.trans (hb2.mono HB1.out.size)) (Nat.le_succ _) (.int .i64 0) (.int .i64 0) (.int .i64 0) (.int .i64 0))
    clear g3 hri hb2 HLK C1 HNU c0
    cases ok with
    | false =>
      clear hok hlen
      go_wp2_with fail
      refine bodyPost_ret (balResults rfl _ (w.heap.size + 1) _ rfl (run_loadVar_row _ _ _ _ _ (0, 0) _ HG.out Tryz.underlying30 rfl balLine_size)) rfl ?_
      rw [HL.out]
      exact ⟨rfl, HB.out⟩
    | true =>
      have hn3 : ((n : Int) != 3) = true := by simp; exact fun q => hok ⟨rfl, by omega⟩
      clear hok hlen
      go_wp2_with fail
      refine bodyPost_ret (balResults rfl _ (w.heap.size + 1) _ rfl (run_loadVar_row _ _ _ _ _ (0, 0) _ HG.out Tryz.underlying30 rfl balLine_size)) rfl ?_
      rw [HL.out]
      exact ⟨rfl, HB.out⟩
end Go.Proofs.YtilhcchnlbdlhaaGreat

/-
  Contract of bal.All over a view in memory: of each balance of the year a line, in a row of the call's own; nothing that was there is written. Condition: what a scan of the year comes to.
-/
namespace Go.Proofs.YtilhcchnlbdlhaaGreat
open Go.RowKit Go.Maps
set_option maxRecDepth 100000
set_option linter.unusedVariables false

def linesK (ps : List KV) : List Ln := ps.filterMap lineK
theorem linesK_len (ps : List KV) : (linesK ps).length ≤ ps.length := List.length_filterMap_le _ _
theorem linesK_step {ps : List KV} {k : Nat} {x : KV} (h : ps[k]? = some x) : linesK (ps.take (k + 1)) = linesK (ps.take k) ++ (lineK x).toList := by
  obtain ⟨hk, rfl⟩ := List.getElem?_eq_some_iff.1 h
  unfold linesK
  rw [List.take_succ_eq_append_getElem hk, List.filterMap_append]
  congr 1
theorem getD_int {l : List Int} (h : ∀ x ∈ l, -9223372036854775808 ≤ x ∧ x ≤ 9223372036854775807) (k : Nat) : I64 (l[k]?.getD 0) := by
  rcases Nat.lt_or_ge k l.length with hk | hk
  · rw [List.getElem?_eq_getElem hk]
    exact h _ (List.getElem_mem hk)
  · rw [List.getElem?_eq_none hk]
    exact ⟨by decide, by decide⟩
theorem numB_int {b : List Int} (hb : AllBytes b) : I64 (numB b).1 := by
  unfold numB
  split
  · refine getD_int (fun x hx => ?_) 0
    unfold unpackR at hx
    split at hx
    · split at hx
      · exact unpackN_ints 8 b _ _ hb x hx
      · cases hx
    · cases hx
  · exact ⟨by decide, by decide⟩
theorem splitK_ints {b : List Int} (hb : AllBytes b) : ∀ x ∈ (splitK b).1, -9223372036854775808 ≤ x ∧ x ≤ 9223372036854775807 := by
  intro x hx
  unfold splitK splitR at hx
  split at hx
  · exact unpackN_ints 4 b _ _ hb x hx
  · cases hx
theorem lineK_ok {x : KV} (hk : AllBytes x.1) (hv : AllBytes x.2) {l : Ln} (h : lineK x = some l) : LnOk l := by
  unfold lineK at h
  split at h
  · split at h
    · obtain rfl := Option.some.inj h
      exact ⟨getD_int (splitK_ints hk) 1, getD_int (splitK_ints hk) 2, (show B64 0 by unfold B64; omega), numB_int hv⟩
    · cases h
  · cases h
def PairsB (ps : List KV) : Prop := ∀ x ∈ ps, AllBytes x.1 ∧ AllBytes x.2
theorem linesK_ok {ps : List KV} (h : PairsB ps) : ∀ l ∈ linesK ps, LnOk l := by
  intro l hl
  obtain ⟨q, hq, e⟩ := List.mem_filterMap.1 hl
  exact lineK_ok (h q hq).1 (h q hq).2 e
/-- What a scan of one year answers, from a world on. -/
def ScansYear (w : World) (v : Nat) (y : Int) (ps : List KV) : Prop :=
  ∀ W A k, Below w.heap.size w W → RB W W.heap.size A 5 (keyL 66 [y]) → Calls Tryz.prog 91 #[.pointer (some ⟨v, 0, none⟩), .slice A 5 k] W fun e w' => ∃ A' n' k', e = .returned (.slice A' n' k') ∧ n' ≤ k' ∧ RPairs w' w'.heap.size A' n' ps ∧ Below W.heap.size W w'
theorem bYearLen (y : Int) : (keyL 66 [y]).length = 5 := by unfold keyL; rw [tagL_length]; rfl
section
variable {w w' : World} {v : Nat}
set_option maxHeartbeats 3200000 in
theorem balAll_of {ps : List KV} {y : Int} (hy : 0 ≤ y ∧ y ≤ 4294967295) (hs : ScansYear w v y ps) (hl : ps.length ≤ 2147483647) :
    Calls Tryz.prog 61 #[.pointer (some ⟨v, 0, none⟩), .int .i64 y] w fun e w' => ∃ u, e = .returned u ∧ LOwn w' w.heap.size u (linesK ps) ∧ PairsB ps ∧ Below w.heap.size w w' := by
  have k1 : decide (y < 0) = false := decide_eq_false (by omega)
  have k2 : decide (y > 4294967295) = false := decide_eq_false (by omega)
  have hl1 := one_lit w 3 [y] #[.int .i64 y] rfl (fun x hx => by obtain rfl := List.mem_singleton.1 hx; omega)
  have hb0 : Below w.heap.size w (w.alloc (.cells #[.int .i64 y] 3)) := (Below.refl _ _).alloc (Nat.le_refl _) _
  have HK := Lib.hid (balKey_any _ 1 1 _ [y] _ hl1 (by simp) (Nat.le_refl _) (by decide))
  have HB0 := Lib.hid hb0
  have HS := Lib.hid hs
  have HL := Lib.hid hl
  clear hs hl hy hl1 hb0
  go_enter Tryz.func61, Tryz.ntmps61
  go_wp2_with fail
  refine HK.out.mono ?_
  rintro e w1 ⟨u, rfl, ho⟩
  obtain ⟨A, k, rfl, h1, h2⟩ := ho.read (tagL_bytes (by omega) _)
  have hb01 := HB0.out.trans (ho.2.mono HB0.out.size)
  rw [bYearLen] at h1 h2 ⊢
  have HC := Lib.hid (HS.out w1 A k hb01 h2)
  have HB1 := Lib.hid hb01
  clear ho h1 h2 HK HS hb01
  go_wp2_with fail
  refine HC.out.mono ?_
  rintro e w2 ⟨A2, n, k2', rfl, hnk, hp, hb2⟩
  have HP := Lib.hid hp
  have HB2 := Lib.hid (HB1.out.trans (hb2.mono HB1.out.size))
  have hn : n ≤ 2147483647 := by rw [← hp.len]; exact HL.out
  clear hp hb2 HC HB1 HL
  go_wp2_with fail
  go_loopw [5, 22] (fun u i wr => ∃ k : Nat, k ≤ n ∧ i = .int .i64 k ∧ Hid (LOwn wr w2.heap.size u (linesK (ps.take k)) ∧ PairsB (ps.take k)) ∧ Hid (Below w2.heap.size w2 wr)) (fun _ i _ => n - (intOf i).toNat)
  case atStart => exact ⟨0, Nat.zero_le _, rfl, Lib.hid ⟨LOwn.start _ _, fun x hx => by cases hx⟩, Lib.hid (Below.refl _ _)⟩
  case round =>
    obtain ⟨k, hk, rfl, hown, hbw⟩ := hrel
    by_cases hlt : k < n
    · have hlt' : (k : Int) < (n : Int) := by omega
      obtain ⟨bb, off, rfl, hbb, hat⟩ := HP.out.2 (by omega)
      obtain ⟨x, hx⟩ : ∃ x, ps[k]? = some x := ⟨_, List.getElem?_eq_getElem (by rw [HP.out.len]; exact hlt)⟩
      obtain ⟨ka, kn, kc, va, vn, vc, h0, h1, h2, ⟨h3a, h3b⟩, h4, ⟨h5a, h5b⟩⟩ := (hat k x hx).keep hbb (fun b o hbb => hbw.out.cell (p := ⟨b, o, none⟩) hbb)
      have hst := linesK_step hx
      have hlen : (linesK (ps.take k)).length ≤ k := Nat.le_trans (linesK_len _) (by rw [List.length_take]; exact Nat.min_le_left _ _)
      have hPB := Lib.hid (show PairsB (ps.take (k + 1)) from by
        obtain ⟨hk', e⟩ := List.getElem?_eq_some_iff.1 hx
        rw [List.take_succ_eq_append_getElem hk', e]
        intro z hz
        rcases List.mem_append.1 hz with hz | hz
        · exact hown.out.2 z hz
        · obtain rfl := List.mem_singleton.1 hz
          exact ⟨h2.bytes, h4.bytes⟩)
      have hxok := Lib.hid (show ∀ l, lineK x = some l → LnOk l from fun l h => lineK_ok h2.bytes h4.bytes h)
      obtain ⟨w3, hw3⟩ : ∃ w3, w3 = wr.alloc (.cells #[.slice ka kn kc, .slice va vn vc] 46) := ⟨_, rfl⟩
      have hba : Below wr.heap.size wr w3 := by rw [hw3]; exact (Below.refl _ _).alloc (Nat.le_refl _) _
      have q0 : w3.cell? ⟨wr.heap.size, 0, none⟩ = some (.slice ka kn kc) := by rw [hw3]; exact cell_of_row _ _ 0 _ _ (0, 0) (heap_alloc_new wr _)
      have q1 : w3.cell? ⟨wr.heap.size, 1, none⟩ = some (.slice va vn vc) := by rw [hw3]; exact cell_of_row _ _ 1 _ _ (0, 0) (heap_alloc_new wr _)
      have HG := Lib.hid (balLineOf_any ka kn kc va vn vc x w2.heap.size w3 (h2.below (hba.mono hbw.out.size)) (h4.below (hba.mono hbw.out.size)) (Nat.le_trans hbw.out.size hba.size) h3a h5a h3b h5b)
      have HA := Lib.hid (hbw.out.trans (hba.mono hbw.out.size))
      have HO := Lib.hid (hown.out.1.below hba)
      generalize lineK x = L at HG hst hxok
      have HST := Lib.hid hst
      clear hat hx h2 h4 hown hbw hba hst
      go_wp2_with fail
      rw [← hw3]
      go_wp2_with fail
      refine HG.out.mono ?_
      rintro e w4 ⟨rfl, hb4⟩
      have ha4 := HA.out.trans (hb4.mono HA.out.size)
      have ho4 := HO.out.below hb4
      clear HA HO HG hb4 hw3 q0 q1 h3a h3b h5a h5b h0 h1
      cases L with
      | none =>
        have hX : Below w4.heap.size w4 (w4.alloc (.cells #[.int .i64 0, .int .i64 0, .int .i64 0, .int .i64 0] 30 (0, 0))) := (Below.refl _ _).alloc (Nat.le_refl _) _
        have HE := Lib.hid (show LOwn (w4.alloc (.cells #[.int .i64 0, .int .i64 0, .int .i64 0, .int .i64 0] 30 (0, 0))) w2.heap.size _ (linesK (ps.take (k + 1))) ∧ PairsB (ps.take (k + 1)) from ⟨by rw [HST.out]; show LOwn _ _ _ (_ ++ []); rw [List.append_nil]; exact ho4.below hX, hPB.out⟩)
        have HB := Lib.hid (ha4.trans (hX.mono ha4.size))
        clear hX ha4 ho4
        unfold lnO
        go_wp2_with fail
        go_roundw
        case rel => exact ⟨k + 1, by omega, by go_num, HE, HB⟩
        case measure => simp [intOf]; omega
      | some l =>
        have hok := hxok.out l rfl
        obtain ⟨f, o, nn, a⟩ := l
        have hX : Below w4.heap.size w4 (w4.alloc (.cells #[.int .i64 f, .int .i64 o, .int .i64 nn, .int .i64 a] 30 (0, 0))) := (Below.refl _ _).alloc (Nat.le_refl _) _
        obtain ⟨wx, hwx⟩ : ∃ wx, wx = w4.alloc (.cells #[.int .i64 f, .int .i64 o, .int .i64 nn, .int .i64 a] 30 (0, 0)) := ⟨_, rfl⟩
        have hblk : wx.heap[w4.heap.size]? = some (.cells #[.int .i64 f, .int .i64 o, .int .i64 nn, .int .i64 a] 30 (0, 0)) := by rw [hwx]; exact heap_alloc_new w4 _
        have hsz : wx.heap.size = w4.heap.size + 1 := by rw [hwx]; simp
        rw [← hwx] at hX
        obtain ⟨r0, r1, r2, r3⟩ := balLine_cells hblk
        have hY : Below wx.heap.size wx (wx.alloc (.cells #[.int .i64 f, .int .i64 o, .int .i64 nn, .int .i64 a] 30 (0, 0))) := (Below.refl _ _).alloc (Nat.le_refl _) _
        have hXY := hX.trans (hY.mono hX.size)
        obtain ⟨v', w6, hrun, hown6, hb6, _⟩ := (ho4.below hXY).append1 (x := ⟨f, o, nn, a⟩) (heap_alloc_new wx _) hok (by omega) (Nat.le_trans ha4.size hXY.size) 28
        rw [hsz] at hrun
        have HE := Lib.hid (show LOwn w6 w2.heap.size v' (linesK (ps.take (k + 1))) ∧ PairsB (ps.take (k + 1)) from ⟨by rw [HST.out]; exact hown6, hPB.out⟩)
        have HB := Lib.hid ((ha4.trans (hXY.mono ha4.size)).trans hb6)
        subst hwx
        have HRUN := Lib.hid hrun
        clear hX hY hXY ha4 ho4 hrun hown6 hb6 hblk hok hsz
        unfold lnO
        go_wp2_with (at_builtin; refine Lib.wpList_append_run _ rfl _ _ _ _ rfl _ _ rfl rfl _ _ HRUN.out ?_)
        go_roundw
        case rel => exact ⟨k + 1, by omega, by go_num, HE, HB⟩
        case measure => simp [intOf]; omega
    · obtain rfl : k = n := by omega
      have HE := Lib.hid (show LOwn wr w.heap.size _ (linesK ps) ∧ PairsB ps from by
        have h := hown.out
        rw [List.take_of_length_le (by rw [HP.out.len]; exact Nat.le_refl _)] at h
        exact ⟨h.1.base_le HB2.out.size, h.2⟩)
      clear hown
      go_wp2
      go_ret
      exact ⟨_, rfl, HE.out.1, HE.out.2, HB2.out.trans (hbw.out.mono HB2.out.size)⟩
theorem balAll_any {X : Nat → Prop} {m c : Nat} {S : VS} (h : ViewAt w X v m c S) (hS : ScanOk S) (hW : S.W.length ≤ 2147000000) {y : Int} (hy : 0 ≤ y ∧ y ≤ 4294967295) :
    Calls Tryz.prog 61 #[.pointer (some ⟨v, 0, none⟩), .int .i64 y] w fun e w' => ∃ A k, e = .returned (.slice A (linesK ((S.scan (tx (keyL 66 [y]))).map kvOf)).length k) ∧ (linesK ((S.scan (tx (keyL 66 [y]))).map kvOf)).length ≤ k ∧ RL w' w'.heap.size A (linesK ((S.scan (tx (keyL 66 [y]))).map kvOf)).length (linesK ((S.scan (tx (keyL 66 [y]))).map kvOf)) ∧ Below w.heap.size w w' := by
  refine (balAll_of (ps := (S.scan (tx (keyL 66 [y]))).map kvOf) hy (fun W A k hb hr => vScan_any (h.below hb) hS.wf hS.wk hS.cf hS.ck hr (Nat.le_refl _)) ?_).mono ?_
  · rw [List.length_map]
    have := scan_len S (tx (keyL 66 [y])); have := hS.cf
    omega
  · rintro e w' ⟨u, rfl, ho, hpb, hb⟩
    obtain ⟨A, k, rfl, hk⟩ := ho.shape
    exact ⟨A, k, rfl, hk, (ho.read (linesK_ok hpb)).2.2, hb⟩
end
end Go.Proofs.YtilhcchnlbdlhaaGreat
