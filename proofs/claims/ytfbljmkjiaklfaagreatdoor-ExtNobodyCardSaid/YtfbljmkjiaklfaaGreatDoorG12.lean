/-
  The texts RedoPB, RedoPC, RedoPD, PRow joined. Conditions: those that each part says at its head.
-/
import Derived.Test.YtfbljmkjiaklfaaGreatDoorG11

/-
  Contracts of the program's mark and Format, over any disk that answers as it is to. Conditions: a count and a seq that may stand in a sector; fewer than 2^63 - 1 writes; the table that crc.Step reads holds what the program's text lays in it, apart from the disk.
-/
namespace Go.Proofs.YtfbljmkjiaklfaaGreatDoor
open Go.RowKit
set_option maxRecDepth 100000
set_option linter.unusedVariables false

/-- The table is there, apart from the blocks F. -/
structure TabF (w : World) (F : Nat → Prop) : Prop where
  tab : Tab w
  lt : 1 < w.heap.size
  out : ¬ F 1
section
variable {D : World → (Nat → Prop) → Addr → DS → Prop} {w w1 w2 : World} {F F1 : Nat → Prop} {p : Addr} {S S1 S2 : DS}
theorem TabF.below (h : TabF w F) (hb : Below w.heap.size w w1) : TabF w1 F := ⟨h.tab.below hb h.lt, Nat.lt_of_lt_of_le h.lt hb.size, h.out⟩
theorem TabF.touch (h : TabF w F) (ht : Touch F w w1) (hF : ∀ k, F1 k → F k ∨ w.heap.size ≤ k) : TabF w1 F1 :=
  ⟨fun i hi => (World.cell?_of_block (a := ⟨1, i, none⟩) (ht.block _ h.lt h.out)).trans (h.tab i hi), Nat.lt_of_lt_of_le h.lt ht.size, fun hf => by
    rcases hF _ hf with a | a
    · exact h.out a
    · have := h.lt; omega⟩

theorem piece_cells {w : World} {b : Nat} {x0 y0 : Value} (x y : Value) (c0 : w.cell? ⟨b, 0, none⟩ = some x0) (c1 : w.cell? ⟨b, 1, none⟩ = some y0) : ((w.setCell ⟨b, 0, none⟩ x).setCell ⟨b, 1, none⟩ y).cell? ⟨b, 0, none⟩ = some x ∧ ((w.setCell ⟨b, 0, none⟩ x).setCell ⟨b, 1, none⟩ y).cell? ⟨b, 1, none⟩ = some y := by
  have e : (w.setCell ⟨b, 0, none⟩ x).cell? ⟨b, 1, none⟩ = some y0 := (World.cell?_setCell_other w ⟨b, 0, none⟩ ⟨b, 1, none⟩ x (by simp)).trans c1
  exact ⟨(World.cell?_setCell_other _ ⟨b, 1, none⟩ ⟨b, 0, none⟩ y (by simp)).trans (World.cell?_setCell_same w _ x c0), World.cell?_setCell_same _ _ y e⟩
/-- One sector to write. -/
theorem RImgs.one {w : World} {F : Nat → Prop} {b g c n : Nat} {T : TypeId} {x : Int} {l : List Int} (h : w.heap[b]? = some (.cells #[.int .i64 x, .slice (some ⟨g, 0, none⟩) n c] T (0, 0))) (hb : ¬ F b) (hg : ¬ F g) (hc : n ≤ c) (hn : n ≤ 9223372036854775807) (hr : RB w w.heap.size (some ⟨g, 0, none⟩) n l) : RImgs w F (some ⟨b, 0, none⟩) 1 [(x, l)] := by
  refine ⟨rfl, fun _ => ⟨b, rfl, hb, (Array.getElem?_eq_some_iff.1 h).1, fun i y hy => ?_⟩⟩
  obtain ⟨hi, e⟩ := List.getElem?_eq_some_iff.1 hy
  obtain rfl : i = 0 := by simpa using hi
  obtain rfl : (x, l) = y := e
  refine ⟨?_, some ⟨g, 0, none⟩, n, c, ?_, hc, hn, hr, fun a ha _ => by cases ha; exact hg⟩
  · rw [cell_of_row w b _ _ _ (0, 0) h]; rfl
  · rw [cell_of_row w b _ _ _ (0, 0) h]; rfl

set_option maxHeartbeats 800000 in
theorem markOf_any (count seq : Int) (hs : secR count seq = true) (ht : TabF w F) :
    Calls Tryz.prog 59 #[.int .i64 count, .int .i64 seq] w fun e w' => ∃ g c, e = .returned (.tuple #[.agg #[.int .i64 0, .slice (some ⟨g, 0, none⟩) 256 c], .int .i64 0]) ∧ 256 ≤ c ∧ w.heap.size ≤ g ∧ RB w' w'.heap.size (some ⟨g, 0, none⟩) 256 (secL count seq zpage) ∧ Below w.heap.size w w' := by
  obtain ⟨i0, hi, hz0, hz1, hz2⟩ := info_parts info_u8
  have hsb := secL_bytes count seq zpage_ok.2
  have hsl : (secL count seq zpage).length = 256 := by rw [secL_length, zpage_ok.1]
  have HT := Lib.hid ht
  have HS := Lib.hid hs
  have HPS := Lib.hid pack_said
  have HM := Lib.hid lay_said.mark
  clear ht hs
  go_enter Tryz.func59, Tryz.ntmps59
  go_wp2_with (refine wpList_make_full (w.alloc (.cells #[.int .i64 0, .slice none 0 0] 118)) rfl _ _ 46 rfl (w.heap.size + 1) 5 i0 (.int .u8 0) 1 Tryz.underlying46 hi hz0 hz1 .i64 .i64 _ _ 240 rfl rfl rfl rfl (by rw [hz2]; decide) (by decide) (by simp) ?_; intro w1 hown1 hg1; have hb1 : Below (w.heap.size + 1) (w.alloc (.cells #[.int .i64 0, .slice none 0 0] 118)) w1 := (Below.refl _ _).grown hg1 (by simp) (by simp); have hr1 : RB w1 w1.heap.size _ 240 zpage := RB.made hown1; clear hown1 hg1)
  have hb01 : Below w.heap.size w w1 := ((Below.refl w.heap.size w).alloc (Nat.le_refl _) _).trans (hb1.mono (Nat.le_succ _))
  have hcell1 : w1.heap[w.heap.size]? = some (.cells #[.int .i64 0, .slice none 0 0] 118 (0, 0)) := (hb1.block _ (Nat.lt_succ_self _)).trans (heap_alloc_new _ _)
  have ht1 := HT.out.below hb01
  have hs0 : (w.alloc (.cells #[.int .i64 0, .slice none 0 0] 118)).heap.size = w.heap.size + 1 := by simp
  rw [hs0] at hr1
  have hpk := HPS.out _ _ _ _ zpage count seq _ hr1 (Nat.le_refl _) (Nat.le_refl _) (by omega) ht1.tab ht1.lt
  rw [show packR count seq zpage = (secL count seq zpage, 0) from by unfold packR; rw [if_pos ⟨HS.out, zpage_ok.1⟩]] at hpk
  refine hpk.mono ?_
  clear hpk
  rintro e w2 ⟨v2, rfl, hown2, hb2⟩
  simp only [hsl] at hown2
  obtain ⟨g, c, rfl, hc, hg⟩ := own_some hown2 (by decide)
  have hr2 : RB w2 w2.heap.size (some ⟨g, 0, none⟩) 256 (secL count seq zpage) := RB.of_own hown2 hsb
  have hb02 := hb01.trans (hb2.mono hb01.size)
  have hg0 : w.heap.size < g := by have := hb1.size; omega
  have HF := Lib.hid (And.intro hc (And.intro hg0 (And.intro hr2 hb02)))
  have hcell2 := (hb2.block _ (show w.heap.size < w1.heap.size by have := hb1.size; omega)).trans hcell1
  have c0 : w2.cell? ⟨w.heap.size, 0, none⟩ = some (.int .i64 0) := by rw [cell_of_row w2 _ 0 _ _ (0, 0) hcell2]; rfl
  have c1 : w2.cell? ⟨w.heap.size, 1, none⟩ = some (.slice none 0 0) := by rw [cell_of_row w2 _ 1 _ _ (0, 0) hcell2]; rfl
  have f0 : w2.frozen? ⟨w.heap.size, 0, none⟩ = false := by simp [World.frozen?, hcell2]
  have f1 : w2.frozen? ⟨w.heap.size, 1, none⟩ = false := by simp [World.frozen?, hcell2]
  clear hown2 hr1 hb1 hb2 hb02 hr2 ht1 hc hg hg0
  go_wp2_with (go_at_call 62; refine (HM.out _).mono ?_; rintro e w3 ⟨rfl, rfl⟩)
  obtain ⟨d0, d1⟩ := piece_cells (.int .i64 0) (.slice (some ⟨g, 0, none⟩) 256 c) c0 c1
  refine bodyPost_ret (v := .tuple #[.agg #[.int .i64 0, .slice (some ⟨g, 0, none⟩) 256 c], .int .i64 0]) (by
    generalize ((w2.setCell ⟨w.heap.size, 0, none⟩ (Value.int IntKind.i64 0)).setCell ⟨w.heap.size, 1, none⟩ (Value.slice (some ⟨g, 0, none⟩) 256 c)) = X at *
    simp [results, Tryz.results59, go_sem, d0, d1]) rfl ?_
  obtain ⟨q1, q2, q3, q4⟩ := HF.out
  refine ⟨g, c, rfl, q1, Nat.le_of_lt q2, q3.there (by decide) ?_ (by simp), (q4.setCell (Nat.le_refl _) _).setCell (Nat.le_refl _) _⟩
  rw [Below.heap_setCell _ _ _ _ (by simp; omega), Below.heap_setCell _ _ _ _ (by simp; omega)]

set_option maxHeartbeats 800000 in
theorem format_any (api : DiskApi D) (h : D w F p S) (ht : TabF w F) (hw : S.writes ≤ 9223372036854775800) :
    Calls Tryz.prog 22 #[.pointer (some p)] w fun e w' => e = .returned (.int .i64 (markS S 0 1).1) ∧ WroteD D w F p (markS S 0 1).2 w' := by
  have HM := Lib.hid (markOf_any 0 1 (by decide) ht)
  go_enter Tryz.func22, Tryz.ntmps22
  go_wp2_with fail
  refine HM.out.mono ?_
  rintro e w1 ⟨g, c, rfl, hc, hg, hr1, hb1⟩
  have hlt := api.lt _ _ _ _ h
  have hgl : g < w1.heap.size := by obtain ⟨bb, _, e, hbb, _⟩ := hr1.at_ (by decide); cases e; exact hbb
  have hX : Below w1.heap.size w1 ((w1.alloc (.cells #[.int .i64 0, .slice (some ⟨g, 0, none⟩) 256 c] 118)).alloc (.cells #[.int .i64 0, .slice (some ⟨g, 0, none⟩) 256 c] 118)) := ((Below.refl _ _).alloc (Nat.le_refl _) _).alloc (by simp) _
  have hb2 := hb1.trans (hX.mono hb1.size)
  have h2 := api.below h hb2
  have hs1 := hb1.size
  have hbk : ((w1.alloc (.cells #[.int .i64 0, .slice (some ⟨g, 0, none⟩) 256 c] 118)).alloc (.cells #[.int .i64 0, .slice (some ⟨g, 0, none⟩) 256 c] 118)).heap[w1.heap.size + 1]? = some (.cells #[.int .i64 0, .slice (some ⟨g, 0, none⟩) 256 c] 118 (0, 0)) := by
    have := heap_alloc_new (w1.alloc (.cells #[.int .i64 0, .slice (some ⟨g, 0, none⟩) 256 c] 118)) (.cells #[.int .i64 0, .slice (some ⟨g, 0, none⟩) 256 c] 118)
    simpa using this
  have HP := Lib.hid (put_any api (c := 1) h2 (RImgs.one hbk (fun hf => by have := hlt _ hf; omega) (fun hf => by have := hlt _ hf; omega) hc (by decide) (hr1.there (by decide) (hX.block g hgl) hX.size)) (fun y hy => by obtain rfl := List.mem_singleton.1 hy; exact (secL_length ..).trans (by rw [zpage_ok.1])) (by decide) (by omega))
  have HT := Lib.hid (Touch.of_below (F := F) hb2)
  have HS := Lib.hid (markS_sec S (c := 0) (s := 1) (by decide))
  clear h h2 hX hb1 hb2 hr1 hlt
  go_wp2_with fail
  refine HP.out.mono ?_
  rintro e w2 ⟨rfl, hW⟩
  have hF := Lib.hid (WroteD.join HT.out (fun k hk => .inl hk) hW)
  clear hW
  go_wp2
  go_ret
  rw [HS.out]
  exact ⟨rfl, hF.out⟩
end

end Go.Proofs.YtfbljmkjiaklfaaGreatDoor

/-
  Contracts of the program's log: made, Seq, Pages, Load, over any disk that answers as it is to. Condition: the table that crc.Step reads holds what the program's text lays in it, apart from the disk.
-/
namespace Go.Proofs.YtfbljmkjiaklfaaGreatDoor
open Go.RowKit
set_option maxRecDepth 100000
set_option linter.unusedVariables false

/-- A log at block q: of the disk at p, with a seq. -/
def PLog (w : World) (q : Nat) (p : Addr) (seq : Int) : Prop := w.heap[q]? = some (.cells #[.pointer (some p), .int .i64 seq] 125 (0, 0))
section
variable {D : World → (Nat → Prop) → Addr → DS → Prop} {w : World} {F : Nat → Prop} {p : Addr} {S : DS} {q : Nat} {seq : Int}
theorem PLog.cells (h : PLog w q p seq) : w.cell? ⟨q, 0, none⟩ = some (.pointer (some p)) ∧ w.cell? ⟨q, 1, none⟩ = some (.int .i64 seq) ∧ w.frozen? ⟨q, 1, none⟩ = false ∧ q < w.heap.size := by
  refine ⟨?_, ?_, ?_, (Array.getElem?_eq_some_iff.1 h).1⟩
  · rw [cell_of_row w q 0 _ _ (0, 0) h]; rfl
  · rw [cell_of_row w q 1 _ _ (0, 0) h]; rfl
  · simp [World.frozen?, show w.heap[q]? = _ from h]
theorem PLog.keep {w' : World} (h : PLog w q p seq) (e : w'.heap[q]? = w.heap[q]?) : PLog w' q p seq := e.trans h
theorem PLog.below {w' : World} (h : PLog w q p seq) (hb : Below w.heap.size w w') : PLog w' q p seq := h.keep (hb.block q h.cells.2.2.2)

set_option maxHeartbeats 400000 in
theorem made_any (hq : PLog w q p seq) : Calls Tryz.prog 120 #[.pointer (some ⟨q, 0, none⟩)] w fun e w' => e = .returned (.bool true) ∧ w = w' := by
  obtain ⟨l0, l1, l2, l3⟩ := hq.cells
  clear hq
  go_enter Tryz.func120, Tryz.ntmps120
  go_wp2
  go_ret
  exact ⟨rfl, rfl⟩

set_option maxHeartbeats 400000 in
theorem pages_same (api : DiskApi D) (h : D w F p S) (hq : PLog w q p seq) : Calls Tryz.prog 65 #[.pointer (some ⟨q, 0, none⟩)] w fun e w' => e = .returned (.int .i64 (pagesOf S.n)) ∧ w' = w := by
  obtain ⟨l0, l1, l2, l3⟩ := hq.cells
  have hok := api.ok _ _ _ _ h
  have hsz := hok.size
  have HM := Lib.hid (made_any hq)
  have HS := Lib.hid (api.sizeSame _ _ _ _ h)
  clear hq h
  go_enter Tryz.func65, Tryz.ntmps65
  go_wp2_with fail
  refine HM.out.mono ?_
  rintro e w1 ⟨rfl, rfl⟩
  go_wp2_with fail
  refine HS.out.mono ?_
  rintro e w1 ⟨rfl, rfl⟩
  go_wp2_with fail
  refine (lay_said.pages (S.n : Int) w1 (by omega)).mono ?_
  rintro e w2 ⟨rfl, rfl⟩
  go_wp2
  go_ret
  exact ⟨rfl, rfl⟩

theorem pages_any (api : DiskApi D) (h : D w F p S) (hq : PLog w q p seq) : Calls Tryz.prog 65 #[.pointer (some ⟨q, 0, none⟩)] w fun e w' => e = .returned (.int .i64 (pagesOf S.n)) ∧ Below w.heap.size w w' :=
  (pages_same api h hq).mono fun e w' ⟨h1, h2⟩ => ⟨h1, h2 ▸ Below.refl _ _⟩

set_option maxHeartbeats 1600000 in
theorem load_any (api : DiskApi D) (h : D w F p S) (hq : PLog w q p seq) (ht : TabF w F) (pg : Int) (hpg : -9223372036854775808 ≤ pg ∧ pg ≤ 9223372036854775807) : Calls Tryz.prog 82 #[.pointer (some ⟨q, 0, none⟩), .int .i64 pg] w fun e w' => ∃ A n c, e = .returned (.tuple #[.slice A n c, .int .i64 (loadS S pg).2]) ∧ n ≤ c ∧ RB w' w'.heap.size A n (loadS S pg).1 ∧ Below w.heap.size w w' := by
  obtain ⟨i0, hi, hz0, hz1, hz2⟩ := info_parts info_u8
  obtain ⟨l0, l1, l2, l3⟩ := hq.cells
  have hok := api.ok _ _ _ _ h
  have hsz := hok.size
  have hpb := pagesOf_bounds (S.n : Int)
  have hpn := (pagesOf_nn (S.n : Int)).2.1 (by omega)
  have hP : S.P = pagesOf S.n := rfl
  have HM := Lib.hid (made_any hq)
  have HS := Lib.hid (api.sizes _ _ _ _ h)
  have HT := Lib.hid ht
  have HUP := Lib.hid unpack_said
  have HHM := Lib.hid (fun w1 => lay_said.home (S.n : Int) pg w1 (by omega) hpg)
  have HRD := Lib.hid (fun w1 (hb : Below w.heap.size w w1) => api.read (pg + 1 + pagesOf S.n) w1 F p S (api.below h hb))
  by_cases hr : pg < 0 ∨ pg ≥ pagesOf S.n
  · have hL : loadS S pg = ([], 1) := by unfold loadS; rw [hP, if_pos hr]
    have hh : homeOf (S.n : Int) pg = (0, false) := by unfold homeOf; rw [if_pos hr]
    rw [hh] at HHM
    rw [hL]
    clear hL hh hr h hq ht hok
    go_enter Tryz.func82, Tryz.ntmps82
    go_wp2_with fail
    refine HM.out.mono ?_
    rintro e w1 ⟨rfl, rfl⟩
    go_wp2_with fail
    refine HS.out.mono ?_
    rintro e w1 ⟨rfl, hb1⟩
    have l0 := (hb1.cell (p := ⟨q, 0, none⟩) l3).trans l0
    go_wp2_with fail
    refine (HHM.out w1).mono ?_
    rintro e w2 ⟨rfl, rfl⟩
    go_wp2
    go_ret2
    exact ⟨none, 0, 0, rfl, Nat.le_refl _, RB.nil_, hb1⟩
  have hh : homeOf (S.n : Int) pg = (pg + 1 + pagesOf S.n, true) := by unfold homeOf; rw [if_neg hr]
  rw [hh] at HHM
  by_cases hd : S.down = true
  · have hL : loadS S pg = ([], 5) := by unfold loadS; rw [hP, if_neg hr, if_pos hd]
    have hre : S.readE (pg + 1 + pagesOf S.n) = 5 := by simp [DS.readE, hd]
    have hrl : S.readL (pg + 1 + pagesOf S.n) = [] := by simp [DS.readL, hre]
    rw [hre, hrl] at HRD
    rw [hL]
    clear hL hh hr h hq ht hok hre hrl hd
    go_enter Tryz.func82, Tryz.ntmps82
    go_wp2_with fail
    refine HM.out.mono ?_
    rintro e w1 ⟨rfl, rfl⟩
    go_wp2_with fail
    refine HS.out.mono ?_
    rintro e w1 ⟨rfl, hb1⟩
    have l0 := (hb1.cell (p := ⟨q, 0, none⟩) l3).trans l0
    go_wp2_with fail
    refine (HHM.out w1).mono ?_
    rintro e w2 ⟨rfl, rfl⟩
    go_wp2_with fail
    refine (HRD.out w1 hb1).mono ?_
    rintro e w3 ⟨A3, n3, c3, rfl, hc3, hr3, hb3⟩
    have hb03 := hb1.trans (hb3.mono hb1.size)
    have ht3 := HT.out.below hb03
    have HB := Lib.hid hb03
    clear hb03 ht3
    go_wp2
    go_ret2
    exact ⟨none, 0, 0, rfl, Nat.le_refl _, RB.nil_, HB.out⟩
  have hd' : S.down = false := by simpa using hd
  obtain ⟨a, ha⟩ := Int.eq_ofNat_of_zero_le (show 0 ≤ pg + 1 + pagesOf S.n by omega)
  have hre : S.readE (pg + 1 + pagesOf S.n) = 0 := by
    unfold DS.readE
    rw [if_neg (by simp [hd']), if_pos (show S.has _ from ⟨by omega, by omega⟩)]
  have hrl : S.readL (pg + 1 + pagesOf S.n) = S.last a := by
    unfold DS.readL
    rw [if_pos hre, ha, Int.toNat_natCast]
  rw [hre, hrl] at HRD
  have hbytes := hok.lastBytes a
  have HLN := Lib.hid hbytes.1
  have hL : loadS S pg = if (unpackR (S.last a)).2.2.2 ≠ 0 ∨ (unpackR (S.last a)).1 ≠ pg then (zpage, 0) else ((unpackR (S.last a)).2.2.1, 0) := by
    unfold loadS
    rw [hP, if_neg hr, if_neg hd, ha, Int.toNat_natCast]
  have HL := Lib.hid hL
  clear hL hh hr h hq ht hok hre hrl hd hd' ha hbytes
  generalize hpge : (unpackR (S.last a)).1 = pe at HL
  generalize her : (unpackR (S.last a)).2.2.2 = er at HL
  have HPE := Lib.hid (And.intro hpge her)
  clear hpge her
  by_cases h1 : er = 0
  · subst h1
    by_cases h2 : pe = pg
    · subst h2
      have k2 : (pe == pe) = true := by simp
      have HL2 := Lib.hid (HL.out.trans (if_neg (by simp)))
      go_enter Tryz.func82, Tryz.ntmps82
      go_wp2_with fail
      refine HM.out.mono ?_
      rintro e w1 ⟨rfl, rfl⟩
      go_wp2_with fail
      refine HS.out.mono ?_
      rintro e w1 ⟨rfl, hb1⟩
      have l0 := (hb1.cell (p := ⟨q, 0, none⟩) l3).trans l0
      go_wp2_with fail
      refine (HHM.out w1).mono ?_
      rintro e w2 ⟨rfl, rfl⟩
      go_wp2_with fail
      refine (HRD.out w1 hb1).mono ?_
      rintro e w3 ⟨A3, n3, c3, rfl, hc3, hr3, hb3⟩
      have hb03 := hb1.trans (hb3.mono hb1.size)
      have ht3 := HT.out.below hb03
      go_wp2_with fail
      refine (HUP.out A3 n3 c3 _ _ w3 hr3 (Nat.le_refl _) hc3 (by have := hr3.len; rw [HLN.out] at this; omega) ht3.tab ht3.lt).mono ?_
      rw [HPE.out.1, HPE.out.2]
      rintro e w4 ⟨A4, n4, c4, rfl, hc4, hr4, hb4⟩
      have hb04 := hb03.trans (hb4.mono hb03.size)
      have HF := Lib.hid (And.intro hc4 (And.intro hr4 hb04))
      clear hc4 hr4 hb4 hb04 hr3 hb3 hb03 ht3
      go_wp2
      go_ret2
      rw [HL2.out]
      exact ⟨_, _, _, rfl, HF.out⟩
    · have k2 : (pe == pg) = false := by simpa using h2
      have HL2 := Lib.hid (HL.out.trans (if_pos (.inr h2)))
      clear h2
      go_enter Tryz.func82, Tryz.ntmps82
      go_wp2_with fail
      refine HM.out.mono ?_
      rintro e w1 ⟨rfl, rfl⟩
      go_wp2_with fail
      refine HS.out.mono ?_
      rintro e w1 ⟨rfl, hb1⟩
      have l0 := (hb1.cell (p := ⟨q, 0, none⟩) l3).trans l0
      go_wp2_with fail
      refine (HHM.out w1).mono ?_
      rintro e w2 ⟨rfl, rfl⟩
      go_wp2_with fail
      refine (HRD.out w1 hb1).mono ?_
      rintro e w3 ⟨A3, n3, c3, rfl, hc3, hr3, hb3⟩
      have hb03 := hb1.trans (hb3.mono hb1.size)
      have ht3 := HT.out.below hb03
      go_wp2_with fail
      refine (HUP.out A3 n3 c3 _ _ w3 hr3 (Nat.le_refl _) hc3 (by have := hr3.len; rw [HLN.out] at this; omega) ht3.tab ht3.lt).mono ?_
      rw [HPE.out.1, HPE.out.2]
      rintro e w4 ⟨A4, n4, c4, rfl, hc4, hr4, hb4⟩
      have hb04 := hb03.trans (hb4.mono hb03.size)
      clear hc4 hr4 hb4 hr3 hb3 hb03 ht3
      go_wp2_with (refine wpList_make_full w4 rfl _ _ 46 rfl w4.heap.size 5 i0 (.int .u8 0) 1 Tryz.underlying46 hi hz0 hz1 .i64 .i64 _ _ 240 rfl rfl rfl rfl (by rw [hz2]; decide) (by decide) (Nat.le_refl _) ?_; intro w5 hown5 hg5; have hb5 : Below w4.heap.size w4 w5 := (Below.refl _ _).grown hg5 (Nat.le_refl _) (by simp); have hr5 : RB w5 w5.heap.size _ 240 zpage := RB.made hown5; have HF := Lib.hid (And.intro hr5 (hb04.trans (hb5.mono hb04.size))); clear hown5 hg5 hb5 hr5)
      go_ret2
      rw [HL2.out]
      exact ⟨_, 240, 240, rfl, Nat.le_refl _, HF.out⟩
  · have k1 : (er == 0) = false := by simpa using h1
    have HL2 := Lib.hid (HL.out.trans (if_pos (.inl h1)))
    clear h1
    go_enter Tryz.func82, Tryz.ntmps82
    go_wp2_with fail
    refine HM.out.mono ?_
    rintro e w1 ⟨rfl, rfl⟩
    go_wp2_with fail
    refine HS.out.mono ?_
    rintro e w1 ⟨rfl, hb1⟩
    have l0 := (hb1.cell (p := ⟨q, 0, none⟩) l3).trans l0
    go_wp2_with fail
    refine (HHM.out w1).mono ?_
    rintro e w2 ⟨rfl, rfl⟩
    go_wp2_with fail
    refine (HRD.out w1 hb1).mono ?_
    rintro e w3 ⟨A3, n3, c3, rfl, hc3, hr3, hb3⟩
    have hb03 := hb1.trans (hb3.mono hb1.size)
    have ht3 := HT.out.below hb03
    go_wp2_with fail
    refine (HUP.out A3 n3 c3 _ _ w3 hr3 (Nat.le_refl _) hc3 (by have := hr3.len; rw [HLN.out] at this; omega) ht3.tab ht3.lt).mono ?_
    rw [HPE.out.1, HPE.out.2]
    rintro e w4 ⟨A4, n4, c4, rfl, hc4, hr4, hb4⟩
    have hb04 := hb03.trans (hb4.mono hb03.size)
    clear hc4 hr4 hb4 hr3 hb3 hb03 ht3
    go_wp2_with (refine wpList_make_full w4 rfl _ _ 46 rfl w4.heap.size 5 i0 (.int .u8 0) 1 Tryz.underlying46 hi hz0 hz1 .i64 .i64 _ _ 240 rfl rfl rfl rfl (by rw [hz2]; decide) (by decide) (Nat.le_refl _) ?_; intro w5 hown5 hg5; have hb5 : Below w4.heap.size w4 w5 := (Below.refl _ _).grown hg5 (Nat.le_refl _) (by simp); have hr5 : RB w5 w5.heap.size _ 240 zpage := RB.made hown5; have HF := Lib.hid (And.intro hr5 (hb04.trans (hb5.mono hb04.size))); clear hown5 hg5 hb5 hr5)
    go_ret2
    rw [HL2.out]
    exact ⟨_, 240, 240, rfl, Nat.le_refl _, HF.out⟩
end

end Go.Proofs.YtfbljmkjiaklfaaGreatDoor

/-
  Contract of the program's homeOf: what a slot has to be written at its page's home; over any disk that answers as it is to. Conditions: the disk is up and has the slot; the table that crc.Step reads holds what the program's text lays in it, apart from the disk.
-/
namespace Go.Proofs.YtfbljmkjiaklfaaGreatDoor
open Go.RowKit
set_option maxRecDepth 100000
set_option linter.unusedVariables false

section
variable {D : World → (Nat → Prop) → Addr → DS → Prop} {w : World} {F : Nat → Prop} {p : Addr} {S : DS} {q : Nat} {seq : Int}

/-- What homeOf answers of what the slot has. -/
def HomeAns (w : World) (P : Int) (r : Option (Int × List Int)) (e : Ending) (w' : World) : Prop :=
  Below w.heap.size w w' ∧ match r with
  | none => e = .returned (.tuple #[.agg #[.int .i64 0, .slice none 0 0], .bool false, .int .i64 0])
  | some y => ∃ g c, e = .returned (.tuple #[.agg #[.int .i64 (y.1 + 1 + P), .slice (some ⟨g, 0, none⟩) 256 c], .bool true, .int .i64 0]) ∧ 256 ≤ c ∧ w.heap.size ≤ g ∧ RB w' w'.heap.size (some ⟨g, 0, none⟩) 256 y.2

/-! A result of type piece lies in a block of its own. -/
theorem resP {w w1 : World} (h : Below (w.heap.size + 1) (w.alloc (.cells #[.int .i64 0, .slice none 0 0] 118)) w1) : Below w.heap.size w w1 ∧ w1.cell? ⟨w.heap.size, 0, none⟩ = some (.int .i64 0) ∧ w1.cell? ⟨w.heap.size, 1, none⟩ = some (.slice none 0 0) ∧ w1.frozen? ⟨w.heap.size, 0, none⟩ = false ∧ w1.frozen? ⟨w.heap.size, 1, none⟩ = false ∧ w.heap.size + 1 ≤ w1.heap.size := by
  have hc : w1.heap[w.heap.size]? = some (.cells #[.int .i64 0, .slice none 0 0] 118 (0, 0)) := (h.block _ (Nat.lt_succ_self _)).trans (heap_alloc_new _ _)
  refine ⟨((Below.refl w.heap.size w).alloc (Nat.le_refl _) _).trans (h.mono (Nat.le_succ _)), ?_, ?_, ?_, ?_, ?_⟩
  · rw [cell_of_row w1 _ 0 _ _ (0, 0) hc]; rfl
  · rw [cell_of_row w1 _ 1 _ _ (0, 0) hc]; rfl
  · simp [World.frozen?, hc]
  · simp [World.frozen?, hc]
  · have := h.size; simpa using this
theorem hom_end {w w1 : World} (h : Below (w.heap.size + 1) (w.alloc (.cells #[.int .i64 0, .slice none 0 0] 118)) w1) (x y : Value) : Below w.heap.size w ((w1.setCell ⟨w.heap.size, 0, none⟩ x).setCell ⟨w.heap.size, 1, none⟩ y) ∧ ∀ (g n : Nat) (l : List Int), 0 < n → w.heap.size < g → RB w1 w1.heap.size (some ⟨g, 0, none⟩) n l → RB ((w1.setCell ⟨w.heap.size, 0, none⟩ x).setCell ⟨w.heap.size, 1, none⟩ y) ((w1.setCell ⟨w.heap.size, 0, none⟩ x).setCell ⟨w.heap.size, 1, none⟩ y).heap.size (some ⟨g, 0, none⟩) n l := by
  refine ⟨((resP h).1.setCell (Nat.le_refl _) _).setCell (Nat.le_refl _) _, fun g n l hn hg hr => hr.there hn ?_ (by simp)⟩
  rw [Below.heap_setCell _ _ _ _ (by simp; omega), Below.heap_setCell _ _ _ _ (by simp; omega)]

set_option maxHeartbeats 1600000 in
theorem homeOf_any (api : DiskApi D) (h : D w F p S) (hq : PLog w q p seq) (ht : TabF w F) (hd : S.down = false) (i : Nat) (hi : (i : Int) < pagesOf S.n) : Calls Tryz.prog 119 #[.pointer (some ⟨q, 0, none⟩), .int .i64 (i : Int)] w fun e w' => HomeAns w (pagesOf S.n) (slotIn S.n S.last seq i) e w' := by
  have hok := api.ok _ _ _ _ h
  have hsz := hok.size
  have hpb := pagesOf_bounds (S.n : Int)
  have hpn := (pagesOf_nn (S.n : Int)).2.1 (by omega)
  have hsl : slotOf (S.n : Int) (i : Int) = ((i : Int) + 1, true) := by unfold slotOf; rw [if_neg (by omega)]
  have hre : S.readE ((i : Int) + 1) = 0 := by
    unfold DS.readE
    rw [if_neg (by simp [hd]), if_pos (show S.has _ from ⟨by omega, by omega⟩)]
  have HS := Lib.hid (fun w1 (hb : Below w.heap.size w w1) => api.sizes w1 F p S (api.below h hb))
  have HSL := Lib.hid (fun w1 => lay_said.slot (S.n : Int) (i : Int) w1 (by omega) (by omega))
  rw [hsl] at HSL
  have HRD := Lib.hid (fun w1 (hb : Below w.heap.size w w1) => api.readAt ((i : Int) + 1) w1 F p S (api.below h hb) hre)
  rw [show ((i : Int) + 1).toNat = i + 1 by omega] at HRD
  have HT := Lib.hid (fun w1 (hb : Below w.heap.size w w1) => ht.below hb)
  have LC := Lib.hid (fun w1 (hb : Below w.heap.size w w1) => (hq.below hb).cells)
  have HUP := Lib.hid unpack_said
  have HSI : slotIn S.n S.last seq i = if (unpackR (S.last (i + 1))).2.2.2 = 0 ∧ (unpackR (S.last (i + 1))).2.1 = seq ∧ (unpackR (S.last (i + 1))).1 < pagesOf S.n then some ((unpackR (S.last (i + 1))).1, S.last (i + 1)) else none := rfl
  have hpg0 : (unpackR (S.last (i + 1))).2.2.2 = 0 → 0 ≤ (unpackR (S.last (i + 1))).1 ∧ (unpackR (S.last (i + 1))).1 < 4294967296 := fun he => ⟨(unpack_page he).1, (unpack_count he).1⟩
  generalize hpge : (unpackR (S.last (i + 1))).1 = pg at HSI hpg0
  generalize hsee : (unpackR (S.last (i + 1))).2.1 = se at HSI
  generalize her : (unpackR (S.last (i + 1))).2.2.2 = er at HSI hpg0
  have HPE := Lib.hid (And.intro hpge (And.intro hsee her))
  have HSI := Lib.hid HSI
  have hX0 : Below (w.heap.size + 1) (w.alloc (.cells #[.int .i64 0, .slice none 0 0] 118)) (w.alloc (.cells #[.int .i64 0, .slice none 0 0] 118)) := Below.refl _ _
  have hw0 := (resP hX0).1
  obtain ⟨l0, l1, _, _⟩ := LC.out _ hw0
  clear hpge hsee her hq ht h hok hsl hre
  go_enter Tryz.func119, Tryz.ntmps119
  go_wp2_with fail
  refine (HS.out _ hw0).mono ?_
  rintro e w1 ⟨rfl, hb1⟩
  have hX1 := hX0.trans (hb1.mono (by simp))
  have hw1 := (resP hX1).1
  clear l0 l1
  obtain ⟨l0, l1, _, _⟩ := LC.out _ hw1
  go_wp2_with fail
  refine (HSL.out w1).mono ?_
  rintro e w2 ⟨rfl, rfl⟩
  go_wp2_with fail
  refine (HRD.out w1 hw1).mono ?_
  rintro e w3 ⟨g, c, rfl, hc, hg, hr3, hb3⟩
  have hX3 := hX1.trans (hb3.mono (resP hX1).2.2.2.2.2)
  have hw3 := (resP hX3).1
  have ht3 := HT.out _ hw3
  clear l0 l1
  go_wp2_with fail
  refine (HUP.out (some ⟨g, 0, none⟩) 256 c _ _ w3 hr3 (Nat.le_refl _) hc (by omega) ht3.tab ht3.lt).mono ?_
  rw [HPE.out.1, HPE.out.2.1, HPE.out.2.2]
  rintro e w4 ⟨A4, n4, c4, rfl, hc4, hr4, hb4⟩
  have hX4 := hX3.trans (hb4.mono (resP hX3).2.2.2.2.2)
  have hw4 := (resP hX4).1
  obtain ⟨l0, l1, _, _⟩ := LC.out _ hw4
  obtain ⟨_, c0, c1, f0, f1, _⟩ := resP hX4
  have hgl : g < w3.heap.size := by obtain ⟨bb, _, e, hbb, _⟩ := hr3.at_ (by decide); cases e; exact hbb
  have hgw : w.heap.size < g := by have := (resP hX1).2.2.2.2.2; omega
  have HR4 := Lib.hid (hr3.there (by decide) (hb4.block g hgl) hb4.size)
  clear hr3 hr4 hb1 hb3 hb4 hX0 hX1 hX3 hw0 hw1 hw3 ht3
  by_cases h1 : er = 0
  · subst h1
    by_cases h2 : se = seq
    · subst h2
      have k2 : (se != se) = false := by simp
      obtain ⟨hp0, hp1⟩ := hpg0 rfl
      have HHM := Lib.hid (fun w1 => lay_said.home (S.n : Int) pg w1 (by omega) (by omega))
      by_cases h3 : pg < pagesOf S.n
      · have hh : homeOf (S.n : Int) pg = (pg + 1 + pagesOf S.n, true) := by unfold homeOf; rw [if_neg (by omega)]
        rw [hh] at HHM
        have HN := Lib.hid (HSI.out.trans (if_pos ⟨rfl, rfl, h3⟩))
        clear h3 hh
        go_wp2_with fail
        refine (HS.out _ hw4).mono ?_
        rintro e w5 ⟨rfl, hb5⟩
        have hX5 := hX4.trans (hb5.mono (resP hX4).2.2.2.2.2)
        have hs5 := hb5.size
        have HR5 := Lib.hid (HR4.out.there (by decide) (hb5.block g (by have := HR4.out; obtain ⟨bb, _, e, hbb, _⟩ := this.at_ (by decide); cases e; exact hbb)) hb5.size)
        clear c0 c1 f0 f1 l0 l1
        obtain ⟨_, c0, c1, f0, f1, _⟩ := resP hX5
        have HXZ := Lib.hid hX5
        clear hb5 hX4 hX5 hw4
        go_wp2_with fail
        refine (HHM.out w5).mono ?_
        rintro e w6 ⟨rfl, rfl⟩
        obtain ⟨d0, d1⟩ := piece_cells (w := w5) (.int .i64 (pg + 1 + pagesOf S.n)) (.slice (some ⟨g, 0, none⟩) 256 c) c0 c1
        have hE := Lib.hid (hom_end HXZ.out (.int .i64 (pg + 1 + pagesOf S.n)) (.slice (some ⟨g, 0, none⟩) 256 c))
        have HC := Lib.hid (And.intro hc hgw)
        clear hc hgw hg hgl
        go_wp2
        refine bodyPost_ret (v := .tuple #[.agg #[.int .i64 (pg + 1 + pagesOf S.n), .slice (some ⟨g, 0, none⟩) 256 c], .bool true, .int .i64 0]) (by
          generalize ((w5.setCell ⟨w.heap.size, 0, none⟩ (Value.int IntKind.i64 (pg + 1 + pagesOf S.n))).setCell ⟨w.heap.size, 1, none⟩ (Value.slice (some ⟨g, 0, none⟩) 256 c)) = X at *
          simp [results, Tryz.results119, go_sem, d0, d1]) rfl ?_
        rw [HN.out]
        exact ⟨hE.out.1, g, c, rfl, HC.out.1, Nat.le_of_lt HC.out.2, hE.out.2 g 256 _ (by decide) HC.out.2 HR5.out⟩
      · have hh : homeOf (S.n : Int) pg = (0, false) := by unfold homeOf; rw [if_pos (by omega)]
        rw [hh] at HHM
        have HN := Lib.hid (HSI.out.trans (if_neg (fun h => h3 h.2.2)))
        clear h3 hh
        go_wp2_with fail
        refine (HS.out _ hw4).mono ?_
        rintro e w5 ⟨rfl, hb5⟩
        have hX5 := hX4.trans (hb5.mono (resP hX4).2.2.2.2.2)
        have hs5 := hb5.size
        have HR5 := Lib.hid (HR4.out.there (by decide) (hb5.block g (by have := HR4.out; obtain ⟨bb, _, e, hbb, _⟩ := this.at_ (by decide); cases e; exact hbb)) hb5.size)
        clear c0 c1 f0 f1 l0 l1
        obtain ⟨_, c0, c1, f0, f1, _⟩ := resP hX5
        have HXZ := Lib.hid hX5
        clear hb5 hX4 hX5 hw4
        go_wp2_with fail
        refine (HHM.out w5).mono ?_
        rintro e w6 ⟨rfl, rfl⟩
        obtain ⟨d0, d1⟩ := piece_cells (w := w5) (.int .i64 0) (.slice none 0 0) c0 c1
        have hE := Lib.hid (hom_end HXZ.out (.int .i64 0) (.slice none 0 0)).1
        go_wp2
        refine bodyPost_ret (v := .tuple #[.agg #[.int .i64 0, .slice none 0 0], .bool false, .int .i64 0]) (by
          generalize ((w5.setCell ⟨w.heap.size, 0, none⟩ (Value.int IntKind.i64 0)).setCell ⟨w.heap.size, 1, none⟩ (Value.slice none 0 0)) = X at *
          simp [results, Tryz.results119, go_sem, d0, d1]) rfl ?_
        rw [HN.out]
        exact ⟨hE.out, rfl⟩
    · have k2 : (se != seq) = true := by simpa using h2
      have HN := Lib.hid (HSI.out.trans (if_neg (fun h => h2 h.2.1)))
      have HXZ := Lib.hid hX4
      clear h2
      obtain ⟨d0, d1⟩ := piece_cells (w := w4) (.int .i64 0) (.slice none 0 0) c0 c1
      have hE := Lib.hid (hom_end HXZ.out (.int .i64 0) (.slice none 0 0)).1
      go_wp2
      refine bodyPost_ret (v := .tuple #[.agg #[.int .i64 0, .slice none 0 0], .bool false, .int .i64 0]) (by
        generalize ((w4.setCell ⟨w.heap.size, 0, none⟩ (Value.int IntKind.i64 0)).setCell ⟨w.heap.size, 1, none⟩ (Value.slice none 0 0)) = X at *
        simp [results, Tryz.results119, go_sem, d0, d1]) rfl ?_
      rw [HN.out]
      exact ⟨hE.out, rfl⟩
  · have k1 : (er != 0) = true := by simpa using h1
    have HN := Lib.hid (HSI.out.trans (if_neg (fun h => h1 h.1)))
    have HXZ := Lib.hid hX4
    clear h1
    obtain ⟨d0, d1⟩ := piece_cells (w := w4) (.int .i64 0) (.slice none 0 0) c0 c1
    have hE := Lib.hid (hom_end HXZ.out (.int .i64 0) (.slice none 0 0)).1
    go_wp2
    refine bodyPost_ret (v := .tuple #[.agg #[.int .i64 0, .slice none 0 0], .bool false, .int .i64 0]) (by
      generalize ((w4.setCell ⟨w.heap.size, 0, none⟩ (Value.int IntKind.i64 0)).setCell ⟨w.heap.size, 1, none⟩ (Value.slice none 0 0)) = X at *
      simp [results, Tryz.results119, go_sem, d0, d1]) rfl ?_
    rw [HN.out]
    exact ⟨hE.out, rfl⟩
end

end Go.Proofs.YtfbljmkjiaklfaaGreatDoor

/-
  Words for a list of numbers with bytes as it is built by append (rows of two cells each); what keeps it; how it is read. Plain facts; no condition beyond what each says.
-/
namespace Go.Proofs.YtfbljmkjiaklfaaGreatDoor
open Go.RowKit
set_option maxRecDepth 100000
set_option linter.unusedVariables false

theorem info_piece : (Tryz.prog.info? 118).map (fun i => (i.zero, i.size, i.bytes)) = some (some (.agg #[.int .i64 0, .slice none 0 0]), 2, 32) := by kernel_rfl
theorem info_image : (Tryz.prog.info? 138).map (fun i => (i.zero, i.size, i.bytes)) = some (some (.agg #[.int .i64 0, .slice none 0 0]), 2, 32) := by kernel_rfl

/-- A slice of m bytes apart from the blocks F and from a row. -/
def Far (w : World) (F : Nat → Prop) (v u : Value) (m : Nat) (b : List Int) : Prop :=
  ∃ g c, u = .slice (some ⟨g, 0, none⟩) m c ∧ m ≤ c ∧ ¬ F g ∧ v.ownBlock ≠ some g ∧ g < w.heap.size ∧ RB w w.heap.size (some ⟨g, 0, none⟩) m b
/-- The list l, in a row from block base on, apart from the blocks F. -/
structure PRow (e m : Nat) (w : World) (F : Nat → Prop) (base : Nat) (v : Value) (l : List (Int × List Int)) : Prop where
  row : ∃ vs, w.ownsRow base e 2 v l.length vs ∧ ∀ (i : Nat) (x : Int × List Int), l[i]? = some x → vs[i * 2]? = some (.int .i64 x.1) ∧ ∃ u, vs[i * 2 + 1]? = some u ∧ Far w F v u m x.2
  out : ∀ r, v.ownBlock = some r → ¬ F r

section
variable {e m : Nat} {w w' : World} {F F' : Nat → Prop} {base : Nat} {v : Value} {l : List (Int × List Int)}

theorem PRow.start (e m : Nat) (w : World) (F : Nat → Prop) (base : Nat) : PRow e m w F base (.slice none 0 0) [] :=
  ⟨⟨[], ⟨rfl, .inl ⟨rfl, rfl⟩⟩, fun i x h => by simp at h⟩, fun r h => by simp [Value.ownBlock] at h⟩
theorem Far.keep {v u : Value} {b : List Int} (hm : 0 < m) (h : Far w F v u m b) (hs : w.heap.size ≤ w'.heap.size) (hF : ∀ k, k < w.heap.size → ¬ F k → ¬ F' k) (hk : ∀ k, k < w.heap.size → ¬ F k → v.ownBlock ≠ some k → w'.heap[k]? = w.heap[k]?) : Far w' F' v u m b := by
  obtain ⟨g, c, h4, h5, h6, h7, h8, h9⟩ := h
  exact ⟨g, c, h4, h5, hF g h8 h6, h7, by omega, h9.there hm (hk g h8 h6 h7) hs⟩
/-- Blocks that are not F's, and were there, stand. -/
theorem PRow.keep (hm : 0 < m) (h : PRow e m w F base v l) (hs : w.heap.size ≤ w'.heap.size) (hF : ∀ k, k < w.heap.size → ¬ F k → ¬ F' k) (hk : ∀ k, k < w.heap.size → ¬ F k → w'.heap[k]? = w.heap[k]?) : PRow e m w' F' base v l := by
  obtain ⟨vs, h1, h2⟩ := h.row
  refine ⟨⟨vs, own_stays h1 (fun g hg => hk g (own_at h1 g hg).2 (h.out g hg)), fun i x hx => ?_⟩, fun r hr => hF r (own_at h1 r hr).2 (h.out r hr)⟩
  obtain ⟨h3, u, h4, h5⟩ := h2 i x hx
  exact ⟨h3, u, h4, h5.keep hm hs hF (fun k hk1 hk2 _ => hk k hk1 hk2)⟩
theorem PRow.below (hm : 0 < m) (h : PRow e m w F base v l) (hb : Below w.heap.size w w') : PRow e m w' F base v l := h.keep hm hb.size (fun _ _ h => h) (fun k hk _ => hb.block k hk)

/-- The list has one more: new blocks are laid ahead of the append. -/
theorem PRow.push (hm : 0 < m) {X w1 : World} {v' : Value} {x : Int} {u : Value} {b : List Int} (h : PRow e m w F base v l) (hFlt : ∀ k, F k → k < w.heap.size) (hu : Far w F v u m b) {vs : List Value} (hvs : w.ownsRow base e 2 v l.length vs) (hvl : ∀ (i : Nat) (x : Int × List Int), l[i]? = some x → vs[i * 2]? = some (.int .i64 x.1) ∧ ∃ u, vs[i * 2 + 1]? = some u ∧ Far w F v u m x.2)
    (hX : Below w.heap.size w X) (hown : w1.ownsRow base e 2 v' (l.length + 1) (vs ++ [.int .i64 x, u])) (hg : X.grownBy w1 v.ownBlock) (hl : v'.ownBlock = v.ownBlock ∨ ∃ r, v'.ownBlock = some r ∧ w.heap.size ≤ r) :
    PRow e m w1 F base v' (l ++ [(x, b)]) ∧ w.heap.size ≤ w1.heap.size ∧ ∀ k, k < w.heap.size → v.ownBlock ≠ some k → w1.heap[k]? = w.heap[k]? := by
  have hs : w.heap.size ≤ w1.heap.size := Nat.le_trans hX.size hg.size
  have hall : ∀ k, k < w.heap.size → v.ownBlock ≠ some k → w1.heap[k]? = w.heap[k]? := fun k hk hne => (hg.block k (Nat.lt_of_lt_of_le hk hX.size) (fun e => hne e.symm)).trans (hX.block k hk)
  have far : ∀ {u : Value} {y : List Int}, Far w F v u m y → Far w1 F v' u m y := fun {u y} ha => by
    obtain ⟨g, c, h4, h5, h6, h7, h8, h9⟩ := ha
    refine ⟨g, c, h4, h5, h6, fun e => ?_, by omega, h9.there hm (hall g h8 h7) hs⟩
    rcases hl with a | ⟨rr, a, hrr⟩
    · exact h7 (a.symm.trans e)
    · rw [a] at e; injection e with e; omega
  have hlen : (l ++ [(x, b)]).length = l.length + 1 := by simp
  have hvlen : vs.length = l.length * 2 := hvs.1
  refine ⟨⟨⟨vs ++ [.int .i64 x, u], by rw [hlen]; exact hown, fun i y hy => ?_⟩, fun r hr => ?_⟩, hs, hall⟩
  · rcases Nat.lt_or_ge i l.length with hi | hi
    · rw [List.getElem?_append_left hi] at hy
      obtain ⟨h3, z, h4, h5⟩ := hvl i y hy
      exact ⟨by rw [List.getElem?_append_left (by omega)]; exact h3, z, by rw [List.getElem?_append_left (by omega)]; exact h4, far h5⟩
    · rw [List.getElem?_append_right hi] at hy
      have hi0 : i - l.length = 0 := by
        have := (List.getElem?_eq_some_iff.1 hy).1
        simp at this
        omega
      rw [hi0] at hy
      obtain rfl : (x, b) = y := by simpa using hy
      obtain rfl : i = l.length := by omega
      refine ⟨?_, u, ?_, far hu⟩
      · rw [List.getElem?_append_right (by omega), hvlen, Nat.sub_self]; rfl
      · rw [List.getElem?_append_right (by omega), hvlen, show l.length * 2 + 1 - l.length * 2 = 1 by omega]; rfl
  · rcases hl with a | ⟨rr, a, hrr⟩
    · exact h.out r (a.symm.trans hr)
    · rw [a] at hr
      injection hr with hr
      intro hf
      have := hFlt r hf
      omega

/-- How it is read. -/
theorem PRow.imgs (h : PRow e m w F base v l) (hm : 0 < m ∧ m ≤ 9223372036854775807) : ∃ A c, v = .slice A l.length c ∧ l.length ≤ c ∧ RImgs w F A l.length l := by
  obtain ⟨vs, h1, h2⟩ := h.row
  rcases h1.2 with ⟨rfl, h0⟩ | ⟨g, cap, cur, rfl, hb, hg, hc, _, _, htake⟩
  · rw [h0]
    exact ⟨none, 0, rfl, Nat.le_refl _, List.eq_nil_of_length_eq_zero h0 ▸ rfl, fun hn => absurd hn (by omega)⟩
  · refine ⟨_, cap, rfl, hc, rfl, fun hn => ⟨g, rfl, h.out g (by simp [Value.ownBlock]), (Array.getElem?_eq_some_iff.1 hg).1, fun i y hy => ?_⟩⟩
    have hi := (List.getElem?_eq_some_iff.1 hy).1
    obtain ⟨h3, u, h4, g2, c2, rfl, h6, h7, h8, h9, h10⟩ := h2 i y hy
    refine ⟨?_, some ⟨g2, 0, none⟩, m, c2, ?_, h6, hm.2, h10, fun a ha _ => by cases ha; exact h7⟩
    · rw [cell_of_row w g (i * 2) cur _ (0, 0) hg, ← h3, ← htake, List.getElem?_take, if_pos (by omega)]
      simp
    · rw [cell_of_row w g (i * 2 + 1) cur _ (0, 0) hg, ← h4, ← htake, List.getElem?_take, if_pos (by omega)]
      simp
end

theorem wpList_append_two {w : World} {ops : Array Oper} {rest : List Oper} {o : Oper} {a : Act} {Q : Exit → Act → World → Prop} (hgd : o.guard = none) (s x : Operand) (t e : TypeId)
    (ho : o.op = .call { callee := .builtin .append, args := #[s, x], argTypes := #[t, t] })
    (ht : Tryz.prog.underlying t = some (.slice e)) (hinfo : (Tryz.prog.info? e).map (fun i => (i.zero, i.size, i.bytes)) = some (some (.agg #[.int .i64 0, .slice none 0 0]), 2, 32))
    (base : Nat) (v : Value) (n : Nat) (xs : List Value) (hs : a.eval s = v) (b : Nat) (z u : Value) (T : TypeId) (hx : a.eval x = .slice (some ⟨b, 0, none⟩) 1 1)
    (hown : w.ownsRow base e 2 v n xs) (hb : w.heap[b]? = some (.cells #[z, u] T)) (hz : z.oneCell' = true) (hu : u.oneCell' = true) (h63 : n ≤ 4294967296) (hbase : base ≤ w.heap.size)
    (h : ∀ A' c' w', w'.ownsRow base e 2 (.slice A' (n + 1) c') (n + 1) (xs ++ [z, u]) → w.grownBy w' v.ownBlock → ((Value.slice A' (n + 1) c').ownBlock = v.ownBlock ∨ (Value.slice A' (n + 1) c').ownBlock = some w.heap.size) → wpList Tryz.prog ops Q rest (a.put o.dst (.slice A' (n + 1) c')) w') : wpList Tryz.prog ops Q (o :: rest) a w := by
  obtain ⟨i0, hi, hz0, hz1, hz2⟩ := info_parts hinfo
  refine wpList_append_own_at w hgd s x t ho base e i0 (.agg #[.int .i64 0, .slice none 0 0]) 2 32 ht hi hz0 hz1 hz2 rfl (by decide) v n _ hs hown ⟨b, 0, none⟩ 1 1 [z, u] hx rfl (World.news_of_block (cs := #[z, u]) hb) (fun y hy => ?_) (by unfold maxLen; omega) (by omega) hbase ?_
  · rcases List.mem_cons.1 hy with rfl | hy
    · exact hz
    · obtain rfl := List.mem_singleton.1 hy; exact hu
  intro v' w' h1 h2 _ h4
  obtain ⟨g, cap, rfl, _⟩ := h1.form (Nat.succ_pos _)
  exact h _ cap w' h1 h2 h4

end Go.Proofs.YtfbljmkjiaklfaaGreatDoor
