/-
  The texts RedoPD, PRow, RedoPE, RedoRF, IMap joined. Conditions: those that each part says at its head.
-/
import Derived.Test.YtinhdimalhfgkaaGreatDoorG10
import Derived.Test.YtinhdimalhfgkaaGreatDoorG8
import Derived.Test.YtinhdimalhfgkaaGreatDoorG1
import Derived.StillTailTactics
import Derived.Maps.OwnSet
import Derived.Maps.OwnOps

/-
  Contract of the program's homeOf: what a slot has to be written at its page's home; over any disk that answers as it is to. Conditions: the disk is up and has the slot; the table that crc.Step reads holds what the program's text lays in it, apart from the disk.
-/
namespace Go.Proofs.YtinhdimalhfgkaaGreatDoor
open Go.RowKit
set_option maxRecDepth 100000
set_option linter.unusedVariables false

section
variable {D : World → (Nat → Prop) → Addr → DS → Prop} {w : World} {F : Nat → Prop} {p : Addr} {S : DS} {q : Nat} {seq : Int}

/-- What homeOf answers of what the slot has. -/
def HomeAns (w : World) (P : Int) (r : Option (Int × List Int)) (e : Ending) (w' : World) : Prop :=
  Below w.heap.size w w' ∧ match r with
  | none => e = .returned (.tuple #[.agg #[.int .i64 0, .slice none 0 0], .bool false, .int .i64 0])
  | some y => ∃ g c, e = .returned (.tuple #[.agg #[.int .i64 (y.1 + 1 + P), .slice (some ⟨g, 0, none⟩) 256 c], .bool true, .int .i64 0]) ∧ 256 ≤ c ∧ w.heap.size ≤ g ∧ RB w' w'.heap.size (some ⟨g, 0, none⟩) 256 y.2

/-! A result of type piece lies in a block of its own. -/
theorem resP {w w1 : World} (h : Below (w.heap.size + 1) (w.alloc (.cells #[.int .i64 0, .slice none 0 0] 131)) w1) : Below w.heap.size w w1 ∧ w1.cell? ⟨w.heap.size, 0, none⟩ = some (.int .i64 0) ∧ w1.cell? ⟨w.heap.size, 1, none⟩ = some (.slice none 0 0) ∧ w1.frozen? ⟨w.heap.size, 0, none⟩ = false ∧ w1.frozen? ⟨w.heap.size, 1, none⟩ = false ∧ w.heap.size + 1 ≤ w1.heap.size := by
  have hc : w1.heap[w.heap.size]? = some (.cells #[.int .i64 0, .slice none 0 0] 131 (0, 0)) := (h.block _ (Nat.lt_succ_self _)).trans (heap_alloc_new _ _)
  refine ⟨((Below.refl w.heap.size w).alloc (Nat.le_refl _) _).trans (h.mono (Nat.le_succ _)), ?_, ?_, ?_, ?_, ?_⟩
  · rw [cell_of_row w1 _ 0 _ _ (0, 0) hc]; rfl
  · rw [cell_of_row w1 _ 1 _ _ (0, 0) hc]; rfl
  · simp [World.frozen?, hc]
  · simp [World.frozen?, hc]
  · have := h.size; simpa using this
theorem hom_end {w w1 : World} (h : Below (w.heap.size + 1) (w.alloc (.cells #[.int .i64 0, .slice none 0 0] 131)) w1) (x y : Value) : Below w.heap.size w ((w1.setCell ⟨w.heap.size, 0, none⟩ x).setCell ⟨w.heap.size, 1, none⟩ y) ∧ ∀ (g n : Nat) (l : List Int), 0 < n → w.heap.size < g → RB w1 w1.heap.size (some ⟨g, 0, none⟩) n l → RB ((w1.setCell ⟨w.heap.size, 0, none⟩ x).setCell ⟨w.heap.size, 1, none⟩ y) ((w1.setCell ⟨w.heap.size, 0, none⟩ x).setCell ⟨w.heap.size, 1, none⟩ y).heap.size (some ⟨g, 0, none⟩) n l := by
  refine ⟨((resP h).1.setCell (Nat.le_refl _) _).setCell (Nat.le_refl _) _, fun g n l hn hg hr => hr.there hn ?_ (by simp)⟩
  rw [Below.heap_setCell _ _ _ _ (by simp; omega), Below.heap_setCell _ _ _ _ (by simp; omega)]

set_option maxHeartbeats 1600000 in
theorem homeOf_any (api : DiskApi D) (h : D w F p S) (hq : PLog w q p seq) (ht : TabF w F) (hd : S.down = false) (i : Nat) (hi : (i : Int) < pagesOf S.n) : Calls Tryz.prog 139 #[.pointer (some ⟨q, 0, none⟩), .int .i64 (i : Int)] w fun e w' => HomeAns w (pagesOf S.n) (slotIn S.n S.last seq i) e w' := by
  have hok := api.ok _ _ _ _ h
  have hsz := hok.size
  have hpb := pagesOf_bounds (S.n : Int)
  have hpn := (pagesOf_nn (S.n : Int)).2.1 (by omega)
  have hsl : slotOf (S.n : Int) (i : Int) = ((i : Int) + 1, true) := by unfold slotOf; rw [if_neg (by omega)]
  have hre : S.readE ((i : Int) + 1) = 0 := by
    unfold DS.readE
    rw [if_neg (by simp [hd]), if_pos (show S.has _ from ⟨by omega, by omega⟩)]
  have HS := Lib.hid (fun w1 (hb : Below w.heap.size w w1) => api.sizes w1 F p S (api.below h hb))
  have HSL := Lib.hid (fun w1 => lay_said.slot (S.n : Int) (i : Int) w1 (by omega) (by omega))
  rw [hsl] at HSL
  have HRD := Lib.hid (fun w1 (hb : Below w.heap.size w w1) => api.readAt ((i : Int) + 1) w1 F p S (api.below h hb) hre)
  rw [show ((i : Int) + 1).toNat = i + 1 by omega] at HRD
  have HT := Lib.hid (fun w1 (hb : Below w.heap.size w w1) => ht.below hb)
  have LC := Lib.hid (fun w1 (hb : Below w.heap.size w w1) => (hq.below hb).cells)
  have HUP := Lib.hid unpack_said
  have HSI : slotIn S.n S.last seq i = if (unpackR (S.last (i + 1))).2.2.2 = 0 ∧ (unpackR (S.last (i + 1))).2.1 = seq ∧ (unpackR (S.last (i + 1))).1 < pagesOf S.n then some ((unpackR (S.last (i + 1))).1, S.last (i + 1)) else none := rfl
  have hpg0 : (unpackR (S.last (i + 1))).2.2.2 = 0 → 0 ≤ (unpackR (S.last (i + 1))).1 ∧ (unpackR (S.last (i + 1))).1 < 4294967296 := fun he => ⟨(unpack_page he).1, (unpack_count he).1⟩
  generalize hpge : (unpackR (S.last (i + 1))).1 = pg at HSI hpg0
  generalize hsee : (unpackR (S.last (i + 1))).2.1 = se at HSI
  generalize her : (unpackR (S.last (i + 1))).2.2.2 = er at HSI hpg0
  have HPE := Lib.hid (And.intro hpge (And.intro hsee her))
  have HSI := Lib.hid HSI
  have hX0 : Below (w.heap.size + 1) (w.alloc (.cells #[.int .i64 0, .slice none 0 0] 131)) (w.alloc (.cells #[.int .i64 0, .slice none 0 0] 131)) := Below.refl _ _
  have hw0 := (resP hX0).1
  obtain ⟨l0, l1, _, _⟩ := LC.out _ hw0
  clear hpge hsee her hq ht h hok hsl hre
  go_enter Tryz.func139, Tryz.ntmps139
  go_wp2_with fail
  refine (HS.out _ hw0).mono ?_
  rintro e w1 ⟨rfl, hb1⟩
  have hX1 := hX0.trans (hb1.mono (by simp))
  have hw1 := (resP hX1).1
  clear l0 l1
  obtain ⟨l0, l1, _, _⟩ := LC.out _ hw1
  go_wp2_with fail
  refine (HSL.out w1).mono ?_
  rintro e w2 ⟨rfl, rfl⟩
  go_wp2_with fail
  refine (HRD.out w1 hw1).mono ?_
  rintro e w3 ⟨g, c, rfl, hc, hg, hr3, hb3⟩
  have hX3 := hX1.trans (hb3.mono (resP hX1).2.2.2.2.2)
  have hw3 := (resP hX3).1
  have ht3 := HT.out _ hw3
  clear l0 l1
  go_wp2_with fail
  refine (HUP.out (some ⟨g, 0, none⟩) 256 c _ _ w3 hr3 (Nat.le_refl _) hc (by omega) ht3.tab ht3.lt).mono ?_
  rw [HPE.out.1, HPE.out.2.1, HPE.out.2.2]
  rintro e w4 ⟨A4, n4, c4, rfl, hc4, hr4, hb4⟩
  have hX4 := hX3.trans (hb4.mono (resP hX3).2.2.2.2.2)
  have hw4 := (resP hX4).1
  obtain ⟨l0, l1, _, _⟩ := LC.out _ hw4
  obtain ⟨_, c0, c1, f0, f1, _⟩ := resP hX4
  have hgl : g < w3.heap.size := by obtain ⟨bb, _, e, hbb, _⟩ := hr3.at_ (by decide); cases e; exact hbb
  have hgw : w.heap.size < g := by have := (resP hX1).2.2.2.2.2; omega
  have HR4 := Lib.hid (hr3.there (by decide) (hb4.block g hgl) hb4.size)
  clear hr3 hr4 hb1 hb3 hb4 hX0 hX1 hX3 hw0 hw1 hw3 ht3
  by_cases h1 : er = 0
  · subst h1
    by_cases h2 : se = seq
    · subst h2
      have k2 : (se != se) = false := by simp
      obtain ⟨hp0, hp1⟩ := hpg0 rfl
      have HHM := Lib.hid (fun w1 => lay_said.home (S.n : Int) pg w1 (by omega) (by omega))
      by_cases h3 : pg < pagesOf S.n
      · have hh : homeOf (S.n : Int) pg = (pg + 1 + pagesOf S.n, true) := by unfold homeOf; rw [if_neg (by omega)]
        rw [hh] at HHM
        have HN := Lib.hid (HSI.out.trans (if_pos ⟨rfl, rfl, h3⟩))
        clear h3 hh
        go_wp2_with fail
        refine (HS.out _ hw4).mono ?_
        rintro e w5 ⟨rfl, hb5⟩
        have hX5 := hX4.trans (hb5.mono (resP hX4).2.2.2.2.2)
        have hs5 := hb5.size
        have HR5 := Lib.hid (HR4.out.there (by decide) (hb5.block g (by have := HR4.out; obtain ⟨bb, _, e, hbb, _⟩ := this.at_ (by decide); cases e; exact hbb)) hb5.size)
        clear c0 c1 f0 f1 l0 l1
        obtain ⟨_, c0, c1, f0, f1, _⟩ := resP hX5
        have HXZ := Lib.hid hX5
        clear hb5 hX4 hX5 hw4
        go_wp2_with fail
        refine (HHM.out w5).mono ?_
        rintro e w6 ⟨rfl, rfl⟩
        obtain ⟨d0, d1⟩ := piece_cells (w := w5) (.int .i64 (pg + 1 + pagesOf S.n)) (.slice (some ⟨g, 0, none⟩) 256 c) c0 c1
        have hE := Lib.hid (hom_end HXZ.out (.int .i64 (pg + 1 + pagesOf S.n)) (.slice (some ⟨g, 0, none⟩) 256 c))
        have HC := Lib.hid (And.intro hc hgw)
        clear hc hgw hg hgl
        go_wp2
        refine bodyPost_ret (v := .tuple #[.agg #[.int .i64 (pg + 1 + pagesOf S.n), .slice (some ⟨g, 0, none⟩) 256 c], .bool true, .int .i64 0]) (by
          generalize ((w5.setCell ⟨w.heap.size, 0, none⟩ (Value.int IntKind.i64 (pg + 1 + pagesOf S.n))).setCell ⟨w.heap.size, 1, none⟩ (Value.slice (some ⟨g, 0, none⟩) 256 c)) = X at *
          simp [results, Tryz.results139, go_sem, d0, d1]) rfl ?_
        rw [HN.out]
        exact ⟨hE.out.1, g, c, rfl, HC.out.1, Nat.le_of_lt HC.out.2, hE.out.2 g 256 _ (by decide) HC.out.2 HR5.out⟩
      · have hh : homeOf (S.n : Int) pg = (0, false) := by unfold homeOf; rw [if_pos (by omega)]
        rw [hh] at HHM
        have HN := Lib.hid (HSI.out.trans (if_neg (fun h => h3 h.2.2)))
        clear h3 hh
        go_wp2_with fail
        refine (HS.out _ hw4).mono ?_
        rintro e w5 ⟨rfl, hb5⟩
        have hX5 := hX4.trans (hb5.mono (resP hX4).2.2.2.2.2)
        have hs5 := hb5.size
        have HR5 := Lib.hid (HR4.out.there (by decide) (hb5.block g (by have := HR4.out; obtain ⟨bb, _, e, hbb, _⟩ := this.at_ (by decide); cases e; exact hbb)) hb5.size)
        clear c0 c1 f0 f1 l0 l1
        obtain ⟨_, c0, c1, f0, f1, _⟩ := resP hX5
        have HXZ := Lib.hid hX5
        clear hb5 hX4 hX5 hw4
        go_wp2_with fail
        refine (HHM.out w5).mono ?_
        rintro e w6 ⟨rfl, rfl⟩
        obtain ⟨d0, d1⟩ := piece_cells (w := w5) (.int .i64 0) (.slice none 0 0) c0 c1
        have hE := Lib.hid (hom_end HXZ.out (.int .i64 0) (.slice none 0 0)).1
        go_wp2
        refine bodyPost_ret (v := .tuple #[.agg #[.int .i64 0, .slice none 0 0], .bool false, .int .i64 0]) (by
          generalize ((w5.setCell ⟨w.heap.size, 0, none⟩ (Value.int IntKind.i64 0)).setCell ⟨w.heap.size, 1, none⟩ (Value.slice none 0 0)) = X at *
          simp [results, Tryz.results139, go_sem, d0, d1]) rfl ?_
        rw [HN.out]
        exact ⟨hE.out, rfl⟩
    · have k2 : (se != seq) = true := by simpa using h2
      have HN := Lib.hid (HSI.out.trans (if_neg (fun h => h2 h.2.1)))
      have HXZ := Lib.hid hX4
      clear h2
      obtain ⟨d0, d1⟩ := piece_cells (w := w4) (.int .i64 0) (.slice none 0 0) c0 c1
      have hE := Lib.hid (hom_end HXZ.out (.int .i64 0) (.slice none 0 0)).1
      go_wp2
      refine bodyPost_ret (v := .tuple #[.agg #[.int .i64 0, .slice none 0 0], .bool false, .int .i64 0]) (by
        generalize ((w4.setCell ⟨w.heap.size, 0, none⟩ (Value.int IntKind.i64 0)).setCell ⟨w.heap.size, 1, none⟩ (Value.slice none 0 0)) = X at *
        simp [results, Tryz.results139, go_sem, d0, d1]) rfl ?_
      rw [HN.out]
      exact ⟨hE.out, rfl⟩
  · have k1 : (er != 0) = true := by simpa using h1
    have HN := Lib.hid (HSI.out.trans (if_neg (fun h => h1 h.1)))
    have HXZ := Lib.hid hX4
    clear h1
    obtain ⟨d0, d1⟩ := piece_cells (w := w4) (.int .i64 0) (.slice none 0 0) c0 c1
    have hE := Lib.hid (hom_end HXZ.out (.int .i64 0) (.slice none 0 0)).1
    go_wp2
    refine bodyPost_ret (v := .tuple #[.agg #[.int .i64 0, .slice none 0 0], .bool false, .int .i64 0]) (by
      generalize ((w4.setCell ⟨w.heap.size, 0, none⟩ (Value.int IntKind.i64 0)).setCell ⟨w.heap.size, 1, none⟩ (Value.slice none 0 0)) = X at *
      simp [results, Tryz.results139, go_sem, d0, d1]) rfl ?_
    rw [HN.out]
    exact ⟨hE.out, rfl⟩
end

end Go.Proofs.YtinhdimalhfgkaaGreatDoor

/-
  Words for a list of numbers with bytes as it is built by append (rows of two cells each); what keeps it; how it is read. Plain facts; no condition beyond what each says.
-/
namespace Go.Proofs.YtinhdimalhfgkaaGreatDoor
open Go.RowKit
set_option maxRecDepth 100000
set_option linter.unusedVariables false

theorem info_piece : (Tryz.prog.info? 131).map (fun i => (i.zero, i.size, i.bytes)) = some (some (.agg #[.int .i64 0, .slice none 0 0]), 2, 32) := by kernel_rfl
theorem info_image : (Tryz.prog.info? 151).map (fun i => (i.zero, i.size, i.bytes)) = some (some (.agg #[.int .i64 0, .slice none 0 0]), 2, 32) := by kernel_rfl

/-- A slice of m bytes apart from the blocks F and from a row. -/
def Far (w : World) (F : Nat → Prop) (v u : Value) (m : Nat) (b : List Int) : Prop :=
  ∃ g c, u = .slice (some ⟨g, 0, none⟩) m c ∧ m ≤ c ∧ ¬ F g ∧ v.ownBlock ≠ some g ∧ g < w.heap.size ∧ RB w w.heap.size (some ⟨g, 0, none⟩) m b
/-- The list l, in a row from block base on, apart from the blocks F. -/
structure PRow (e m : Nat) (w : World) (F : Nat → Prop) (base : Nat) (v : Value) (l : List (Int × List Int)) : Prop where
  row : ∃ vs, w.ownsRow base e 2 v l.length vs ∧ ∀ (i : Nat) (x : Int × List Int), l[i]? = some x → vs[i * 2]? = some (.int .i64 x.1) ∧ ∃ u, vs[i * 2 + 1]? = some u ∧ Far w F v u m x.2
  out : ∀ r, v.ownBlock = some r → ¬ F r

section
variable {e m : Nat} {w w' : World} {F F' : Nat → Prop} {base : Nat} {v : Value} {l : List (Int × List Int)}

theorem PRow.start (e m : Nat) (w : World) (F : Nat → Prop) (base : Nat) : PRow e m w F base (.slice none 0 0) [] :=
  ⟨⟨[], ⟨rfl, .inl ⟨rfl, rfl⟩⟩, fun i x h => by simp at h⟩, fun r h => by simp [Value.ownBlock] at h⟩
theorem Far.keep {v u : Value} {b : List Int} (hm : 0 < m) (h : Far w F v u m b) (hs : w.heap.size ≤ w'.heap.size) (hF : ∀ k, k < w.heap.size → ¬ F k → ¬ F' k) (hk : ∀ k, k < w.heap.size → ¬ F k → v.ownBlock ≠ some k → w'.heap[k]? = w.heap[k]?) : Far w' F' v u m b := by
  obtain ⟨g, c, h4, h5, h6, h7, h8, h9⟩ := h
  exact ⟨g, c, h4, h5, hF g h8 h6, h7, by omega, h9.there hm (hk g h8 h6 h7) hs⟩
/-- Blocks that are not F's, and were there, stand. -/
theorem PRow.keep (hm : 0 < m) (h : PRow e m w F base v l) (hs : w.heap.size ≤ w'.heap.size) (hF : ∀ k, k < w.heap.size → ¬ F k → ¬ F' k) (hk : ∀ k, k < w.heap.size → ¬ F k → w'.heap[k]? = w.heap[k]?) : PRow e m w' F' base v l := by
  obtain ⟨vs, h1, h2⟩ := h.row
  refine ⟨⟨vs, own_stays h1 (fun g hg => hk g (own_at h1 g hg).2 (h.out g hg)), fun i x hx => ?_⟩, fun r hr => hF r (own_at h1 r hr).2 (h.out r hr)⟩
  obtain ⟨h3, u, h4, h5⟩ := h2 i x hx
  exact ⟨h3, u, h4, h5.keep hm hs hF (fun k hk1 hk2 _ => hk k hk1 hk2)⟩
theorem PRow.below (hm : 0 < m) (h : PRow e m w F base v l) (hb : Below w.heap.size w w') : PRow e m w' F base v l := h.keep hm hb.size (fun _ _ h => h) (fun k hk _ => hb.block k hk)

/-- The list has one more: new blocks are laid ahead of the append. -/
theorem PRow.push (hm : 0 < m) {X w1 : World} {v' : Value} {x : Int} {u : Value} {b : List Int} (h : PRow e m w F base v l) (hFlt : ∀ k, F k → k < w.heap.size) (hu : Far w F v u m b) {vs : List Value} (hvs : w.ownsRow base e 2 v l.length vs) (hvl : ∀ (i : Nat) (x : Int × List Int), l[i]? = some x → vs[i * 2]? = some (.int .i64 x.1) ∧ ∃ u, vs[i * 2 + 1]? = some u ∧ Far w F v u m x.2)
    (hX : Below w.heap.size w X) (hown : w1.ownsRow base e 2 v' (l.length + 1) (vs ++ [.int .i64 x, u])) (hg : X.grownBy w1 v.ownBlock) (hl : v'.ownBlock = v.ownBlock ∨ ∃ r, v'.ownBlock = some r ∧ w.heap.size ≤ r) :
    PRow e m w1 F base v' (l ++ [(x, b)]) ∧ w.heap.size ≤ w1.heap.size ∧ ∀ k, k < w.heap.size → v.ownBlock ≠ some k → w1.heap[k]? = w.heap[k]? := by
  have hs : w.heap.size ≤ w1.heap.size := Nat.le_trans hX.size hg.size
  have hall : ∀ k, k < w.heap.size → v.ownBlock ≠ some k → w1.heap[k]? = w.heap[k]? := fun k hk hne => (hg.block k (Nat.lt_of_lt_of_le hk hX.size) (fun e => hne e.symm)).trans (hX.block k hk)
  have far : ∀ {u : Value} {y : List Int}, Far w F v u m y → Far w1 F v' u m y := fun {u y} ha => by
    obtain ⟨g, c, h4, h5, h6, h7, h8, h9⟩ := ha
    refine ⟨g, c, h4, h5, h6, fun e => ?_, by omega, h9.there hm (hall g h8 h7) hs⟩
    rcases hl with a | ⟨rr, a, hrr⟩
    · exact h7 (a.symm.trans e)
    · rw [a] at e; injection e with e; omega
  have hlen : (l ++ [(x, b)]).length = l.length + 1 := by simp
  have hvlen : vs.length = l.length * 2 := hvs.1
  refine ⟨⟨⟨vs ++ [.int .i64 x, u], by rw [hlen]; exact hown, fun i y hy => ?_⟩, fun r hr => ?_⟩, hs, hall⟩
  · rcases Nat.lt_or_ge i l.length with hi | hi
    · rw [List.getElem?_append_left hi] at hy
      obtain ⟨h3, z, h4, h5⟩ := hvl i y hy
      exact ⟨by rw [List.getElem?_append_left (by omega)]; exact h3, z, by rw [List.getElem?_append_left (by omega)]; exact h4, far h5⟩
    · rw [List.getElem?_append_right hi] at hy
      have hi0 : i - l.length = 0 := by
        have := (List.getElem?_eq_some_iff.1 hy).1
        simp at this
        omega
      rw [hi0] at hy
      obtain rfl : (x, b) = y := by simpa using hy
      obtain rfl : i = l.length := by omega
      refine ⟨?_, u, ?_, far hu⟩
      · rw [List.getElem?_append_right (by omega), hvlen, Nat.sub_self]; rfl
      · rw [List.getElem?_append_right (by omega), hvlen, show l.length * 2 + 1 - l.length * 2 = 1 by omega]; rfl
  · rcases hl with a | ⟨rr, a, hrr⟩
    · exact h.out r (a.symm.trans hr)
    · rw [a] at hr
      injection hr with hr
      intro hf
      have := hFlt r hf
      omega

/-- How it is read. -/
theorem PRow.imgs (h : PRow e m w F base v l) (hm : 0 < m ∧ m ≤ 9223372036854775807) : ∃ A c, v = .slice A l.length c ∧ l.length ≤ c ∧ RImgs w F A l.length l := by
  obtain ⟨vs, h1, h2⟩ := h.row
  rcases h1.2 with ⟨rfl, h0⟩ | ⟨g, cap, cur, rfl, hb, hg, hc, _, _, htake⟩
  · rw [h0]
    exact ⟨none, 0, rfl, Nat.le_refl _, List.eq_nil_of_length_eq_zero h0 ▸ rfl, fun hn => absurd hn (by omega)⟩
  · refine ⟨_, cap, rfl, hc, rfl, fun hn => ⟨g, rfl, h.out g (by simp [Value.ownBlock]), (Array.getElem?_eq_some_iff.1 hg).1, fun i y hy => ?_⟩⟩
    have hi := (List.getElem?_eq_some_iff.1 hy).1
    obtain ⟨h3, u, h4, g2, c2, rfl, h6, h7, h8, h9, h10⟩ := h2 i y hy
    refine ⟨?_, some ⟨g2, 0, none⟩, m, c2, ?_, h6, hm.2, h10, fun a ha _ => by cases ha; exact h7⟩
    · rw [cell_of_row w g (i * 2) cur _ (0, 0) hg, ← h3, ← htake, List.getElem?_take, if_pos (by omega)]
      simp
    · rw [cell_of_row w g (i * 2 + 1) cur _ (0, 0) hg, ← h4, ← htake, List.getElem?_take, if_pos (by omega)]
      simp
end

theorem wpList_append_two {w : World} {ops : Array Oper} {rest : List Oper} {o : Oper} {a : Act} {Q : Exit → Act → World → Prop} (hgd : o.guard = none) (s x : Operand) (t e : TypeId)
    (ho : o.op = .call { callee := .builtin .append, args := #[s, x], argTypes := #[t, t] })
    (ht : Tryz.prog.underlying t = some (.slice e)) (hinfo : (Tryz.prog.info? e).map (fun i => (i.zero, i.size, i.bytes)) = some (some (.agg #[.int .i64 0, .slice none 0 0]), 2, 32))
    (base : Nat) (v : Value) (n : Nat) (xs : List Value) (hs : a.eval s = v) (b : Nat) (z u : Value) (T : TypeId) (hx : a.eval x = .slice (some ⟨b, 0, none⟩) 1 1)
    (hown : w.ownsRow base e 2 v n xs) (hb : w.heap[b]? = some (.cells #[z, u] T)) (hz : z.oneCell' = true) (hu : u.oneCell' = true) (h63 : n ≤ 4294967296) (hbase : base ≤ w.heap.size)
    (h : ∀ A' c' w', w'.ownsRow base e 2 (.slice A' (n + 1) c') (n + 1) (xs ++ [z, u]) → w.grownBy w' v.ownBlock → ((Value.slice A' (n + 1) c').ownBlock = v.ownBlock ∨ (Value.slice A' (n + 1) c').ownBlock = some w.heap.size) → wpList Tryz.prog ops Q rest (a.put o.dst (.slice A' (n + 1) c')) w') : wpList Tryz.prog ops Q (o :: rest) a w := by
  obtain ⟨i0, hi, hz0, hz1, hz2⟩ := info_parts hinfo
  refine wpList_append_own_at w hgd s x t ho base e i0 (.agg #[.int .i64 0, .slice none 0 0]) 2 32 ht hi hz0 hz1 hz2 rfl (by decide) v n _ hs hown ⟨b, 0, none⟩ 1 1 [z, u] hx rfl (World.news_of_block (cs := #[z, u]) hb) (fun y hy => ?_) (by unfold maxLen; omega) (by omega) hbase ?_
  · rcases List.mem_cons.1 hy with rfl | hy
    · exact hz
    · obtain rfl := List.mem_singleton.1 hy; exact hu
  intro v' w' h1 h2 _ h4
  obtain ⟨g, cap, rfl, _⟩ := h1.form (Nat.succ_pos _)
  exact h _ cap w' h1 h2 h4

end Go.Proofs.YtinhdimalhfgkaaGreatDoor

/-
  Contracts of the program's redo and Open, over any disk that answers as it is to. Conditions: fewer than 2^63 - 1 writes; the table that crc.Step reads holds what the program's text lays in it, apart from the disk.
-/
namespace Go.Proofs.YtinhdimalhfgkaaGreatDoor
open Go.RowKit
set_option maxRecDepth 100000
set_option linter.unusedVariables false

/-- Sectors at their homes. -/
def atHomes (P : Int) (l : List (Int × List Int)) : List (Int × List Int) := l.map fun y => (y.1 + 1 + P, y.2)
theorem putS_homes (l : List (Int × List Int)) : ∀ S : DS, putS S (atHomes S.P l) = homesS S l := by
  induction l with
  | nil => intro S; rfl
  | cons y r ih =>
    intro S
    rw [homesS_cons]
    show thenS (S.wr (y.1 + 1 + S.P) y.2) (fun S' => putS S' (atHomes S.P r)) = thenS (S.wr (y.1 + 1 + S.P) y.2) (fun S' => homesS S' r)
    by_cases h : (S.wr (y.1 + 1 + S.P) y.2).1 = 0
    · rw [thenS_ok h, thenS_ok h]
      have hn : (S.wr (y.1 + 1 + S.P) y.2).2.P = S.P := by
        show pagesOf _ = pagesOf _
        rw [show (S.wr (y.1 + 1 + S.P) y.2).2.n = S.n from P_write _ _ _]
      have := ih (S.wr (y.1 + 1 + S.P) y.2).2
      rw [hn] at this
      exact this
    · rw [thenS_no h, thenS_no h]
/-- What redo answers. -/
def redoS (S : DS) (r : Option (List (Int × List Int))) : Int × DS := match r with | none => (0, S) | some l => homesS S l

section
variable {D : World → (Nat → Prop) → Addr → DS → Prop} {w : World} {F : Nat → Prop} {p : Addr} {S : DS} {q : Nat} {seq : Int}

set_option maxHeartbeats 4000000 in
theorem redo_any (api : DiskApi D) (h : D w F p S) (hq : PLog w q p seq) (ht : TabF w F) (hd : S.down = false) (count : Nat) (hc : count ≤ 4294967296) (hw : S.writes ≤ 9223372036854700000) :
    Calls Tryz.prog 82 #[.pointer (some ⟨q, 0, none⟩), .int .i64 (count : Int)] w fun e w' => e = .returned (.int .i64 (redoS S (slotsOf S.n S.last count seq)).1) ∧ WroteD D w F p (redoS S (slotsOf S.n S.last count seq)).2 w' := by
  have hok := api.ok _ _ _ _ h
  have hlt := api.lt _ _ _ _ h
  have hsz := hok.size
  have hpb := pagesOf_bounds (S.n : Int)
  have hpn := (pagesOf_nn (S.n : Int)).2.1 (by omega)
  have HP := Lib.hid (pages_any api h hq)
  have HH := Lib.hid (fun w1 (hb : Below w.heap.size w w1) i hi => homeOf_any api (api.below h hb) (hq.below hb) (ht.below hb) hd i hi)
  have HD := Lib.hid (fun w1 (hb : Below w.heap.size w w1) => api.below h hb)
  have LC := Lib.hid (fun w1 (hb : Below w.heap.size w w1) => (hq.below hb).cells)
  have HL := Lib.hid (fun w1 (hb : Below w.heap.size w w1) => WroteD.later api h hb)
  clear hq ht h
  by_cases hcp : pagesOf (S.n : Int) < (count : Int)
  · have k1 : decide (pagesOf (S.n : Int) < (count : Int)) = true := by simpa using hcp
    have HN := Lib.hid (show slotsOf S.n S.last count seq = none by unfold slotsOf; rw [if_pos hcp])
    clear hcp
    go_enter Tryz.func82, Tryz.ntmps82
    go_wp2_with fail
    refine HP.out.mono ?_
    rintro e w1 ⟨rfl, hb⟩
    have hF := Lib.hid (HL.out _ hb)
    clear hb
    go_wp2
    go_ret
    rw [HN.out]
    exact ⟨rfl, hF.out⟩
  · have k1 : decide (pagesOf (S.n : Int) < (count : Int)) = false := by simpa using hcp
    have HSO := Lib.hid (show ∀ r, slotsUp S.n S.last seq count = r → slotsOf S.n S.last count seq = r from fun r hr => by unfold slotsOf; rw [if_neg (by omega), Int.toNat_natCast]; exact hr)
    go_enter Tryz.func82, Tryz.ntmps82
    go_wp2_with fail
    refine HP.out.mono ?_
    rintro e w1 ⟨rfl, hb1⟩
    have HB1 := Lib.hid hb1
    clear hb1
    go_wp2
    go_loopw [5, 15] (fun ov i wr => ∃ (k : Nat) (l : List (Int × List Int)), k ≤ count ∧ i = .int .i64 k ∧ Hid (slotsUp S.n S.last seq k = some l ∧ PRow 131 256 wr F w.heap.size ov (atHomes (pagesOf S.n) l) ∧ Below w.heap.size w wr)) (fun _ i _ => count - (intOf i).toNat)
    case atStart => exact ⟨0, [], Nat.zero_le _, rfl, Lib.hid ⟨rfl, PRow.start _ _ _ _ _, HB1.out⟩⟩
    case round =>
      obtain ⟨k, l, hk, rfl, hM⟩ := hrel
      by_cases hlt2 : k < count
      · obtain ⟨hup, hrow, hb⟩ := hM.out
        have hlt' : (k : Int) < (count : Int) := by omega
        have hho := HH.out wr hb k (by omega)
        obtain ⟨A0, c0, rfl, hAc, _⟩ := hrow.imgs (by decide)
        go_wp2_with fail
        refine hho.mono ?_
        rintro e w2 ⟨hb2, hr⟩
        have hb02 := hb.trans (hb2.mono hb.size)
        rcases hsi : slotIn S.n S.last seq k with _ | y
        · rw [hsi] at hr
          have hr : e = .returned (.tuple #[.agg #[.int .i64 0, .slice none 0 0], .bool false, .int .i64 0]) := hr
          subst hr
          have HN := Lib.hid (HSO.out none (slotsUp_none (slotsUp_stop hsi) (by omega)))
          have hF := Lib.hid (HL.out _ ((hb02.alloc hb02.size (.cells #[.int .i64 0, .slice none 0 0] 131))))
          clear hrow hup hM hsi hb2 hb hho hb02
          go_wp2
          go_ret
          rw [HN.out]
          exact ⟨rfl, hF.out⟩
        · rw [hsi] at hr
          obtain ⟨g, c, rfl, h256, hg, hrb⟩ : ∃ g c, e = .returned (.tuple #[.agg #[.int .i64 (y.1 + 1 + pagesOf S.n), .slice (some ⟨g, 0, none⟩) 256 c], .bool true, .int .i64 0]) ∧ 256 ≤ c ∧ wr.heap.size ≤ g ∧ RB w2 w2.heap.size (some ⟨g, 0, none⟩) 256 y.2 := hr
          have hgl : g < w2.heap.size := by obtain ⟨bb, _, e, hbb, _⟩ := hrb.at_ (by decide); cases e; exact hbb
          have hbs := hb.size
          have hX1 : Below w2.heap.size w2 (w2.alloc (.cells #[.int .i64 (y.1 + 1 + pagesOf S.n), .slice (some ⟨g, 0, none⟩) 256 c] 131)) := (Below.refl _ _).alloc (Nat.le_refl _) _
          have hrow2 := hrow.below (by decide) hb2
          obtain ⟨vs, hvs, hvl⟩ := hrow2.row
          have hX2 : Below w2.heap.size w2 ((w2.alloc (.cells #[.int .i64 (y.1 + 1 + pagesOf S.n), .slice (some ⟨g, 0, none⟩) 256 c] 131)).alloc (.cells #[.int .i64 (y.1 + 1 + pagesOf S.n), .slice (some ⟨g, 0, none⟩) 256 c] 131)) := hX1.alloc hX1.size _
          have hvsX := own_stays hvs (fun r hr => hX2.block r (own_at hvs r hr).2)
          have hbk : ((w2.alloc (.cells #[.int .i64 (y.1 + 1 + pagesOf S.n), .slice (some ⟨g, 0, none⟩) 256 c] 131)).alloc (.cells #[.int .i64 (y.1 + 1 + pagesOf S.n), .slice (some ⟨g, 0, none⟩) 256 c] 131)).heap[w2.heap.size + 1]? = some (.cells #[.int .i64 (y.1 + 1 + pagesOf S.n), .slice (some ⟨g, 0, none⟩) 256 c] 131 (0, 0)) := by
            have := heap_alloc_new (w2.alloc (.cells #[.int .i64 (y.1 + 1 + pagesOf S.n), .slice (some ⟨g, 0, none⟩) 256 c] 131)) (.cells #[.int .i64 (y.1 + 1 + pagesOf S.n), .slice (some ⟨g, 0, none⟩) 256 c] 131)
            simpa using this
          have hno : (Value.slice A0 (atHomes (pagesOf S.n) l).length c0).ownBlock ≠ some g := fun e => by
            obtain ⟨vs0, hv0, _⟩ := hrow.row
            have := (own_at hv0 g e).2
            omega
          have hfar : Far w2 F (.slice A0 (atHomes (pagesOf S.n) l).length c0) (.slice (some ⟨g, 0, none⟩) 256 c) 256 y.2 := ⟨g, c, rfl, h256, fun hf => by have := hlt g hf; omega, hno, hgl, hrb⟩
          have hllen : (atHomes (pagesOf S.n) l).length = k := by rw [← (slotsUp_mem k hup).1]; simp [atHomes]
          have HPU := Lib.hid (fun (w3 : World) (A' : Option Addr) (c' : Nat) h1 h2 h3 => hrow2.push (v' := .slice A' ((atHomes (pagesOf S.n) l).length + 1) c') (w1 := w3) (x := y.1 + 1 + pagesOf S.n) (by decide) (fun k hk => by have := hlt k hk; have := hb02.size; omega) hfar hvs hvl hX2 h1 h2 h3)
          have HUP := Lib.hid (slotsUp_next hup hsi)
          have HB02 := Lib.hid hb02
          have HAT : atHomes (pagesOf S.n) (l ++ [y]) = atHomes (pagesOf S.n) l ++ [(y.1 + 1 + pagesOf S.n, y.2)] := by simp [atHomes]
          have hs2 := hb02.size
          have HOV := Lib.hid (fun r hr => (own_at hvs r hr).1)
          have hk64 : (atHomes (pagesOf S.n) l).length ≤ 4294967296 := by omega
          clear hrow hup hM hsi hb2 hb hho hrow2 hfar hvl hrb hX1 hb02 hvs hno hllen
          generalize atHomes (pagesOf S.n) l = LL at *
          go_wp2_with (at_builtin; refine wpList_append_two rfl _ _ 188 131 rfl Tryz.underlying188 info_piece w.heap.size (.slice A0 LL.length c0) LL.length vs rfl (w2.heap.size + 1) (.int .i64 (y.1 + 1 + pagesOf S.n)) (.slice (some ⟨g, 0, none⟩) 256 c) 131 rfl hvsX hbk rfl rfl (by omega) (by simp; omega) ?_; intro A4 c4 w4 hown4 hg4 hl4; have HO4 := Lib.hid (And.intro hown4 (And.intro hg4 hl4)); clear hown4 hg4 hl4)
          obtain ⟨q1, q2, q3⟩ := HPU.out w4 A4 c4 HO4.out.1 HO4.out.2.1 (by
            rcases HO4.out.2.2 with a | a
            · exact .inl a
            · exact .inr ⟨_, a, by simp; omega⟩)
          have hb4 : Below w.heap.size w w4 := (HB02.out.trans (hX2.mono hs2)).grown HO4.out.2.1 (by have := hX2.size; omega) HOV.out
          have HRE := Lib.hid (And.intro HUP.out (And.intro q1 hb4))
          clear q1 q2 q3 hb4 hX2 hvsX hbk
          go_roundw
          case rel => exact ⟨k + 1, l ++ [y], by omega, by go_num, Lib.hid ⟨HRE.out.1, HAT ▸ HRE.out.2.1, HRE.out.2.2⟩⟩
          case measure => simp [intOf]; omega
      · obtain rfl : k = count := by omega
        obtain ⟨hup, hrow, hb⟩ := hM.out
        have HSO2 := Lib.hid (HSO.out _ hup)
        obtain ⟨A0, c0, rfl, hAc, him⟩ := hrow.imgs (by decide)
        obtain ⟨l0, l1, _, _⟩ := LC.out wr hb
        have hll := (slotsUp_mem k hup).1
        have hlh : (atHomes (pagesOf S.n) l).length = k := by rw [← hll]; simp [atHomes]
        have h256 : ∀ y ∈ atHomes (pagesOf S.n) l, y.2.length = 256 := fun y hy => by
          obtain ⟨z, hz, rfl⟩ := List.mem_map.1 hy
          obtain ⟨i, hi, e⟩ := List.getElem_of_mem hz
          obtain ⟨_, _, _, e4⟩ := slotIn_some ((slotsUp_mem k hup).2 i z (by rw [List.getElem?_eq_getElem hi, e]))
          rw [e4]
          exact (hok.lastBytes _).1
        have HPT := Lib.hid (put_any api (c := c0) (HD.out wr hb) him h256 (by omega) (by omega))
        have HTB := Lib.hid (Touch.of_below (F := F) hb)
        have HPH := Lib.hid (show putS S (atHomes (pagesOf S.n) l) = homesS S l from putS_homes l S)
        clear hup hrow hb hM him h256 hll hlh
        go_wp2_with fail
        refine HPT.out.mono ?_
        rw [HPH.out]
        rintro e w2 ⟨rfl, hW⟩
        have hF := Lib.hid (WroteD.join HTB.out (fun k hk => .inl hk) hW)
        clear hW
        go_wp2
        go_ret
        rw [HSO2.out]
        exact ⟨rfl, hF.out⟩

/-- What Open leaves: the disk, and a log apart from it, if there is one. -/
def OpenedD (D : World → (Nat → Prop) → Addr → DS → Prop) (w : World) (F : Nat → Prop) (p : Addr) (r : Int × Int × DS) (e : Ending) (w' : World) : Prop :=
  (r.1 ≠ 0 ∧ e = .returned (.tuple #[.pointer none, .int .i64 r.1]) ∧ WroteD D w F p r.2.2 w') ∨
  (r.1 = 0 ∧ ∃ q F', e = .returned (.tuple #[.pointer (some ⟨q, 0, none⟩), .int .i64 0]) ∧ w.heap.size ≤ q ∧ PLog w' q p r.2.1 ∧ ¬ F' q ∧ D w' F' p r.2.2 ∧ Touch F w w' ∧ ∀ k, F' k → F k ∨ w.heap.size ≤ k)

theorem openTail_redo (S : DS) (seq : Int) (r : Option (List (Int × List Int))) : openTail S seq r = if (redoS S r).1 ≠ 0 then ((redoS S r).1, 0, (redoS S r).2) else (0, seq, (redoS S r).2) := by
  cases r with
  | none => rfl
  | some l => rfl

/-- What is left behind redo, of a log that was laid ahead of it. -/
theorem opened_end (api : DiskApi D) {w1 w2 : World} {R : Int × DS} (h : D w F p S) (hX : Below w.heap.size w w1) (hq : PLog w1 q p seq) (hqw : w.heap.size ≤ q) (hW : WroteD D w1 F p R.2 w2) :
    WroteD D w F p R.2 w2 ∧ ∃ F', PLog w2 q p seq ∧ ¬ F' q ∧ D w2 F' p R.2 ∧ Touch F w w2 ∧ ∀ k, F' k → F k ∨ w.heap.size ≤ k := by
  have hlt := api.lt _ _ _ _ h
  have hqF : ¬ F q := fun hf => by have := hlt q hf; omega
  refine ⟨WroteD.join (Touch.of_below hX) (fun k hk => .inl hk) hW, ?_⟩
  obtain ⟨F', j1, j2, j3⟩ := hW
  have hql := hq.cells.2.2.2
  refine ⟨F', hq.keep (j2.block q hql hqF), fun hf => ?_, j1, (Touch.of_below hX).join (fun k hk => .inl hk) j2, new_join hX.size (fun k hk => .inl hk) j3⟩
  rcases j3 q hf with a | a
  · exact hqF a
  · omega

set_option maxHeartbeats 3200000 in
theorem open_any (api : DiskApi D) (h : D w F p S) (ht : TabF w F) (hw : S.writes ≤ 9223372036854700000) :
    Calls Tryz.prog 32 #[.pointer (some p)] w fun e w' => OpenedD D w F p (openS S) e w' := by
  have hok := api.ok _ _ _ _ h
  have hlt := api.lt _ _ _ _ h
  have hsz := hok.size
  have HM := Lib.hid lay_said.mark
  have HL := Lib.hid (fun w1 (hb : Below w.heap.size w w1) => WroteD.later api h hb)
  by_cases hd : S.down = true
  · have hO : openS S = (5, 0, S) := by unfold openS; rw [if_pos hd]
    have hre : S.readE 0 = 5 := by simp [DS.readE, hd]
    have HRD := Lib.hid (api.read 0 w F p S h)
    rw [hre] at HRD
    rw [hO]
    clear hO hre h hok hd ht
    go_enter Tryz.func32, Tryz.ntmps32
    go_wp2_with (go_at_call 80; refine (HM.out _).mono ?_; rintro e w3 ⟨rfl, rfl⟩)
    refine HRD.out.mono ?_
    rintro e w1 ⟨A, n, c, rfl, _, _, hb⟩
    have HW := Lib.hid (HL.out w1 hb)
    clear hb
    go_wp2
    go_ret2
    exact .inl ⟨by show ¬ (5 : Int) = 0; decide, rfl, HW.out⟩
  have hd' : S.down = false := by simpa using hd
  have hre : S.readE 0 = 0 := by
    unfold DS.readE
    rw [if_neg (by simp [hd']), if_pos (show S.has _ from ⟨by omega, by omega⟩)]
  have HRD := Lib.hid (api.readAt 0 w F p S h hre)
  rw [show (0 : Int).toNat = 0 from rfl] at HRD
  have HT := Lib.hid (fun w1 (hb : Below w.heap.size w w1) => ht.below hb)
  have HUP := Lib.hid unpack_said
  by_cases he : (unpackR (S.last 0)).2.2.2 = 0
  · have hcnt := unpack_count he
    have hpg := unpack_page he
    obtain ⟨count, hcount⟩ := Int.eq_ofNat_of_zero_le hpg.1
    have HE := Lib.hid he
    have HC := Lib.hid hcount
    have HR := Lib.hid (fun (w1 : World) (hb : Below w.heap.size w w1) (q : Nat) (hq : PLog w1 q p (unpackR (S.last 0)).2.1) => redo_any api (api.below h hb) hq (ht.below hb) hd' count (by omega) hw)
    have HO := Lib.hid (show openS S = openTail S (unpackR (S.last 0)).2.1 (slotsOf S.n S.last count (unpackR (S.last 0)).2.1) by rw [openS_up hd' he, hcount])
    have HD0 := Lib.hid h
    clear hd hd' hcnt hpg hcount he hre h hok ht
    generalize hseq : (unpackR (S.last 0)).2.1 = seq at HR HO ⊢
    have HSQ := Lib.hid hseq
    clear hseq
    go_enter Tryz.func32, Tryz.ntmps32
    go_wp2_with (go_at_call 80; refine (HM.out _).mono ?_; rintro e w3 ⟨rfl, rfl⟩)
    refine HRD.out.mono ?_
    rintro e w1 ⟨g, c, rfl, hc, hg, hr1, hb1⟩
    have ht1 := HT.out w1 hb1
    go_wp2_with fail
    refine (HUP.out (some ⟨g, 0, none⟩) 256 c _ _ w1 hr1 (Nat.le_refl _) hc (by omega) ht1.tab ht1.lt).mono ?_
    rw [HE.out, HC.out, HSQ.out]
    rintro e w2 ⟨A2, n2, c2, rfl, _, _, hb2⟩
    have hb02 := hb1.trans (hb2.mono hb1.size)
    have hs02 := hb02.size
    have hX : Below w.heap.size w (w2.alloc (.cells #[.pointer (some p), .int .i64 seq] 138)) := hb02.alloc hs02 _
    have hq : PLog (w2.alloc (.cells #[.pointer (some p), .int .i64 seq] 138)) w2.heap.size p seq := heap_alloc_new _ _
    have HRX := Lib.hid (HR.out _ hX _ hq)
    have HX := Lib.hid (And.intro hX hq)
    clear hr1 hb1 hb2 hb02 hX hq ht1
    go_wp2_with fail
    refine HRX.out.mono ?_
    rintro e w4 ⟨rfl, hW⟩
    have HEND := Lib.hid (opened_end (R := redoS S (slotsOf S.n S.last count seq)) api HD0.out HX.out.1 HX.out.2 hs02 hW)
    have HO2 := Lib.hid (HO.out.trans (openTail_redo S seq (slotsOf S.n S.last count seq)))
    clear hW HRX HR HO
    generalize redoS S (slotsOf S.n S.last count seq) = R at HEND HO2 ⊢
    by_cases h0 : R.1 = 0
    · have H0 := Lib.hid h0
      have HO3 := Lib.hid (HO2.out.trans (if_neg (fun h => h h0)))
      rw [h0]
      clear h0 HO2
      go_wp2
      go_ret2
      rw [HO3.out]
      obtain ⟨_, F', q1⟩ := HEND.out
      exact .inr ⟨rfl, _, F', rfl, hs02, q1⟩
    · have H0 := Lib.hid h0
      have kne : (R.1 != 0) = true := by simpa using h0
      have HO3 := Lib.hid (HO2.out.trans (if_pos h0))
      clear h0 HO2
      go_wp2
      go_ret2
      rw [HO3.out]
      exact .inl ⟨H0.out, rfl, HEND.out.1⟩
  · have he4 : (unpackR (S.last 0)).2.2.2 = 4 := by
      rcases unpack_err (S.last 0) with e | e
      · exact absurd e he
      · exact e
    have HO := Lib.hid (show openS S = (4, 0, S) by unfold openS; rw [if_neg hd, if_pos he])
    have HE := Lib.hid he4
    clear he he4 hd hd' h hre ht hok
    go_enter Tryz.func32, Tryz.ntmps32
    go_wp2_with (go_at_call 80; refine (HM.out _).mono ?_; rintro e w3 ⟨rfl, rfl⟩)
    refine HRD.out.mono ?_
    rintro e w1 ⟨g, c, rfl, hc, hg, hr1, hb1⟩
    have ht1 := HT.out w1 hb1
    go_wp2_with fail
    refine (HUP.out (some ⟨g, 0, none⟩) 256 c _ _ w1 hr1 (Nat.le_refl _) hc (by omega) ht1.tab ht1.lt).mono ?_
    rw [HE.out]
    rintro e w2 ⟨A2, n2, c2, rfl, _, _, hb2⟩
    have HW := Lib.hid (HL.out w2 (hb1.trans (hb2.mono hb1.size)))
    clear hr1 hb1 hb2 ht1
    go_wp2
    go_ret2
    rw [HO.out]
    exact .inl ⟨by show ¬ (4 : Int) = 0; decide, rfl, HW.out⟩
end

end Go.Proofs.YtinhdimalhfgkaaGreatDoor

/-
  Contract of the plain log's test of images, over the plain disk. Condition: at most 65,536 images.
-/
namespace Go.Proofs.YtinhdimalhfgkaaGreatDoor
open Go.RowKit
set_option maxRecDepth 100000
set_option linter.unusedVariables false

theorem belowN {B : Nat} {w w' : World} (h : Below B w w') : ∀ n, Below B w (w'.drewN n) := fun n => ⟨h.os, h.tape, h.output, h.size, h.block⟩

section
variable {w : World} {G : Nat → Prop} {x : Addr} {S : DS} {q : Nat} {seq : Int}

end

end Go.Proofs.YtinhdimalhfgkaaGreatDoor

/-
  Maps by whole numbers, as a function from numbers to what stands there, for any values: made, looked up, stored into, cleared; what keeps one. Condition of a store: fewer entries than 2^63 - 1.
-/
namespace Go.Proofs.YtinhdimalhfgkaaGreatDoor
open Go.RowKit Go.Maps Go.ChangeMaps Go.MapKept
set_option maxRecDepth 100000
set_option linter.unusedVariables false

/-- An element as itself. -/
def asItself (v : Value) : Option (DataW Value × List MemPlace) := some (.held v, [])
theorem int_key : Keyed Tryz.prog 3 := int_keyed Tryz.underlying3
theorem ikey_of {i : Int} (h : -9223372036854775808 ≤ i ∧ i ≤ 9223372036854775807) : keyOf Tryz.prog 3 (.int .i64 i) = some (.int .i64 i) :=
  keyOf_int_mk Tryz.underlying3 (WalkArith.wf_i64 (by omega))

/-- Block b of w is a map of at most n entries: at i stands f i. -/
def IMap (w : World) (b n : Nat) (f : Int → Option Value) : Prop :=
  ∃ D : DataW Value, w.ownsMap Tryz.prog 3 asItself b n D ∧ ∀ i : Int, Maps.has D (.int .i64 i) = (f i).isSome ∧ ∀ v z, f i = some v → D.atKey (.int .i64 i) z = .held v

section
variable {w w' : World} {b n : Nat} {f : Int → Option Value}
theorem IMap.made (w : World) : IMap (w.alloc (.map #[] 0)) w.heap.size 0 (fun _ => none) :=
  ⟨_, World.ownsMap_made w _ _ _, fun i => ⟨rfl, fun v z h => by cases h⟩⟩
theorem IMap.lt (h : IMap w b n f) : b < w.heap.size := by
  obtain ⟨D, h1, _⟩ := h
  exact h1.lt
theorem IMap.block (h : IMap w b n f) : ∃ es c, w.heap[b]? = some (.map es c) := by
  obtain ⟨D, ⟨es, c, hb, _⟩, _⟩ := h
  exact ⟨es, c, hb⟩
theorem IMap.of_block (h : IMap w b n f) (e : w'.heap[b]? = w.heap[b]?) : IMap w' b n f := by
  obtain ⟨D, ⟨es, c, hb, rest⟩, hf⟩ := h
  exact ⟨D, ⟨es, c, e.trans hb, rest⟩, hf⟩
theorem IMap.mono (h : IMap w b n f) {m : Nat} (hm : n ≤ m) : IMap w b m f := by
  obtain ⟨D, h1, hf⟩ := h
  exact ⟨D, h1.mono hm, hf⟩
theorem IMap.congr (h : IMap w b n f) {g : Int → Option Value} (e : ∀ i, f i = g i) : IMap w b n g := by
  obtain ⟨D, h1, hf⟩ := h
  exact ⟨D, h1, fun i => by rw [← e i]; exact hf i⟩
theorem atKey_not {D : DataW Value} {k : Lit} (h : Maps.has D k = false) (z : DataW Value) : D.atKey k z = z := Maps.atKey_of_not_has h z

theorem IMap.look (h : IMap w b n f) {t e : TypeId} (ht : Tryz.prog.underlying t = some (.map 3 e)) {z : Value} (hz : (zeroValue e).run Tryz.prog w = .ok z w) {i : Int} (hi : -9223372036854775808 ≤ i ∧ i ≤ 9223372036854775807) :
    (Instr.lookup t (.map (some b)) (.int .i64 i) true).run Tryz.prog w = .ok (.tuple #[(f i).getD z, .bool (f i).isSome]) w := by
  obtain ⟨D, h1, hf⟩ := h
  obtain ⟨v, ps, hrun, hv⟩ := h1.look_ok int_key ht hz (show asItself z = some (.held z, []) from rfl) (ikey_of hi)
  obtain ⟨hh, ha⟩ := hf i
  rw [hrun, hh]
  have hv' : DataW.held v = D.atKey (.int .i64 i) (.held z) := by
    have := Option.some.inj hv
    exact congrArg Prod.fst this
  rcases hfi : f i with _ | u
  · rw [hfi] at hh
    rw [atKey_not hh] at hv'
    cases hv'; rfl
  · rw [ha u _ hfi] at hv'
    cases hv'; rfl
theorem IMap.get (h : IMap w b n f) {t e : TypeId} (ht : Tryz.prog.underlying t = some (.map 3 e)) {z : Value} (hz : (zeroValue e).run Tryz.prog w = .ok z w) {i : Int} (hi : -9223372036854775808 ≤ i ∧ i ≤ 9223372036854775807) {u : Value} (hu : f i = some u) :
    (Instr.lookup t (.map (some b)) (.int .i64 i) false).run Tryz.prog w = .ok u w := by
  obtain ⟨D, h1, hf⟩ := h
  obtain ⟨v, ps, hrun, hv⟩ := h1.lookup int_key ht hz (show asItself z = some (.held z, []) from rfl) (ikey_of hi)
  obtain ⟨hh, ha⟩ := hf i
  rw [hrun]
  have hv' : DataW.held v = D.atKey (.int .i64 i) (.held z) := by
    have := Option.some.inj hv
    exact congrArg Prod.fst this
  rw [ha u _ hu] at hv'
  cases hv'; rfl
theorem IMap.store (h : IMap w b n f) {t e : TypeId} (ht : Tryz.prog.underlying t = some (.map 3 e)) (hn : n < maxLen) {i : Int} (hi : -9223372036854775808 ≤ i ∧ i ≤ 9223372036854775807) (u : Value) :
    ∃ w', (Instr.mapUpdate t (.map (some b)) (.int .i64 i) u).run Tryz.prog w = .ok () w' ∧ IMap w' b (n + 1) (fun j => if j = i then some u else f j) ∧ w.grownBy w' (some b) := by
  obtain ⟨D, h1, hf⟩ := h
  obtain ⟨w', hrun, h2, h3⟩ := h1.update int_key ht hn (ikey_of hi) (show asItself u = some (.held u, []) from rfl)
  refine ⟨w', hrun, ⟨_, h2, fun j => ?_⟩, h3⟩
  by_cases e : j = i
  · subst e
    show Maps.has _ _ = (if j = j then some u else f j).isSome ∧ ∀ v z, (if j = j then some u else f j) = some v → _
    rw [if_pos rfl]
    refine ⟨has_put_same h1.isMap (by trivial) _, fun v z hv => ?_⟩
    cases hv
    exact atKey_put_same h1.isMap (by trivial) _ _
  · show Maps.has _ _ = (if j = i then some u else f j).isSome ∧ ∀ v z, (if j = i then some u else f j) = some v → _
    rw [if_neg e]
    have hne : (Lit.int IntKind.i64 j) ≠ Lit.int IntKind.i64 i := fun h => e (by injection h)
    rw [has_put_other hne]
    refine ⟨(hf j).1, fun v z hv => ?_⟩
    rw [atKey_put_other hne]
    exact (hf j).2 v z hv
theorem IMap.clear_ (h : IMap w b n f) {t e : TypeId} (ht : Tryz.prog.underlying t = some (.map 3 e)) (ty : TypeId) :
    ∃ w', (Builtin.clear_ #[t] ty #[.map (some b)]).run Tryz.prog w = .ok (.tuple #[]) w' ∧ IMap w' b 0 (fun _ => none) ∧ w.grownBy w' (some b) := by
  obtain ⟨D, ⟨es, c, hb, _⟩, _⟩ := h
  refine ⟨ChangeMaps.setBlock w b (.map #[] c), ?_, ⟨.map [], ⟨#[], c, heap_setBlock_same hb _, ⟨by simp, stamped_empty c, by simp⟩, Nat.le_refl _, rfl⟩, fun i => ⟨rfl, fun v z h => by cases h⟩⟩, ⟨rfl, rfl, rfl, by simp [ChangeMaps.setBlock], fun i _ hi => heap_setBlock_other hb _ (fun e => hi (by rw [e]))⟩⟩
  simp [Builtin.clear_, run_underlying ht, MapKept.run_getObj_map hb, MapKept.run_setObj_map _ hb, Result.andThen]
  rfl
end

end Go.Proofs.YtinhdimalhfgkaaGreatDoor
