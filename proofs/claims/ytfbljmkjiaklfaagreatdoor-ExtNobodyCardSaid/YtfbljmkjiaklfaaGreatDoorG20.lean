/-
  The texts PgC, ExtA, ExtB, ExtC joined. Conditions: those that each part says at its head.
-/
import Derived.Test.YtfbljmkjiaklfaaGreatDoorG19
import Derived.Deep.RegionHeld3
import Derived.Maps.AppendAt
import Derived.Deep.AppendLies

/-
  Contracts of the program's pager's Set and New. Conditions: numbers and lengths are ints.
-/
namespace Go.Proofs.YtfbljmkjiaklfaaGreatDoor
open Go.RowKit
set_option maxRecDepth 100000
set_option linter.unusedVariables false

section
variable {D : World → (Nat → Prop) → Addr → DS → Prop} {w w' : World} {F O : Nat → Prop} {p : Addr} {S : DS} {q r b : Nat} {seq : Int} {L : List (Int × List Int)}

/-- Stored: the map holds the slice of a new block at i. -/
theorem PgAt.stored (api : DiskApi D) (h : PgAt D w F O p S q seq r b L) {i : Int} {l : List Int} (hi : 0 ≤ i ∧ i < S.P) (hl : l.length = 240) (hb : AllBytes l) {w1 : World} {g c : Nat} (hb1 : Below w.heap.size w w1) (hg : w.heap.size ≤ g) (hc : 240 ≤ c) (hr : RB w1 w1.heap.size (some ⟨g, 0, none⟩) 240 l) :
    ∃ w2, (Instr.mapUpdate 114 (.map (some b)) (.int .i64 i) (.slice (some ⟨g, 0, none⟩) 240 c)).run Tryz.prog w1 = .ok () w2 ∧ Hid (PgAt D w2 F (fun k => O k ∨ k = g) p S q seq r b (setL L i l) ∧ Touch O w w2) := by
  have hfew := few_set h.up h.all
  have hpb := pagesOf_bounds (S.n : Int)
  have h1 := h.below api hb1
  obtain ⟨f, hf, hset⟩ := h1.set
  have hgl : g < w1.heap.size := by obtain ⟨bb, _, e, hbb, _⟩ := hr.at_ (by decide); cases e; exact hbb
  obtain ⟨w2, hrun, hm2, hg2⟩ := hf.store Tryz.underlying114 (i := i) (by unfold maxLen; unfold DS.P at hfew; omega) (by unfold DS.P at hi; omega) (.slice (some ⟨g, 0, none⟩) 240 c)
  have hsup : ∀ j, (fun j => if j = i then some (Value.slice (some ⟨g, 0, none⟩) 240 c) else f j) j ≠ none → j ∈ (setL L i l).map (·.1) := by
    intro j hj
    have hup : Rising (setL L i l) := h.up.set
    rw [← atL_ne hup, atL_setL]
    by_cases e : j = i
    · rw [if_pos e]; simp
    · rw [if_neg e]
      intro ha
      simp only [if_neg e] at hj
      exact hj ((hset j).1 ha)
  have hm3 := hm2.tight ((setL L i l).map (·.1)) hsup
  rw [List.length_map] at hm3
  have hno : ∀ k, (F k ∨ k = q ∨ k = r ∨ k = b) → k ≠ g := fun k hk e => by
    have := h.lt k (h.own k hk)
    omega
  have hgb : g ≠ b := fun e => hno b (.inr (.inr (.inr rfl))) e.symm
  refine ⟨w2, hrun, Lib.hid ⟨h1.turn api hg2 (fun k hk => .inl hk) (fun k hk => ?_) ⟨_, hm3, fun j => ?_⟩ h.up.set (h.all.set hi hl hb), ?_⟩⟩
  · rcases hk with a | a
    · exact Nat.lt_of_lt_of_le (h1.lt k a) hg2.size
    · rw [a]; exact Nat.lt_of_lt_of_le hgl hg2.size
  · rw [atL_setL]
    by_cases e : j = i
    · rw [if_pos e]
      refine ⟨fun ha => (by cases ha), fun l' hl' => ?_⟩
      cases hl'
      refine ⟨g, c, by simp [e], hc, hr.there (by decide) (hg2.block g hgl (fun e => hgb (Option.some.inj e))) hg2.size, fun hx => hno g hx rfl, .inr rfl⟩
    · rw [if_neg e]
      refine ⟨fun ha => by simp only [if_neg e]; exact (hset j).1 ha, fun l' hl' => ?_⟩
      obtain ⟨g', c', e1, e2, e3, e4, e5⟩ := (hset j).2 l' hl'
      have hg' : g' < w1.heap.size := by obtain ⟨bb, _, e, hbb, _⟩ := e3.at_ (by decide); cases e; exact hbb
      exact ⟨g', c', by simp only [if_neg e]; exact e1, e2, e3.there (by decide) (hg2.block g' hg' (fun e => e4 (.inr (.inr (.inr (Option.some.inj e)))))) hg2.size, e4, .inl e5⟩
  · have hOb := h.own b (.inr (.inr (.inr rfl)))
    exact ⟨hg2.os.trans hb1.os, hg2.tape.trans hb1.tape, hg2.output.trans hb1.output, Nat.le_trans hb1.size hg2.size, fun k hk hn => (hg2.block k (Nat.lt_of_lt_of_le hk hb1.size) (fun e => hn (by injection e with e; rw [e]; exact hOb))).trans (hb1.block k hk)⟩

set_option maxHeartbeats 3200000 in
theorem pset_any (api : DiskApi D) (h : PgAt D w F O p S q seq r b L) (i : Int) {A : Option Addr} {n c B : Nat} {l : List Int} (hi : -9223372036854775808 ≤ i ∧ i ≤ 9223372036854775807) (hr : RB w B A n l) (hB : B ≤ w.heap.size) (hn : n ≤ maxLen) :
    Calls Tryz.prog 167 #[.pointer (some ⟨r, 0, none⟩), .int .i64 i, .slice A n c] w fun e w' => e = .returned (.int .i64 (setPgE S i l)) ∧ ∃ O', PgAt D w' F O' p S q seq r b (setPg S L i l) ∧ Touch O w w' ∧ ∀ k, O' k → O k ∨ w.heap.size ≤ k := by
  unfold maxLen at hn
  obtain ⟨l0, l1, l2⟩ := h.cells
  have hlen := hr.len
  have HM := Lib.hid (pmade_any h)
  have HP := Lib.hid (ppages_any api h)
  have hPd : S.P = pagesOf S.n := rfl
  have HH := Lib.hid h
  have HSAME := Lib.hid (show PgAt D w F O p S q seq r b L ∧ Touch O w w ∧ ∀ k, O k → O k ∨ w.heap.size ≤ k from ⟨h, Touch.refl _ _, fun k hk => .inl hk⟩)
  by_cases h1 : i < 0
  · have hE : setPgE S i l = 1 ∧ setPg S L i l = L := by unfold setPgE setPg; exact ⟨if_pos (.inl h1), if_pos (.inl h1)⟩
    have k1 : decide (i < 0) = true := by simpa using h1
    rw [hE.1, hE.2]
    clear hE h1 h hr hlen
    go_enter Tryz.func167, Tryz.ntmps167
    go_wp2_with fail
    refine HM.out.mono ?_
    rintro e w1 ⟨rfl, rfl⟩
    go_wp2
    go_ret
    exact ⟨rfl, O, HSAME.out⟩
  have k1 : decide (i < 0) = false := by simpa using h1
  by_cases h2 : i ≥ S.P
  · have hE : setPgE S i l = 1 ∧ setPg S L i l = L := by unfold setPgE setPg; exact ⟨if_pos (.inr (.inl h2)), if_pos (.inr (.inl h2))⟩
    have k2 : decide (i ≥ pagesOf S.n) = true := by rw [← hPd]; simpa using h2
    rw [hE.1, hE.2]
    clear hE h1 h2 h hr hlen hPd
    go_enter Tryz.func167, Tryz.ntmps167
    go_wp2_with fail
    refine HM.out.mono ?_
    rintro e w1 ⟨rfl, rfl⟩
    go_wp2_with fail
    refine HP.out.mono ?_
    rintro e w1 ⟨rfl, hw⟩
    have hw := hw.symm
    subst hw
    go_wp2
    go_ret
    exact ⟨rfl, O, HSAME.out⟩
  have k2 : decide (i ≥ pagesOf S.n) = false := by rw [← hPd]; simpa using h2
  by_cases h3 : n = 240
  · subst h3
    have hE : setPgE S i l = 0 ∧ setPg S L i l = setL L i l := by unfold setPgE setPg; exact ⟨if_neg (by rw [hlen]; omega), if_neg (by rw [hlen]; omega)⟩
    rw [hE.1, hE.2]
    have hrd : RB w.drew w.drew.heap.size A 240 l := (hr.more hB).drew
    have HST := Lib.hid (fun (w1 : World) (g c1 : Nat) (hb1 : Below w.heap.size w w1) (hg : w.heap.size ≤ g) (hc : 240 ≤ c1) (hr1 : RB w1 w1.heap.size (some ⟨g, 0, none⟩) 240 l) => h.stored api (i := i) ⟨by omega, by omega⟩ hlen hr.bytes hb1 hg hc hr1)
    have HBY := Lib.hid hr.bytes
    clear hE h1 h2 h hr hlen hPd
    go_enter Tryz.func167, Tryz.ntmps167
    go_wp2_with fail
    refine HM.out.mono ?_
    rintro e w1 ⟨rfl, rfl⟩
    go_wp2_with fail
    refine HP.out.mono ?_
    rintro e w1 ⟨rfl, hw⟩
    have hw := hw.symm
    subst hw
    go_wp2_with fail
    have e1 : w.drew.cell? ⟨r, 1, none⟩ = some (.map (some b)) := l1
    go_region_with
      (go_at_call 81; refine (CloneB_own c hrd (Nat.le_refl _) (by decide)).mono ?_; rintro e w5 ⟨A5, k5, rfl, hk5, hown5, hb5⟩; obtain ⟨g5, k5', e5, hk5', hg5⟩ := own_some hown5 (by decide); cases e5; have hb5' : Below w.heap.size w w5 := (Below.refl _ _).drew.trans hb5; obtain ⟨w6, hrun6, HE⟩ := HST.out w5 g5 k5 hb5' hg5 hk5 (RB.of_own hown5 HBY.out); have l5 : w5.cell? ⟨r, 1, none⟩ = some (.map (some b)) := (hb5'.cell (p := ⟨r, 1, none⟩) l2).trans l1; clear hown5 hb5 hb5')
    all_goals go_wp2
    all_goals go_ret
    all_goals exact ⟨rfl, _, HE.out.1, HE.out.2, fun k hk => hk.imp id (fun e => by rw [e]; exact hg5)⟩
  · have hE : setPgE S i l = 1 ∧ setPg S L i l = L := by unfold setPgE setPg; exact ⟨if_pos (.inr (.inr (by rw [hlen]; exact h3))), if_pos (.inr (.inr (by rw [hlen]; exact h3)))⟩
    have k3 : ((n : Int) != 240) = true := by simp; omega
    rw [hE.1, hE.2]
    clear hE h1 h2 h3 h hr hlen hPd
    go_enter Tryz.func167, Tryz.ntmps167
    go_wp2_with fail
    refine HM.out.mono ?_
    rintro e w1 ⟨rfl, rfl⟩
    go_wp2_with fail
    refine HP.out.mono ?_
    rintro e w1 ⟨rfl, hw⟩
    have hw := hw.symm
    subst hw
    go_wp2
    go_ret
    exact ⟨rfl, O, HSAME.out⟩
end

end Go.Proofs.YtfbljmkjiaklfaaGreatDoor

/-
  A store's change in memory, and its smallest step: a page is given its bytes. Conditions: numbers and lengths are ints.
-/
namespace Go.Proofs.YtfbljmkjiaklfaaGreatDoor
open Go.RowKit
set_option maxRecDepth 100000
set_option linter.unusedVariables false

section
variable {D : World → (Nat → Prop) → Addr → DS → Prop} {w w' : World} {F O : Nat → Prop} {p : Addr} {S : DS} {q r b : Nat} {seq : Int} {L : List (Int × List Int)}

/-- A store at st, of the pager at r. -/
def StAt (w : World) (st r : Nat) : Prop := w.heap[st]? = some (.cells #[.pointer (some ⟨r, 0, none⟩)] 48 (0, 0))
/-- A change at ch, of the store at st: what it was, what it will be, the slots' map, the steps. -/
def ChAt (w : World) (ch st : Nat) (d f n c : Int) (v : Value) (d' f' n' c' : Int) (v' : Value) (mb : Nat) (sv : Value) : Prop :=
  w.heap[ch]? = some (.cells #[.pointer (some ⟨st, 0, none⟩), .int .i64 d, .int .i64 f, .int .i64 n, .int .i64 c, v, .int .i64 d', .int .i64 f', .int .i64 n', .int .i64 c', v', .map (some mb), sv] 165 (0, 0))

set_option maxHeartbeats 1600000 in
theorem lay1_any (api : DiskApi D) (h : PgAt D w F O p S q seq r b L) {cb pb db ch st : Nat} {i : Int} {A : Option Addr} {n c B : Nat} {l : List Int} (hi : -9223372036854775808 ≤ i ∧ i ≤ 9223372036854775807)
    (h0 : w.cell? ⟨cb, 0, none⟩ = some (.pointer (some ⟨ch, 0, none⟩))) (h1 : w.cell? ⟨ch, 0, none⟩ = some (.pointer (some ⟨st, 0, none⟩))) (h2 : w.cell? ⟨st, 0, none⟩ = some (.pointer (some ⟨r, 0, none⟩))) (h3 : w.cell? ⟨pb, 0, none⟩ = some (.int .i64 i)) (h4 : w.cell? ⟨db, 0, none⟩ = some (.slice A n c)) (ho : ∀ k, k = cb ∨ k = ch ∨ k = st ∨ k = pb ∨ k = db → ¬ O k) (hr : RB w B A n l) (hB : B ≤ w.heap.size) (hn : n ≤ maxLen) :
    Calls Tryz.prog 166 #[.pointer (some ⟨cb, 0, none⟩), .pointer (some ⟨pb, 0, none⟩), .pointer (some ⟨db, 0, none⟩)] w fun e w' => e = .returned (.int .i64 (setPgE S i l)) ∧ ∃ O', PgAt D w' F O' p S q seq r b (setPg S L i l) ∧ Touch O w w' ∧ ∀ k, O' k → O k ∨ w.heap.size ≤ k := by
  have HS := Lib.hid (fun (w1 : World) (hb : Below w.heap.size w w1) => pset_any (c := c) api (h.below api hb) i hi (hr.below (hb.mono hB)) (Nat.le_trans hB hb.size) hn)
  have hd : Below w.heap.size w w.drew := (Below.refl _ _).drew
  have HC := Lib.hid (show ∀ w2, Touch O w w2 → ∀ (k : Nat) (u : Value), (k = cb ∨ k = ch ∨ k = st ∨ k = pb ∨ k = db) → w.cell? ⟨k, 0, none⟩ = some u → w2.cell? ⟨k, 0, none⟩ = some u from fun w2 ht k u hk hu => (World.cell?_of_block (a := ⟨k, 0, none⟩) (ht.block k (World.block_lt_of_cell? _ _ hu) (ho k hk))).trans hu)
  have HT := Lib.hid (show ∀ w2, Touch O w.drew w2 → Touch O w w2 from fun w2 ht => ⟨ht.os, ht.tape, ht.output, ht.size, ht.block⟩)
  have HSD := Lib.hid (HS.out w.drew hd)
  clear h hr HS hd
  go_enter Tryz.func166, Tryz.ntmps166
  go_wp2_with fail
  go_region_held3 (fun w' => w'.cell? ⟨cb, 0, none⟩ = some (.pointer (some ⟨ch, 0, none⟩)) ∧ w'.cell? ⟨ch, 0, none⟩ = some (.pointer (some ⟨st, 0, none⟩)) ∧ w'.cell? ⟨st, 0, none⟩ = some (.pointer (some ⟨r, 0, none⟩)) ∧ w'.cell? ⟨pb, 0, none⟩ = some (.int .i64 i) ∧ w'.cell? ⟨db, 0, none⟩ = some (.slice A n c))
    (first | with_reducible exact y1 | exact ⟨h0, h1, h2, h3, h4⟩)
    (first
      | (go_at_call 167; refine HSD.out.mono ?_; rintro e w2 ⟨rfl, O2, p2, t2, n2⟩; have tt := HT.out w2 t2; have y1 : w2.cell? ⟨cb, 0, none⟩ = some (.pointer (some ⟨ch, 0, none⟩)) ∧ w2.cell? ⟨ch, 0, none⟩ = some (.pointer (some ⟨st, 0, none⟩)) ∧ w2.cell? ⟨st, 0, none⟩ = some (.pointer (some ⟨r, 0, none⟩)) ∧ w2.cell? ⟨pb, 0, none⟩ = some (.int .i64 i) ∧ w2.cell? ⟨db, 0, none⟩ = some (.slice A n c) := ⟨HC.out w2 tt cb _ (.inl rfl) h0, HC.out w2 tt ch _ (.inr (.inl rfl)) h1, HC.out w2 tt st _ (.inr (.inr (.inl rfl))) h2, HC.out w2 tt pb _ (.inr (.inr (.inr (.inl rfl)))) h3, HC.out w2 tt db _ (.inr (.inr (.inr (.inr rfl)))) h4⟩))
  have HE := Lib.hid (show ∃ O', PgAt D w2 F O' p S q seq r b (setPg S L i l) ∧ Touch O w w2 ∧ ∀ k, O' k → O k ∨ w.heap.size ≤ k from ⟨O2, p2, tt, n2⟩)
  clear p2 t2 n2 tt y1
  go_wp2
  go_ret
  exact ⟨rfl, HE.out⟩
end
end Go.Proofs.YtfbljmkjiaklfaaGreatDoor

/-
  A store's change takes the first page that was never used. Condition: the number is an int.
-/
namespace Go.Proofs.YtfbljmkjiaklfaaGreatDoor
open Go.RowKit
set_option maxRecDepth 100000
set_option linter.unusedVariables false

section
variable {D : World → (Nat → Prop) → Addr → DS → Prop} {w w' : World} {F O : Nat → Prop} {p : Addr} {S : DS} {q r b : Nat} {seq : Int} {L : List (Int × List Int)} {ch st mb : Nat} {d f n c d' f' n' c' : Int} {v v' sv : Value}

theorem StAt.cell (h : StAt w st r) : w.cell? ⟨st, 0, none⟩ = some (.pointer (some ⟨r, 0, none⟩)) := by
  rw [cell_of_row w st 0 _ _ (0, 0) h]; rfl
theorem ChAt.cells (h : ChAt w ch st d f n c v d' f' n' c' v' mb sv) : w.cell? ⟨ch, 0, none⟩ = some (.pointer (some ⟨st, 0, none⟩)) ∧ w.cell? ⟨ch, 6, none⟩ = some (.int .i64 d') ∧ w.cell? ⟨ch, 7, none⟩ = some (.int .i64 f') ∧ w.cell? ⟨ch, 8, none⟩ = some (.int .i64 n') ∧ w.cell? ⟨ch, 9, none⟩ = some (.int .i64 c') ∧ w.cell? ⟨ch, 10, none⟩ = some v' ∧ w.cell? ⟨ch, 11, none⟩ = some (.map (some mb)) ∧ w.cell? ⟨ch, 12, none⟩ = some sv ∧ ch < w.heap.size := by
  refine ⟨?_, ?_, ?_, ?_, ?_, ?_, ?_, ?_, (Array.getElem?_eq_some_iff.1 h).1⟩ <;> (rw [cell_of_row w ch _ _ _ (0, 0) h]; rfl)
theorem ChAt.frozen (h : ChAt w ch st d f n c v d' f' n' c' v' mb sv) (i : Nat) : w.frozen? ⟨ch, i, none⟩ = false := by
  have h' : w.heap[ch]? = _ := h
  simp [World.frozen?, h']
theorem ChAt.setN (h : ChAt w ch st d f n c v d' f' n' c' v' mb sv) (x : Int) : ChAt (w.setCell ⟨ch, 8, none⟩ (.int .i64 x)) ch st d f n c v d' f' x c' v' mb sv := heap_setCell_same w ch 8 _ _ (.int .i64 x) h
theorem ChAt.setF (h : ChAt w ch st d f n c v d' f' n' c' v' mb sv) (x : Int) : ChAt (w.setCell ⟨ch, 7, none⟩ (.int .i64 x)) ch st d f n c v d' x n' c' v' mb sv := heap_setCell_same w ch 7 _ _ (.int .i64 x) h
theorem ChAt.setC (h : ChAt w ch st d f n c v d' f' n' c' v' mb sv) (x : Int) : ChAt (w.setCell ⟨ch, 9, none⟩ (.int .i64 x)) ch st d f n c v d' f' n' x v' mb sv := heap_setCell_same w ch 9 _ _ (.int .i64 x) h
theorem ChAt.setD (h : ChAt w ch st d f n c v d' f' n' c' v' mb sv) (x : Int) : ChAt (w.setCell ⟨ch, 6, none⟩ (.int .i64 x)) ch st d f n c v x f' n' c' v' mb sv := heap_setCell_same w ch 6 _ _ (.int .i64 x) h
theorem ChAt.setV (h : ChAt w ch st d f n c v d' f' n' c' v' mb sv) (u : Value) : ChAt (w.setCell ⟨ch, 10, none⟩ u) ch st d f n c v d' f' n' c' u mb sv := heap_setCell_same w ch 10 _ _ u h
theorem ChAt.setS (h : ChAt w ch st d f n c v d' f' n' c' v' mb sv) (u : Value) : ChAt (w.setCell ⟨ch, 12, none⟩ u) ch st d f n c v d' f' n' c' v' mb u := heap_setCell_same w ch 12 _ _ u h
theorem ChAt.below (h : ChAt w ch st d f n c v d' f' n' c' v' mb sv) (hb : Below w.heap.size w w') : ChAt w' ch st d f n c v d' f' n' c' v' mb sv := (hb.block ch h.cells.2.2.2.2.2.2.2.2).trans h

set_option maxHeartbeats 1600000 in
theorem takeNew_any (api : DiskApi D) (h : PgAt D w F O p S q seq r b L) (hc : ChAt w ch st d f n c v d' f' n' c' v' mb sv) (hs : StAt w st r) (hn : 0 ≤ n' ∧ n' < 4611686018427387904) :
    Calls Tryz.prog 124 #[.pointer (some ⟨ch, 0, none⟩)] w fun e w' => (pagesOf S.n ≤ n' ∧ e = .returned (.tuple #[.int .i64 0, .int .i64 6]) ∧ w' = w) ∨ (n' < pagesOf S.n ∧ e = .returned (.tuple #[.int .i64 n', .int .i64 0]) ∧ w' = w.setCell ⟨ch, 8, none⟩ (.int .i64 (n' + 1))) := by
  obtain ⟨z0, _, _, z3, _, _, _, _, zl⟩ := hc.cells
  have zs := hs.cell
  have fz := hc.frozen 8
  have HP := Lib.hid (ppages_any api h)
  obtain ⟨n0, n1⟩ := hn
  have hpb := pagesOf_bounds (S.n : Int)
  clear h hs hc
  by_cases hf : pagesOf S.n ≤ n'
  · have k1 : decide (pagesOf S.n ≤ n') = true := by simpa using hf
    go_enter Tryz.func124, Tryz.ntmps124
    go_wp2_with fail
    refine HP.out.mono ?_
    rintro e w1 ⟨rfl, hw⟩
    subst hw
    go_wp2
    go_ret2
    exact .inl ⟨hf, rfl, rfl⟩
  · have k1 : decide (pagesOf S.n ≤ n') = false := by simpa using hf
    go_enter Tryz.func124, Tryz.ntmps124
    go_wp2_with fail
    refine HP.out.mono ?_
    rintro e w1 ⟨rfl, hw⟩
    subst hw
    go_wp2
    go_ret2
    exact .inr ⟨by omega, rfl, rfl⟩
end
end Go.Proofs.YtfbljmkjiaklfaaGreatDoor

/-
  A store's change gathers one step more; take while no page is free; a page's step laid. Conditions: fewer than 2^32 steps; numbers are ints.
-/
namespace Go.Proofs.YtfbljmkjiaklfaaGreatDoor
open Go.RowKit
set_option maxRecDepth 100000
set_option linter.unusedVariables false

theorem info_step : (Tryz.prog.info? 71).map (fun i => (i.zero.map (fun z => z.cells.size), i.size, i.bytes)) = some (some 1, 1, 8) := by kernel_rfl
theorem step_parts : ∃ i z, Tryz.prog.info? 71 = some i ∧ i.zero = some z ∧ i.size = 1 ∧ i.bytes = 8 ∧ z.cells.size = 1 := by
  have h := info_step
  cases hi : Tryz.prog.info? 71 with
  | none => rw [hi] at h; cases h
  | some i =>
    rw [hi] at h
    simp only [Option.map_some, Option.some.injEq, Prod.mk.injEq] at h
    obtain ⟨h1, h2, h3⟩ := h
    cases hz : i.zero with
    | none => rw [hz] at h1; cases h1
    | some z =>
      rw [hz] at h1
      exact ⟨i, z, rfl, hz, h2, h3, by simpa using h1⟩

section
variable {D : World → (Nat → Prop) → Addr → DS → Prop} {w w' : World} {F O : Nat → Prop} {p : Addr} {S : DS} {q r b : Nat} {seq : Int} {L : List (Int × List Int)} {ch st mb base k : Nat} {d f n c d' f' n' c' : Int} {v v' sv : Value} {fs : List Value}

/-- One step more. -/
def ThenDone (w : World) (base ch st : Nat) (d f n c : Int) (v : Value) (d' f' n' c' : Int) (v' : Value) (mb : Nat) (sv : Value) (fs : List Value) (w' : World) : Prop :=
  ∃ sv', ChAt w' ch st d f n c v d' f' n' c' v' mb sv' ∧ w'.ownsRow base 71 1 sv' fs.length fs ∧ Touch (fun j => j = ch ∨ sv.ownBlock = some j) w w' ∧ (sv'.ownBlock = sv.ownBlock ∨ ∃ g, sv'.ownBlock = some g ∧ w.heap.size ≤ g)

theorem then_after (hc : ChAt w ch st d f n c v d' f' n' c' v' mb sv) (hch : sv.ownBlock ≠ some ch) (hkk : fs.length = k) {w4 : World} {u fv : Value} {T : TypeId} (hown : w4.ownsRow base 71 1 u (k + 1) (fs ++ [fv])) (hg : (w.alloc (.cells #[fv] T)).grownBy w4 sv.ownBlock) (hl : u.ownBlock = sv.ownBlock ∨ u.ownBlock = some (w.alloc (.cells #[fv] T)).heap.size) :
    w4.frozen? ⟨ch, 12, none⟩ = false ∧ w4.cell? ⟨ch, 12, none⟩ = some sv ∧ Hid (ThenDone w base ch st d f n c v d' f' n' c' v' mb sv (fs ++ [fv]) (w4.setCell ⟨ch, 12, none⟩ u)) := by
  have zl := hc.cells.2.2.2.2.2.2.2.2
  have hb4 : ∀ j, j < w.heap.size → sv.ownBlock ≠ some j → w4.heap[j]? = w.heap[j]? := fun j hj hne => (hg.block j (by simp; omega) (fun e => hne e.symm)).trans (Below.heap_alloc _ _ j hj)
  have hc4 : ChAt w4 ch st d f n c v d' f' n' c' v' mb sv := (hb4 ch zl hch).trans hc
  have hs4 := hg.size
  have hne4 : ∀ g, u.ownBlock = some g → g ≠ ch := fun g hg2 e => by
    rcases hl with a | a
    · exact hch (by rw [← a, hg2, e])
    · rw [hg2] at a
      injection a with a
      simp at a
      omega
  exact ⟨hc4.frozen 12, hc4.cells.2.2.2.2.2.2.2.1, Lib.hid ⟨_, hc4.setS _, by
    rw [List.length_append, hkk]
    exact own_stays hown (fun g hg => Below.heap_setCell _ _ _ _ (hne4 g hg)), ⟨hg.os, hg.tape, hg.output, Nat.le_trans (by simp) (Nat.le_trans hs4 (by simp)), fun j hj hn => (Below.heap_setCell _ _ _ _ (fun e => hn (.inl e))).trans (hb4 j hj (fun e => hn (.inr e)))⟩, by
    rcases hl with a | a
    · exact .inl a
    · exact .inr ⟨_, a, by simp⟩⟩⟩

set_option maxHeartbeats 1600000 in
theorem then_any (hc : ChAt w ch st d f n c v d' f' n' c' v' mb sv) (hown : w.ownsRow base 71 1 sv fs.length fs) (hch : sv.ownBlock ≠ some ch) (fn : Fn) (bs cs : Array Value) (hk : fs.length ≤ 4294967296) (hbase : base ≤ w.heap.size) :
    Calls Tryz.prog 126 #[.pointer (some ⟨ch, 0, none⟩), .func fn bs cs] w fun e w' => e = .returned (.tuple #[]) ∧ ThenDone w base ch st d f n c v d' f' n' c' v' mb sv (fs ++ [.func fn bs cs]) w' := by
  obtain ⟨i0, z, hi, hz, hs1, hb8, hzc⟩ := step_parts
  obtain ⟨_, _, _, _, _, _, _, z7, zl⟩ := hc.cells
  have HC := Lib.hid hc
  have HO := Lib.hid hown
  have HCH := Lib.hid hch
  generalize hkk : fs.length = k at *
  have HKK := Lib.hid hkk
  clear hc hown hch hkk
  go_enter Tryz.func126, Tryz.ntmps126
  go_wp2_with (at_builtin; refine wpList_append_own_at _ rfl _ _ 163 rfl base 71 i0 z 1 8 Tryz.underlying163 hi hz hs1 hb8 hzc (by decide) sv k fs rfl (HO.out.alloc _) ⟨w.heap.size, 0, none⟩ 1 1 [.func fn bs cs] rfl rfl (fun j u hj => World.news_of_block (cs := #[.func fn bs cs]) (heap_alloc_new _ _) j u hj) (fun u hu => by rw [List.mem_singleton.1 hu]; rfl) (by unfold maxLen; omega) (by omega) (by simp; omega) ?_; intro v4 w4 hown4 hg4 hx4 hl4; clear hx4; obtain ⟨g4, cap4, hv4, _⟩ := hown4.form (Nat.succ_pos _); subst hv4; obtain ⟨f4, y4, HE⟩ := then_after HC.out HCH.out HKK.out hown4 hg4 hl4; clear hown4 hg4 hl4)
  go_end0
  exact ⟨rfl, HE.out⟩
end
end Go.Proofs.YtfbljmkjiaklfaaGreatDoor
