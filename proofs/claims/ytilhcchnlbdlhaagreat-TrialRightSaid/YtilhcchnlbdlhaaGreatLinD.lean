/-
  The texts LinM, LinC, LinEq, LinD joined. Conditions: those that each part says at its head.
-/
import Derived.Test.YtilhcchnlbdlhaaGreatLinA
import Derived.Test.YtilhcchnlbdlhaaGreatSortL
import Derived.Test.YtilhcchnlbdlhaaGreatLinB
import Derived.Lib.AppendZeros
import Derived.BigQuiet
import Derived.Laws.StructEq

/-
  The library's slices.SortFunc over lines with Funds' comparison, by contract: the lines, rising by their funds. Conditions: fewer than 2^62 lines, no fund twice.
-/
namespace Go.Proofs.YtilhcchnlbdlhaaGreat
open Go.RowKit Go.Maps Go.Sort Go.Shelf
set_option maxRecDepth 100000
set_option linter.unusedVariables false

instance lnInh : Inhabited Ln := ⟨⟨0, 0, 0, 0⟩⟩
def cmpZ (x y : Int) : Int := if x < y then -1 else if y < x then 1 else 0
def cmpLn (x y : Ln) : Int := cmpZ x.f y.f
theorem cmpZ_lt (x y : Int) : cmpZ x y < 0 ↔ x < y := by
  unfold cmpZ
  split
  · simp; omega
  · split
    · simp; omega
    · simp; omega

set_option maxHeartbeats 400000 in
theorem isNaNZ_any (x : Int) (w : World) : Calls Tryz.prog 155 #[.int .i64 x] w fun e w' => e = .returned (.bool false) ∧ w = w' := by
  go_enter Tryz.func155, Tryz.ntmps155
  go_wp2
  go_ret
  exact ⟨rfl, rfl⟩
set_option maxHeartbeats 800000 in
theorem cmpZ_any (x y : Int) (w : World) : Calls Tryz.prog 134 #[.int .i64 x, .int .i64 y] w fun e w' => e = .returned (.int .i64 (cmpZ x y)) ∧ w = w' := by
  have HX := Lib.hid (isNaNZ_any x)
  have HY := Lib.hid (isNaNZ_any y)
  unfold cmpZ
  by_cases h1 : x < y
  · rw [if_pos h1]
    go_enter Tryz.func134, Tryz.ntmps134
    go_wp2_with fail
    refine (HX.out _).mono ?_
    rintro e w1 ⟨rfl, rfl⟩
    go_wp2_with fail
    refine (HY.out _).mono ?_
    rintro e w1 ⟨rfl, rfl⟩
    go_wp2
    go_ret
    exact ⟨rfl, rfl⟩
  · rw [if_neg h1]
    by_cases h2 : y < x
    · rw [if_pos h2]
      go_enter Tryz.func134, Tryz.ntmps134
      go_wp2_with fail
      refine (HX.out _).mono ?_
      rintro e w1 ⟨rfl, rfl⟩
      go_wp2_with fail
      refine (HY.out _).mono ?_
      rintro e w1 ⟨rfl, rfl⟩
      go_wp2
      go_ret
      exact ⟨rfl, rfl⟩
    · rw [if_neg h2]
      go_enter Tryz.func134, Tryz.ntmps134
      go_wp2_with fail
      refine (HX.out _).mono ?_
      rintro e w1 ⟨rfl, rfl⟩
      go_wp2_with fail
      refine (HY.out _).mono ?_
      rintro e w1 ⟨rfl, rfl⟩
      go_wp2
      go_ret
      exact ⟨rfl, rfl⟩
set_option maxHeartbeats 800000 in
/-- The comparison. -/
theorem cmpLn_any (W : World) (x y : Ln) :
    Calls Tryz.prog 133 #[.agg #[.int .i64 x.f, .int .i64 x.o, .int .i64 x.n, .int .i64 x.a], .agg #[.int .i64 y.f, .int .i64 y.o, .int .i64 y.n, .int .i64 y.a]] W fun e w' => e = .returned (.int .i64 (cmpLn x y)) ∧ ∃ q os', w' = grow (W.drewN q) os' := by
  obtain ⟨xf, xo, xn, xa⟩ := x
  obtain ⟨yf, yo, yn, ya⟩ := y
  have HC := Lib.hid (cmpZ_any xf yf)
  unfold cmpLn
  simp only
  generalize cmpZ xf yf = r at HC ⊢
  go_enter Tryz.func133, Tryz.ntmps133
  go_wp2_with fail
  refine (HC.out _).mono ?_
  rintro e w' ⟨rfl, rfl⟩
  go_wp2
  go_ret
  exact ⟨rfl, 0, _, by rw [alloc_eq_grow, alloc_eq_grow, grow_grow]; rfl⟩
theorem swoL : SWO (ltOf cmpLn) where
  irrefl x := by
    have : ¬ cmpLn x x < 0 := fun h => by have := (cmpZ_lt _ _).1 h; omega
    simp [ltOf, this]
  trans x y z h1 h2 := by
    simp only [ltOf, decide_eq_true_eq] at *
    have a := (cmpZ_lt _ _).1 h1
    have b := (cmpZ_lt _ _).1 h2
    exact (cmpZ_lt _ _).2 (by omega)
  ntrans x y z h1 h2 := by
    simp only [ltOf, decide_eq_false_iff_not] at *
    intro h3
    have c := (cmpZ_lt _ _).1 h3
    by_cases a : x.f < y.f
    · exact h1 ((cmpZ_lt _ _).2 a)
    · exact h2 ((cmpZ_lt _ _).2 (by omega))
theorem cmpLaysLn (g size : Nat) (w : World) : CmpLays Tryz.prog 133 #[] lnV 4 cmpLn g 0 size w := by
  intro m os dk hs x y
  exact cmpLn_any _ x y
theorem flat_atL : ∀ (ds : List Ln) (t : Nat), t < ds.length * 4 → (lnsV ds)[t]? = some ((lnV (ds.getD (t / 4) default))[t % 4]!)
  | [], t, h => by simp at h
  | d :: ds, t, h => by
    show (lnV d ++ lnsV ds)[t]? = _
    rcases Nat.lt_or_ge t 4 with h2 | h2
    · have : t = 0 ∨ t = 1 ∨ t = 2 ∨ t = 3 := by omega
      rcases this with rfl | rfl | rfl | rfl <;> rfl
    · have ih := flat_atL ds (t - 4) (by rw [List.length_cons] at h; omega)
      rw [List.getElem?_append_right (show (lnV d).length ≤ t from h2), show t - (lnV d).length = t - 4 from rfl, ih]
      have e1 : t / 4 = (t - 4) / 4 + 1 := by omega
      have e2 : t % 4 = (t - 4) % 4 := by omega
      rw [e1, e2, List.getD_cons_succ]
theorem flatK_listL (ds : List Ln) : (flatK lnV 4 ds.toArray).toList = lnsV ds := by
  apply List.ext_getElem?
  intro t
  rcases Nat.lt_or_ge t (ds.length * 4) with h | h
  · rw [flat_atL ds t h, Array.getElem?_toList, Array.getElem?_eq_getElem (by simpa using h)]
    have h1 := get_flatK lnV 4 ds.toArray t (by simpa using h)
    rw [getElem!_pos _ t (by simpa using h)] at h1
    rw [h1]
    congr 3
    have h2 : t / 4 < ds.length := by omega
    simp [List.getD, h2]
  · rw [List.getElem?_eq_none (by simpa using h), List.getElem?_eq_none (by rw [lnsV_length]; exact h)]
section
variable {w : World} {g m : Nat} {dk : Array Ln} {os : Array Obj} {cur : Array Value} {e : TypeId} {fr : Nat × Nat}
theorem heap_sortedL (hb : w.heap[g]? = some (.cells cur e fr)) :
    (sortWorldK lnV 4 w g 0 m dk os).heap[g]? = some (.cells (putCells id 0 (flatK lnV 4 dk) cur) e fr) := by
  have hg : g < w.heap.size := (Array.getElem?_eq_some_iff.1 hb).1
  show (grow (putRow id (Sort.ahead w m) g 0 (flatK lnV 4 dk)) os).heap[g]? = _
  rw [heap_grow_old _ _ (by simpa using hg)]
  simp [putRow, mapBlock, Sort.ahead, Array.getElem?_modify, hb, onCells]
theorem below_sortedL {base : Nat} (hg : base ≤ g) (hgl : g < w.heap.size) : Below base w (sortWorldK lnV 4 w g 0 m dk os) := by
  refine ⟨rfl, rfl, rfl, by simp [sortWorldK, putRowK, putRow, mapBlock, Sort.ahead, grow], fun j hj => ?_⟩
  rcases Nat.lt_or_ge j w.heap.size with h | h
  · show (grow (putRow id (Sort.ahead w m) g 0 (flatK lnV 4 dk)) os).heap[j]? = _
    rw [heap_grow_old _ _ (by simpa using h)]
    have : g ≠ j := by omega
    simp [putRow, mapBlock, Sort.ahead, Array.getElem?_modify, this]
  · omega
theorem take_putCellsL (cur F : Array Value) (h : F.size ≤ cur.size) : (putCells id 0 F cur).toList.take F.size = F.toList := by
  apply List.ext_getElem?
  intro j
  by_cases hj : j < F.size
  · rw [List.getElem?_take_of_lt hj, Array.getElem?_toList, Array.getElem?_toList]
    simp [putCells, hj, show j < cur.size by omega]
  · rw [List.getElem?_take_eq_none (by omega), List.getElem?_eq_none (by simp; omega)]
end
set_option maxHeartbeats 800000 in
theorem sortLn_any {w : World} {base : Nat} {u : Value} {l : List Ln} (h : LOwn w base u l) (hl : l.length ≤ 2147483647) (hdis : (l.map Ln.f).Nodup) (hB : base ≤ w.heap.size) :
    Calls Tryz.prog 132 #[u, .func (.func 133) #[] #[]] w fun e w' => e = .returned (.tuple #[]) ∧ ∃ l' : List Ln, l'.Perm l ∧ l'.Pairwise (fun x y => x.f < y.f) ∧ LOwn w' base u l' ∧ Below base w w' := by
  rcases h.2 with ⟨rfl, h0⟩ | ⟨g, cap, cur, rfl, hb, hg, hc, hcm, hsz, htake⟩
  · obtain rfl := List.eq_nil_of_length_eq_zero h0
    refine (AnyF.slices_SortFunc_none Tryz.sortL none 0 (.func (.func 133) #[] #[]) w).mono ?_
    rintro e w' ⟨rfl, rfl⟩
    exact ⟨rfl, [], List.Perm.refl _, List.Pairwise.nil, h, Below.refl _ _⟩
  · have hflat := flatK_listL l
    have hcell : ∀ k u, (lnsV l)[k]? = some u → w.cell? ⟨g, k, none⟩ = some u := fun k u hu => by
      have hk := (List.getElem?_eq_some_iff.1 hu).1
      rw [lnsV_length] at hk
      rw [cell_of_row w g k cur _ (0, 0) hg, ← hu, ← htake, List.getElem?_take, if_pos (by omega)]
      simp
    have hH : HoldsK lnV 4 w g 0 l.toArray := by
      intro j hj
      have e : (lnsV l)[j]? = some ((flatK lnV 4 l.toArray)[j]!) := by
        rw [← hflat, Array.getElem?_toList, Array.getElem?_eq_getElem hj, getElem!_pos _ j hj]
      refine ⟨?_, ?_⟩
      · rw [Nat.zero_add]; exact hcell _ _ e
      · rw [Nat.zero_add]; exact frozen_of_row w g _ _ _ hg
    have eg : ∀ args w, (callFunc 133 args).run Tryz.prog w = .ok (.enter 133 args) w := enters_of Tryz.func133 (by kernel_rfl) rfl
    have hcon := AnyQ.slices_SortFunc Tryz.sortL 4 Tryz.isAgg30 Tryz.sizeOf30 lnV (fun _ => rfl) (fun x v hv => lnsV_one [x] v (by simpa [lnsV] using hv)) cmpLn swoL 133 #[] g 0 cap l.toArray w eg (cmpLaysLn g _ w) hH (Array.getElem?_eq_some_iff.1 hg).1 (by simp; omega)
    change Calls Tryz.prog 132 _ _ _ at hcon
    have hsz0 : l.toArray.size = l.length := by simp
    rw [hsz0] at hcon
    refine hcon.mono ?_
    rintro e w' ⟨rfl, d', m, os, hp, hsd, rfl⟩
    have hd'n : d'.size = l.length := by rw [hp.1]; exact hsz0
    have hperm : d'.toList.Perm l := by
      have h3 := hp.2.2
      have a1 : d'.extract 0 l.length = d' := by rw [← hd'n]; simp
      have a2 : l.toArray.extract 0 l.length = l.toArray := by rw [← hsz0]; simp
      rw [a1, a2] at h3
      simpa using h3
    have hlen : d'.toList.length = l.length := by simpa using hd'n
    refine ⟨rfl, d'.toList, hperm, ?_, ?_, below_sortedL hb (Array.getElem?_eq_some_iff.1 hg).1⟩
    · have hnd : (d'.toList.map Ln.f).Nodup := (hperm.map _).nodup_iff.2 hdis
      rw [List.nodup_iff_pairwise_ne, List.pairwise_map] at hnd
      refine List.pairwise_iff_getElem.2 fun i j hi hj hij => ?_
      have hne := List.pairwise_iff_getElem.1 hnd i j hi hj hij
      simp only [Array.length_toList] at hi hj
      have hs := hsd i j (Nat.zero_le _) hij (by omega)
      simp only [ltOf, decide_eq_false_iff_not] at hs
      simp only [Array.getElem_toList] at hne ⊢
      rw [getElem!_pos d' i hi, getElem!_pos d' j hj] at hs
      by_cases a : d'[i].f < d'[j].f
      · exact a
      · exact absurd ((cmpZ_lt _ _).2 (show d'[j].f < d'[i].f by omega)) hs
    · have hfs : (flatK lnV 4 d').size = l.length * 4 := by rw [size_flatK, hd'n]
      refine ⟨by rw [lnsV_length], Or.inr ⟨g, cap, _, by rw [hlen], hb, heap_sortedL hg, by rw [hlen]; exact hc, hcm, by simpa [putCells] using hsz, ?_⟩⟩
      have hfl := flatK_listL d'.toList
      rw [Array.toArray_toList] at hfl
      rw [hlen, ← hfl, ← hfs]
      exact take_putCellsL _ _ (by rw [hfs, hsz]; omega)
end Go.Proofs.YtilhcchnlbdlhaaGreat

/-
  Contracts of lines.Funds and lines.Equal. Condition: fewer than 2^31 lines.
-/
namespace Go.Proofs.YtilhcchnlbdlhaaGreat
open Go.RowKit Go.Maps
set_option maxRecDepth 100000
set_option linter.unusedVariables false

/-- What has come of a map so far: ps, each fund once, those that are no longer to come. -/
def CameF (L : FL) (left : Int → Bool) (ps : FL) : Prop := ps.Nodup ∧ ∀ q, q ∈ ps ↔ q ∈ L ∧ left q.1 = false
theorem mapF_some {L : FL} {x : Int} {v : Value} (h : mapF L x = some v) : ∃ s, v = .int .i64 s ∧ lookF L x = some s := by
  unfold mapF at h
  obtain ⟨s, h1, h2⟩ := Option.map_eq_some_iff.1 h
  exact ⟨s, h2.symm, h1⟩
theorem CameF.start {L : FL} (h : RiseF L) : CameF L (fun x => (mapF L x).isSome) [] := ⟨List.nodup_nil, fun q => ⟨fun h => (by cases h), fun ⟨h1, h3⟩ => by
  have h4 : (mapF L q.1).isSome = false := h3
  unfold mapF at h4
  rw [h.look h1] at h4
  cases h4⟩⟩
theorem CameF.step {L : FL} {x s : Int} {left : Int → Bool} {ps : FL} (h : CameF L left ps) (hL : RiseF L) (hx : lookF L x = some s) (hl : left x = true) : CameF L (fun z => left z && !decide (z = x)) (ps ++ [(x, s)]) := by
  obtain ⟨h1, h2⟩ := h
  have hno : (x, s) ∉ ps := fun hm => by
    have := ((h2 _).1 hm).2
    rw [hl] at this
    cases this
  refine ⟨?_, fun q => ?_⟩
  · rw [List.nodup_append]
    refine ⟨h1, List.nodup_cons.2 ⟨by simp, List.nodup_nil⟩, fun a ha b hb e => ?_⟩
    obtain rfl := List.mem_singleton.1 hb
    rw [e] at ha
    exact hno ha
  · rw [List.mem_append, List.mem_singleton, h2 q]
    constructor
    · rintro (⟨a, c⟩ | rfl)
      · exact ⟨a, by show (left q.1 && _) = false; rw [c]; rfl⟩
      · exact ⟨lookF_mem hx, by simp⟩
    · rintro ⟨a, c⟩
      by_cases e : q.1 = x
      · right
        have h3 := hL.look a
        rw [e, hx] at h3
        exact Prod.ext e (Option.some.inj h3).symm
      · left
        refine ⟨a, ?_⟩
        have : decide (q.1 = x) = false := by simpa using e
        have c' : (left q.1 && !decide (q.1 = x)) = false := c
        rw [this] at c'
        simpa using c'
theorem CameF.done {L : FL} {left : Int → Bool} {ps : FL} (h : CameF L left ps) (hL : RiseF L) (h0 : ∀ x, left x = false) : ps.Perm L := by
  obtain ⟨h1, h2⟩ := h
  refine (List.perm_ext_iff_of_nodup h1 hL.nodup).2 fun q => ?_
  rw [h2 q]
  exact ⟨fun ⟨a, _⟩ => a, fun a => ⟨a, h0 _⟩⟩
theorem rise_fundLn {L : FL} (h : RiseF L) : (L.map fundLn).Pairwise (fun x y => x.f < y.f) := by
  rw [List.pairwise_map]
  exact h
theorem fundLn_ok {L : FL} (h : ∀ p ∈ L, B64 p.1 ∧ B64 p.2) : ∀ x ∈ L.map fundLn, LnOk x := by
  intro x hx
  obtain ⟨p, hp, rfl⟩ := List.mem_map.1 hx
  exact ⟨(h p hp).1, by show B64 0; unfold B64; omega, by show B64 0; unfold B64; omega, (h p hp).2⟩

section
variable {w w' : World} {A : Option Addr} {n k B : Nat} {l : List Ln}
set_option maxHeartbeats 800000 in
theorem funds_any (hr : RL w B A n l) (hB : B ≤ w.heap.size) (hn : n ≤ 2147483647) :
    Calls Tryz.prog 108 #[.slice A n k] w fun e w' => ∃ u, e = .returned u ∧ LOwn w' w.heap.size u ((fundsOf l).map fundLn) ∧ Below w.heap.size w w' := by
  have HS := Lib.hid (sums_any (k := k) hr hB hn)
  have HR := Lib.hid (And.intro (fundsOf_rise l) (And.intro (fundsOf_in l hr.ok) (show (fundsOf l).length ≤ n by rw [← hr.len]; exact fundsOf_len l)))
  generalize fundsOf l = L at HS HR ⊢
  clear hr hB
  go_enter Tryz.func108, Tryz.ntmps108
  go_wp2_with fail
  refine HS.out.mono ?_
  rintro e w1 ⟨m, rfl, hm0, hm, hb1⟩
  obtain ⟨w2, cnt0, hrange, hR0, hcnt0, hg0, hs0⟩ := hm.range Tryz.underlying184
  have hb2 : Below w1.heap.size w1 w2 := (Below.refl _ _).grown hg0 (Nat.le_refl _) (fun k h => by cases h)
  have hml := hm.lt
  obtain ⟨r, hrr⟩ : ∃ r, r = w1.heap.size := ⟨_, rfl⟩
  have hst : IRange w2 m w1.heap.size n (mapF L) (fun x => (mapF L x).isSome) cnt0 ∧ LOwn w2 (w1.heap.size + 1) (.slice none 0 0) (([] : FL).map fundLn) ∧ CameF L (fun x => (mapF L x).isSome) [] ∧ Below w1.heap.size w1 w2 ∧ ([] : FL).length + cnt0 ≤ n := ⟨hR0, LOwn.start _ _, CameF.start HR.out.1, hb2, by simpa using hcnt0⟩
  have H0 := Lib.hid hst
  have HB1 := Lib.hid (And.intro hb1 (And.intro hm0 hml))
  rw [← hrr] at hrange H0
  have HRR := Lib.hid hrr
  clear hm hm0 hb1 hR0 hcnt0 hg0 hs0 hb2 hml hst HS hrr
  go_wp2_with fail
  go_loopw [3] (fun u wr => ∃ (left : Int → Bool) (cnt : Nat) (ps : FL), Hid (IRange wr m r n (mapF L) left cnt ∧ LOwn wr (r + 1) u (ps.map fundLn) ∧ CameF L left ps ∧ Below r w1 wr ∧ ps.length + cnt ≤ n)) (fun _ wr => wr.rangeLeft m r)
  case atStart => exact ⟨_, _, _, H0⟩
  case round =>
    obtain ⟨left, cnt, ps, HRW⟩ := hrel
    obtain ⟨hR, hrow, hC, hbel, hcnt⟩ := HRW.out
    obtain ⟨PA, PK, hu, _⟩ := hrow.shape
    rw [List.length_map] at hu
    subst hu
    rcases hR.next 0 with ⟨h0, hl0, hnext⟩ | ⟨x, y, w3, cnt1, hxl, hlx, hfx, hnext, hR1, hlt, hg1, hs1, hen⟩
    · have hperm := hC.done HR.out.1 hl0
      have hsort := sortLn_any hrow (by rw [List.length_map]; omega) (by
        have h1 : ((L.map fundLn).map Ln.f).Nodup := by
          rw [List.nodup_iff_pairwise_ne, List.pairwise_map]
          exact (rise_fundLn HR.out.1).imp fun {a b} h e => by omega
        exact ((hperm.map fundLn).map Ln.f).nodup_iff.2 h1) (by have := hR.lt; omega)
      have HSO := Lib.hid hsort
      have HFIN := Lib.hid (And.intro (hperm.map fundLn) (And.intro hbel hR.lt))
      clear hR hrow hC hbel hl0 hsort hperm HRW
      go_wp2_with fail
      refine HSO.out.mono ?_
      rintro e w4 ⟨rfl, l', hp, hrise, hown, hb4⟩
      obtain ⟨g1, g2, g3⟩ := HFIN.out
      have he : l' = L.map fundLn := (hp.trans g1).eq_of_pairwise (fun a b _ _ h h' => by omega) hrise (rise_fundLn HR.out.1)
      subst he
      have HE := Lib.hid (And.intro (hown.base_le (b := w.heap.size) (by have := HB1.out.1.size; have := HRR.out; omega)) (HB1.out.1.trans ((g2.trans (hb4.mono (by omega))).mono (by have := HB1.out.1.size; have := HRR.out; omega))))
      clear hp hrise hown hb4 g1 g2 g3
      go_wp2
      go_ret
      exact ⟨_, rfl, HE.out⟩
    · have hrs : r < wr.heap.size := hR.lt
      have hbel1 : Below r w1 w3 := hbel.grown hg1 (by have := hbel.size; rw [HRR.out]; exact this) (fun k e => by injection e with e; omega)
      obtain ⟨s, rfl, hls⟩ := mapF_some hfx
      have hin := HR.out.2.1 _ (lookF_mem hls)
      have hno : ∀ g, (Value.slice PA ps.length PK).ownBlock = some g → w3.heap[g]? = wr.heap[g]? := fun g hg => hg1.block g (hrow.at_ g hg).2 (fun e => by injection e with e; have := (hrow.at_ g hg).1; omega)
      have hrow1 := hrow.stays hno
      have hC1 := hC.step HR.out.1 hls hlx
      have hb4 : Below w3.heap.size w3 (w3.alloc (.cells #[.int .i64 x, .int .i64 0, .int .i64 0, .int .i64 s] 30 (0, 0))) := (Below.refl _ _).alloc (Nat.le_refl _) _
      obtain ⟨v', w6, hrun, hown6, hb6, _⟩ := (hrow1.below hb4).append1 (x := fundLn (x, s)) (heap_alloc_new _ _) ⟨hin.1, by show B64 0; unfold B64; omega, by show B64 0; unfold B64; omega, hin.2⟩ (by rw [List.length_map]; omega) (by have := hb4.size; omega) 28
      have hb36 : Below (r + 1) w3 w6 := (hb4.mono (by omega)).trans hb6
      have hR6 := hR1.keep (hb36.block m (by have := HB1.out.2.2; have := HRR.out; omega)) (hb36.block r (by omega))
      have HN := Lib.hid (show IRange w6 m r n (mapF L) (fun z => left z && !decide (z = x)) cnt1 ∧ LOwn w6 (r + 1) v' ((ps ++ [(x, s)]).map fundLn) ∧ CameF L (fun z => left z && !decide (z = x)) (ps ++ [(x, s)]) ∧ Below r w1 w6 ∧ (ps ++ [(x, s)]).length + cnt1 ≤ n from
        ⟨hR6, by rw [List.map_append]; exact hown6, hC1, hbel1.trans (hb36.mono (by omega)), by rw [List.length_append]; simp; omega⟩)
      have HLT := Lib.hid (And.intro hlt (And.intro hR.left_eq hR6.left_eq))
      have HRUN := Lib.hid hrun
      clear hR hrow hC hbel hcnt hR1 hrow1 hg1 hs1 hlt hC1 hb4 hrun hown6 hb6 hb36 hR6 hfx hls hno hbel1 HRW
      go_wp2_with (at_builtin; refine Lib.wpList_append_run _ rfl _ _ _ _ rfl _ _ rfl rfl _ _ HRUN.out ?_)
      go_roundw
      case rel => exact ⟨_, _, _, HN⟩
      case measure => obtain ⟨q1, q2, q3⟩ := HLT.out; rw [q2, q3]; exact q1
end
end Go.Proofs.YtilhcchnlbdlhaaGreat

/-
  Two lines compared, and the library's slices.Equal over lines. Condition: slices of any length that memory has.
-/
namespace Go.Proofs.YtilhcchnlbdlhaaGreat
open Go.RowKit Go.Maps
set_option maxRecDepth 100000
set_option linter.unusedVariables false

theorem below_drewL {B : Nat} {w w' : World} (h : Below B w w') : ∀ n, Below B w (w'.drewN n) := fun n => ⟨h.os, h.tape, h.output, h.size, h.block⟩
theorem ln_ext {x y : Ln} (h1 : x.f = y.f) (h2 : x.o = y.o) (h3 : x.n = y.n) (h4 : x.a = y.a) : x = y := by
  cases x; cases y; simp_all
instance lnDec : DecidableEq Ln := fun x y =>
  if h : x.f = y.f ∧ x.o = y.o ∧ x.n = y.n ∧ x.a = y.a then isTrue (ln_ext h.1 h.2.1 h.2.2.1 h.2.2.2) else isFalse fun e => h (by rw [e]; exact ⟨rfl, rfl, rfl, rfl⟩)

/-- Two lines compared, as the program compares them. -/
theorem same_line (x y : Ln) (W : World) : (Op.equalIn 10000 30 (.agg #[.int .i64 x.f, .int .i64 x.o, .int .i64 x.n, .int .i64 x.a]) (.agg #[.int .i64 y.f, .int .i64 y.o, .int .i64 y.n, .int .i64 y.a])).run Tryz.prog W = .ok (decide (x = y)) W := by
  have u3 := Tryz.underlying3
  have a3 := Tryz.isAgg3
  have z3 := Tryz.sizeOf3
  have hS : Tryz.prog.underlying 30 = some (.struct (Tryz.prog.fieldsOf 30)) := by kernel_rfl
  have hp : Tryz.prog.stoodInHeld 30 = false := by kernel_rfl
  have hd : decide (x = y) = (x.f == y.f && x.o == y.o && x.n == y.n && x.a == y.a) := by
    by_cases e : x = y
    · subst e; simp
    · have : ¬ (x.f = y.f ∧ x.o = y.o ∧ x.n = y.n ∧ x.a = y.a) := fun h => e (ln_ext h.1 h.2.1 h.2.2.1 h.2.2.2)
      rw [decide_eq_false e, Eq.comm, Bool.eq_false_iff]
      intro h
      simp only [Bool.and_eq_true, beq_iff_eq] at h
      exact this ⟨h.1.1.1, h.1.1.2, h.1.2, h.2⟩
  rw [hd, show (10000 : Nat) = 9999 + 1 from rfl, run_equalIn_agg W 9999 30 _ _ hS hp]
  simp only [Program.fieldsOf, Tryz.underlying30]
  go_simp
  by_cases h1 : x.f = y.f <;> by_cases h2 : x.o = y.o <;> by_cases h3 : x.n = y.n <;> by_cases h4 : x.a = y.a <;> simp [h1, h2, h3, h4]

section
variable {w w' : World} {A A' : Option Addr} {n m k B B' : Nat} {l l' : List Ln}
end
end Go.Proofs.YtilhcchnlbdlhaaGreat

/-
  Contract of lines.Equal. Condition: fewer than 2^31 lines.
-/
namespace Go.Proofs.YtilhcchnlbdlhaaGreat
open Go.RowKit Go.Maps
set_option maxRecDepth 100000
set_option linter.unusedVariables false

section
variable {w w' : World} {A A' : Option Addr} {n m k B B' : Nat} {l l' : List Ln}
end
end Go.Proofs.YtilhcchnlbdlhaaGreat
