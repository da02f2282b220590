/-
  The library's slices.SortFunc over lines with Funds' comparison, by contract: the lines, rising by their funds. Conditions: fewer than 2^62 lines, no fund twice.
-/
import Derived.Test.YtccibahlcpkiaaaLinA
import Derived.Test.YtccibahlcpkiaaaSortL
namespace Go.Proofs.Ytccibahlcpkiaaa
open Go.RowKit Go.Maps Go.Sort Go.Shelf
set_option maxRecDepth 100000
set_option linter.unusedVariables false

instance lnInh : Inhabited Ln := ⟨⟨0, 0, 0, 0⟩⟩
def cmpZ (x y : Int) : Int := if x < y then -1 else if y < x then 1 else 0
def cmpLn (x y : Ln) : Int := cmpZ x.f y.f
theorem cmpZ_lt (x y : Int) : cmpZ x y < 0 ↔ x < y := by
  unfold cmpZ
  split
  · simp; omega
  · split
    · simp; omega
    · simp; omega

set_option maxHeartbeats 400000 in
theorem isNaNZ_any (x : Int) (w : World) : Calls Try.prog 25 #[.int .i64 x] w fun e w' => e = .returned (.bool false) ∧ w = w' := by
  go_enter Try.func25, Try.ntmps25
  go_wp2
  go_ret
  exact ⟨rfl, rfl⟩
set_option maxHeartbeats 800000 in
theorem cmpZ_any (x y : Int) (w : World) : Calls Try.prog 21 #[.int .i64 x, .int .i64 y] w fun e w' => e = .returned (.int .i64 (cmpZ x y)) ∧ w = w' := by
  have HX := Lib.hid (isNaNZ_any x)
  have HY := Lib.hid (isNaNZ_any y)
  unfold cmpZ
  by_cases h1 : x < y
  · rw [if_pos h1]
    go_enter Try.func21, Try.ntmps21
    go_wp2_with fail
    refine (HX.out _).mono ?_
    rintro e w1 ⟨rfl, rfl⟩
    go_wp2_with fail
    refine (HY.out _).mono ?_
    rintro e w1 ⟨rfl, rfl⟩
    go_wp2
    go_ret
    exact ⟨rfl, rfl⟩
  · rw [if_neg h1]
    by_cases h2 : y < x
    · rw [if_pos h2]
      go_enter Try.func21, Try.ntmps21
      go_wp2_with fail
      refine (HX.out _).mono ?_
      rintro e w1 ⟨rfl, rfl⟩
      go_wp2_with fail
      refine (HY.out _).mono ?_
      rintro e w1 ⟨rfl, rfl⟩
      go_wp2
      go_ret
      exact ⟨rfl, rfl⟩
    · rw [if_neg h2]
      go_enter Try.func21, Try.ntmps21
      go_wp2_with fail
      refine (HX.out _).mono ?_
      rintro e w1 ⟨rfl, rfl⟩
      go_wp2_with fail
      refine (HY.out _).mono ?_
      rintro e w1 ⟨rfl, rfl⟩
      go_wp2
      go_ret
      exact ⟨rfl, rfl⟩
set_option maxHeartbeats 800000 in
/-- The comparison. -/
theorem cmpLn_any (W : World) (x y : Ln) :
    Calls Try.prog 20 #[.agg #[.int .i64 x.f, .int .i64 x.o, .int .i64 x.n, .int .i64 x.a], .agg #[.int .i64 y.f, .int .i64 y.o, .int .i64 y.n, .int .i64 y.a]] W fun e w' => e = .returned (.int .i64 (cmpLn x y)) ∧ ∃ q os', w' = grow (W.drewN q) os' := by
  obtain ⟨xf, xo, xn, xa⟩ := x
  obtain ⟨yf, yo, yn, ya⟩ := y
  have HC := Lib.hid (cmpZ_any xf yf)
  unfold cmpLn
  simp only
  generalize cmpZ xf yf = r at HC ⊢
  go_enter Try.func20, Try.ntmps20
  go_wp2_with fail
  refine (HC.out _).mono ?_
  rintro e w' ⟨rfl, rfl⟩
  go_wp2
  go_ret
  exact ⟨rfl, 0, _, by rw [alloc_eq_grow, alloc_eq_grow, grow_grow]; rfl⟩
theorem swoL : SWO (ltOf cmpLn) where
  irrefl x := by
    have : ¬ cmpLn x x < 0 := fun h => by have := (cmpZ_lt _ _).1 h; omega
    simp [ltOf, this]
  trans x y z h1 h2 := by
    simp only [ltOf, decide_eq_true_eq] at *
    have a := (cmpZ_lt _ _).1 h1
    have b := (cmpZ_lt _ _).1 h2
    exact (cmpZ_lt _ _).2 (by omega)
  ntrans x y z h1 h2 := by
    simp only [ltOf, decide_eq_false_iff_not] at *
    intro h3
    have c := (cmpZ_lt _ _).1 h3
    by_cases a : x.f < y.f
    · exact h1 ((cmpZ_lt _ _).2 a)
    · exact h2 ((cmpZ_lt _ _).2 (by omega))
theorem cmpLaysLn (g size : Nat) (w : World) : CmpLays Try.prog 20 #[] lnV 4 cmpLn g 0 size w := by
  intro m os dk hs x y
  exact cmpLn_any _ x y
theorem flat_atL : ∀ (ds : List Ln) (t : Nat), t < ds.length * 4 → (lnsV ds)[t]? = some ((lnV (ds.getD (t / 4) default))[t % 4]!)
  | [], t, h => by simp at h
  | d :: ds, t, h => by
    show (lnV d ++ lnsV ds)[t]? = _
    rcases Nat.lt_or_ge t 4 with h2 | h2
    · have : t = 0 ∨ t = 1 ∨ t = 2 ∨ t = 3 := by omega
      rcases this with rfl | rfl | rfl | rfl <;> rfl
    · have ih := flat_atL ds (t - 4) (by rw [List.length_cons] at h; omega)
      rw [List.getElem?_append_right (show (lnV d).length ≤ t from h2), show t - (lnV d).length = t - 4 from rfl, ih]
      have e1 : t / 4 = (t - 4) / 4 + 1 := by omega
      have e2 : t % 4 = (t - 4) % 4 := by omega
      rw [e1, e2, List.getD_cons_succ]
theorem flatK_listL (ds : List Ln) : (flatK lnV 4 ds.toArray).toList = lnsV ds := by
  apply List.ext_getElem?
  intro t
  rcases Nat.lt_or_ge t (ds.length * 4) with h | h
  · rw [flat_atL ds t h, Array.getElem?_toList, Array.getElem?_eq_getElem (by simpa using h)]
    have h1 := get_flatK lnV 4 ds.toArray t (by simpa using h)
    rw [getElem!_pos _ t (by simpa using h)] at h1
    rw [h1]
    congr 3
    have h2 : t / 4 < ds.length := by omega
    simp [List.getD, h2]
  · rw [List.getElem?_eq_none (by simpa using h), List.getElem?_eq_none (by rw [lnsV_length]; exact h)]
section
variable {w : World} {g m : Nat} {dk : Array Ln} {os : Array Obj} {cur : Array Value} {e : TypeId} {fr : Nat × Nat}
theorem heap_sortedL (hb : w.heap[g]? = some (.cells cur e fr)) :
    (sortWorldK lnV 4 w g 0 m dk os).heap[g]? = some (.cells (putCells id 0 (flatK lnV 4 dk) cur) e fr) := by
  have hg : g < w.heap.size := (Array.getElem?_eq_some_iff.1 hb).1
  show (grow (putRow id (Sort.ahead w m) g 0 (flatK lnV 4 dk)) os).heap[g]? = _
  rw [heap_grow_old _ _ (by simpa using hg)]
  simp [putRow, mapBlock, Sort.ahead, Array.getElem?_modify, hb, onCells]
theorem below_sortedL {base : Nat} (hg : base ≤ g) (hgl : g < w.heap.size) : Below base w (sortWorldK lnV 4 w g 0 m dk os) := by
  refine ⟨rfl, rfl, rfl, by simp [sortWorldK, putRowK, putRow, mapBlock, Sort.ahead, grow], fun j hj => ?_⟩
  rcases Nat.lt_or_ge j w.heap.size with h | h
  · show (grow (putRow id (Sort.ahead w m) g 0 (flatK lnV 4 dk)) os).heap[j]? = _
    rw [heap_grow_old _ _ (by simpa using h)]
    have : g ≠ j := by omega
    simp [putRow, mapBlock, Sort.ahead, Array.getElem?_modify, this]
  · omega
theorem take_putCellsL (cur F : Array Value) (h : F.size ≤ cur.size) : (putCells id 0 F cur).toList.take F.size = F.toList := by
  apply List.ext_getElem?
  intro j
  by_cases hj : j < F.size
  · rw [List.getElem?_take_of_lt hj, Array.getElem?_toList, Array.getElem?_toList]
    simp [putCells, hj, show j < cur.size by omega]
  · rw [List.getElem?_take_eq_none (by omega), List.getElem?_eq_none (by simp; omega)]
end
set_option maxHeartbeats 800000 in
theorem sortLn_any {w : World} {base : Nat} {u : Value} {l : List Ln} (h : LOwn w base u l) (hl : l.length ≤ 2147483647) (hdis : (l.map Ln.f).Nodup) (hB : base ≤ w.heap.size) :
    Calls Try.prog 19 #[u, .func (.func 20) #[] #[]] w fun e w' => e = .returned (.tuple #[]) ∧ ∃ l' : List Ln, l'.Perm l ∧ l'.Pairwise (fun x y => x.f < y.f) ∧ LOwn w' base u l' ∧ Below base w w' := by
  rcases h.2 with ⟨rfl, h0⟩ | ⟨g, cap, cur, rfl, hb, hg, hc, hcm, hsz, htake⟩
  · obtain rfl := List.eq_nil_of_length_eq_zero h0
    refine (AnyF.slices_SortFunc_none Try.sortL none 0 (.func (.func 20) #[] #[]) w).mono ?_
    rintro e w' ⟨rfl, rfl⟩
    exact ⟨rfl, [], List.Perm.refl _, List.Pairwise.nil, h, Below.refl _ _⟩
  · have hflat := flatK_listL l
    have hcell : ∀ k u, (lnsV l)[k]? = some u → w.cell? ⟨g, k, none⟩ = some u := fun k u hu => by
      have hk := (List.getElem?_eq_some_iff.1 hu).1
      rw [lnsV_length] at hk
      rw [cell_of_row w g k cur _ (0, 0) hg, ← hu, ← htake, List.getElem?_take, if_pos (by omega)]
      simp
    have hH : HoldsK lnV 4 w g 0 l.toArray := by
      intro j hj
      have e : (lnsV l)[j]? = some ((flatK lnV 4 l.toArray)[j]!) := by
        rw [← hflat, Array.getElem?_toList, Array.getElem?_eq_getElem hj, getElem!_pos _ j hj]
      refine ⟨?_, ?_⟩
      · rw [Nat.zero_add]; exact hcell _ _ e
      · rw [Nat.zero_add]; exact frozen_of_row w g _ _ _ hg
    have eg : ∀ args w, (callFunc 20 args).run Try.prog w = .ok (.enter 20 args) w := enters_of Try.func20 (by kernel_rfl) rfl
    have hcon := AnyQ.slices_SortFunc Try.sortL 4 Try.isAgg27 Try.sizeOf27 lnV (fun _ => rfl) (fun x v hv => lnsV_one [x] v (by simpa [lnsV] using hv)) cmpLn swoL 20 #[] g 0 cap l.toArray w eg (cmpLaysLn g _ w) hH (Array.getElem?_eq_some_iff.1 hg).1 (by simp; omega)
    change Calls Try.prog 19 _ _ _ at hcon
    have hsz0 : l.toArray.size = l.length := by simp
    rw [hsz0] at hcon
    refine hcon.mono ?_
    rintro e w' ⟨rfl, d', m, os, hp, hsd, rfl⟩
    have hd'n : d'.size = l.length := by rw [hp.1]; exact hsz0
    have hperm : d'.toList.Perm l := by
      have h3 := hp.2.2
      have a1 : d'.extract 0 l.length = d' := by rw [← hd'n]; simp
      have a2 : l.toArray.extract 0 l.length = l.toArray := by rw [← hsz0]; simp
      rw [a1, a2] at h3
      simpa using h3
    have hlen : d'.toList.length = l.length := by simpa using hd'n
    refine ⟨rfl, d'.toList, hperm, ?_, ?_, below_sortedL hb (Array.getElem?_eq_some_iff.1 hg).1⟩
    · have hnd : (d'.toList.map Ln.f).Nodup := (hperm.map _).nodup_iff.2 hdis
      rw [List.nodup_iff_pairwise_ne, List.pairwise_map] at hnd
      refine List.pairwise_iff_getElem.2 fun i j hi hj hij => ?_
      have hne := List.pairwise_iff_getElem.1 hnd i j hi hj hij
      simp only [Array.length_toList] at hi hj
      have hs := hsd i j (Nat.zero_le _) hij (by omega)
      simp only [ltOf, decide_eq_false_iff_not] at hs
      simp only [Array.getElem_toList] at hne ⊢
      rw [getElem!_pos d' i hi, getElem!_pos d' j hj] at hs
      by_cases a : d'[i].f < d'[j].f
      · exact a
      · exact absurd ((cmpZ_lt _ _).2 (show d'[j].f < d'[i].f by omega)) hs
    · have hfs : (flatK lnV 4 d').size = l.length * 4 := by rw [size_flatK, hd'n]
      refine ⟨by rw [lnsV_length], Or.inr ⟨g, cap, _, by rw [hlen], hb, heap_sortedL hg, by rw [hlen]; exact hc, hcm, by simpa [putCells] using hsz, ?_⟩⟩
      have hfl := flatK_listL d'.toList
      rw [Array.toArray_toList] at hfl
      rw [hlen, ← hfl, ← hfs]
      exact take_putCellsL _ _ (by rw [hfs, hsz]; omega)
end Go.Proofs.Ytccibahlcpkiaaa
