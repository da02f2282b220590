/-
  The library's slices.Reverse over additions, by its contract. Condition: fewer than 2^31 of them.
-/
import Derived.Test.YtihjlhegcoceoaaGreatBalD
import Derived.Test.YtihjlhegcoceoaaGreatRevD
namespace Go.Proofs.YtihjlhegcoceoaaGreat
open Go.RowKit Go.Maps Go.Sort Go.Shelf
set_option maxRecDepth 100000
set_option linter.unusedVariables false

instance doInh : Inhabited Do25 := ⟨⟨0, 0, 0, 0, 0⟩⟩
theorem flat_atD : ∀ (ds : List Do25) (t : Nat), t < ds.length * 5 → (dosV ds)[t]? = some ((doV (ds.getD (t / 5) default))[t % 5]!)
  | [], t, h => by simp at h
  | d :: ds, t, h => by
    show (doV d ++ dosV ds)[t]? = _
    rcases Nat.lt_or_ge t 5 with h2 | h2
    · have : t = 0 ∨ t = 1 ∨ t = 2 ∨ t = 3 ∨ t = 4 := by omega
      rcases this with rfl | rfl | rfl | rfl | rfl <;> rfl
    · have ih := flat_atD ds (t - 5) (by rw [List.length_cons] at h; omega)
      rw [List.getElem?_append_right (show (doV d).length ≤ t from h2), show t - (doV d).length = t - 5 from rfl, ih]
      have e1 : t / 5 = (t - 5) / 5 + 1 := by omega
      have e2 : t % 5 = (t - 5) % 5 := by omega
      rw [e1, e2, List.getD_cons_succ]
theorem flatK_listD (ds : List Do25) : (flatK doV 5 ds.toArray).toList = dosV ds := by
  apply List.ext_getElem?
  intro t
  rcases Nat.lt_or_ge t (ds.length * 5) with h | h
  · rw [flat_atD ds t h, Array.getElem?_toList, Array.getElem?_eq_getElem (by simpa using h)]
    have h1 := get_flatK doV 5 ds.toArray t (by simpa using h)
    rw [getElem!_pos _ t (by simpa using h)] at h1
    rw [h1]
    congr 3
    have h2 : t / 5 < ds.length := by omega
    simp [List.getD, h2]
  · rw [List.getElem?_eq_none (by simpa using h), List.getElem?_eq_none (by rw [dosV_length]; exact h)]
theorem take_putCellsD (cur F : Array Value) (h : F.size ≤ cur.size) : (putCells id 0 F cur).toList.take F.size = F.toList := by
  apply List.ext_getElem?
  intro j
  by_cases hj : j < F.size
  · rw [List.getElem?_take_of_lt hj, Array.getElem?_toList, Array.getElem?_toList]
    simp [putCells, hj, show j < cur.size by omega]
  · rw [List.getElem?_take_eq_none (by omega), List.getElem?_eq_none (by simp; omega)]
section
variable {w w' : World} {base : Nat} {l : List Do25}
theorem revDo_any {u : Value} (h : DOwn w base u l) (hl : l.length ≤ 2147483647) (hB : base ≤ w.heap.size) :
    Calls Tryz.prog 7 #[u] w fun e w' => e = .returned (.tuple #[]) ∧ DOwn w' base u l.reverse ∧ Below base w w' ∧ w'.heap.size = w.heap.size ∧ ∀ j, u.ownBlock ≠ some j → w'.heap[j]? = w.heap[j]? := by
  rcases h.2 with ⟨rfl, h0⟩ | ⟨g, cap, cur, rfl, hb, hg, hc, hcm, hsz, htake⟩
  · obtain rfl := List.eq_nil_of_length_eq_zero h0
    refine (AnyQ.slices_Reverse_empty Tryz.revD none 0 w).mono ?_
    rintro e w' ⟨rfl, rfl⟩
    exact ⟨rfl, h, Below.refl _ _, rfl, fun _ _ => rfl⟩
  · have hflat := flatK_listD l
    have hcell : ∀ k u, (dosV l)[k]? = some u → w.cell? ⟨g, k, none⟩ = some u := fun k u hu => by
      have hk := (List.getElem?_eq_some_iff.1 hu).1
      rw [dosV_length] at hk
      rw [cell_of_row w g k cur _ (0, 0) hg, ← hu, ← htake, List.getElem?_take, if_pos (by omega)]
      simp
    have hH : HoldsK doV 5 w g 0 l.toArray := by
      intro j hj
      have e : (dosV l)[j]? = some ((flatK doV 5 l.toArray)[j]!) := by
        rw [← hflat, Array.getElem?_toList, Array.getElem?_eq_getElem hj, getElem!_pos _ j hj]
      refine ⟨?_, ?_⟩
      · rw [Nat.zero_add]; exact hcell _ _ e
      · rw [Nat.zero_add]; exact frozen_of_row w g _ _ _ hg
    have hcon := AnyQ.slices_Reverse Tryz.revD 5 Tryz.isAgg29 Tryz.sizeOf29 doV (fun _ => rfl) (fun x v hv => dosV_one [x] v (by simpa [dosV] using hv)) g 0 cap l.toArray w hH (by simp; omega)
    change Calls Tryz.prog 7 _ _ _ at hcon
    have hsz0 : l.toArray.size = l.length := by simp
    rw [hsz0] at hcon
    refine hcon.mono ?_
    rintro e w' ⟨rfl, m, rfl⟩
    have hgl : g < w.heap.size := (Array.getElem?_eq_some_iff.1 hg).1
    have hrev : l.toArray.reverse = l.reverse.toArray := by simp
    rw [hrev]
    have hfs : (flatK doV 5 l.reverse.toArray).size = l.length * 5 := by rw [size_flatK]; simp
    have hheap : (putRowK doV 5 (Sort.ahead w m) g 0 l.reverse.toArray).heap[g]? = some (.cells (putCells id 0 (flatK doV 5 l.reverse.toArray) cur) 29 (0, 0)) := by
      simp [putRowK, putRow, mapBlock, Sort.ahead, Array.getElem?_modify, hg, onCells]
    refine ⟨rfl, ⟨by rw [dosV_length], Or.inr ⟨g, cap, _, by rw [List.length_reverse], hb, hheap, by rw [List.length_reverse]; exact hc, hcm, by simpa [putCells] using hsz, ?_⟩⟩, ⟨rfl, rfl, rfl, by simp [putRowK, putRow, mapBlock, Sort.ahead], fun j hj => ?_⟩, (by simp [putRowK, putRow, mapBlock, Sort.ahead]), fun j hj => ?_⟩
    · have hfl := flatK_listD l.reverse
      rw [List.length_reverse, ← hfl, ← hfs]
      exact take_putCellsD _ _ (by rw [hfs, hsz]; omega)
    · have : g ≠ j := by omega
      simp [putRowK, putRow, mapBlock, Sort.ahead, Array.getElem?_modify, this]
    · have : g ≠ j := fun e => hj (by simp [Value.ownBlock, e])
      simp [putRowK, putRow, mapBlock, Sort.ahead, Array.getElem?_modify, this]
end
end Go.Proofs.YtihjlhegcoceoaaGreat
