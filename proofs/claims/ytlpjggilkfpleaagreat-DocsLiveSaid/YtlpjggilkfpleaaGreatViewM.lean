/-
  The library's slices.SortFunc over pairs with Scan's second closure, by contract: the pairs, rising by their keys. Condition: fewer than 2^32 pairs, no key twice.
-/
import Derived.Test.YtlpjggilkfpleaaGreatViewL
import Derived.Test.YtlpjggilkfpleaaGreatSortP
namespace Go.Proofs.YtlpjggilkfpleaaGreat
open Go.RowKit Go.Maps Go.Sort Go.Shelf
set_option maxRecDepth 100000
set_option linter.unusedVariables false

section
variable {w w' : World} {Y : Nat → Prop} {g n cap base : Nat}

set_option maxHeartbeats 800000 in
/-- The comparison. -/
theorem cmpP_any (W : World) {A1 A2 B1 B2 : Option Addr} {n1 k1 n2 k2 m1 l1 m2 l2 B B' : Nat} {x y : List Int} (hx : RB W B A1 n1 x) (hy : RB W B' B1 m1 y) (hB : B ≤ W.heap.size) (hB' : B' ≤ W.heap.size) :
    Calls Tryz.prog 105 #[.agg #[.slice A1 n1 k1, .slice A2 n2 k2], .agg #[.slice B1 m1 l1, .slice B2 m2 l2]] W fun e w' => e = .returned (.int .i64 (Lib.compareBytes (tx x) (tx y))) ∧ ∃ q os', w' = grow (W.drewN q) os' := by
  have hb1 : Below W.heap.size W (W.alloc (.cells #[.slice A1 n1 k1, .slice A2 n2 k2] 88 (0, 0))) := (Below.refl _ _).alloc (Nat.le_refl _) _
  have hb2 : Below W.heap.size W ((W.alloc (.cells #[.slice A1 n1 k1, .slice A2 n2 k2] 88 (0, 0))).alloc (.cells #[.slice B1 m1 l1, .slice B2 m2 l2] 88 (0, 0))) := hb1.alloc hb1.size _
  have HC := Lib.hid (bcmp_any k1 l1 (hx.below (hb2.mono hB)) (hy.below (hb2.mono hB')))
  generalize Lib.compareBytes (tx x) (tx y) = r at HC ⊢
  clear hx hy hb1 hb2
  go_enter Tryz.func105, Tryz.ntmps105
  go_wp2_with fail
  refine HC.out.mono ?_
  rintro e w' ⟨rfl, rfl⟩
  go_wp2
  go_ret
  exact ⟨rfl, 0, _, by rw [alloc_eq_grow, alloc_eq_grow, grow_grow]; rfl⟩

/-- A pair with its cells, as it lies apart from the blocks Y. -/
def SP (w : World) (Y : Nat → Prop) : Type := { p : Value × Value × (Txt × List Int) // SV w Y p.1 (by_ p.2.2.1) ∧ SV w Y p.2.1 p.2.2.2 }
instance spInh (w : World) (Y : Nat → Prop) : Inhabited (SP w Y) := ⟨⟨(.slice none 0 0, .slice none 0 0, [], []), SV.nil_ _ _ _, SV.nil_ _ _ _⟩⟩
def encP {w : World} {Y : Nat → Prop} (p : SP w Y) : List Value := [p.1.1, p.1.2.1]
def pairP {w : World} {Y : Nat → Prop} (p : SP w Y) : Txt × List Int := p.1.2.2
def cmpP {w : World} {Y : Nat → Prop} (p q : SP w Y) : Int := Lib.compareBytes (pairP p).1 (pairP q).1
theorem swoP (w : World) (Y : Nat → Prop) : SWO (ltOf (cmpP (w := w) (Y := Y))) where
  irrefl x := by
    have : ¬ cmpP x x < 0 := fun h => tlt_irrefl _ ((cmpB_lt _ _).1 h)
    simp [ltOf, this]
  trans x y z h1 h2 := by
    simp only [ltOf, decide_eq_true_eq] at *
    exact (cmpB_lt _ _).2 (tlt_trans ((cmpB_lt _ _).1 h1) ((cmpB_lt _ _).1 h2))
  ntrans x y z h1 h2 := by
    simp only [ltOf, decide_eq_false_iff_not] at *
    intro h3
    have h3' := (cmpB_lt _ _).1 h3
    rcases tlt_tri (pairP x).1 (pairP y).1 with a | a | a
    · exact h1 ((cmpB_lt _ _).2 a)
    · rw [a] at h3'
      exact h2 ((cmpB_lt _ _).2 h3')
    · exact h2 ((cmpB_lt _ _).2 (tlt_trans a h3'))

theorem sortW_touch {α : Type} [Inhabited α] (enc : α → List Value) (k m : Nat) (w : World) (dk : Array α) (os : Array Obj) : Touch (fun k => k = g) w (sortWorldK enc k w g 0 m dk os) := by
  refine ⟨rfl, rfl, rfl, by simp [sortWorldK, putRowK, putRow, mapBlock, Sort.ahead, grow], fun j hj hne => ?_⟩
  show (grow (putRow id (Sort.ahead w m) g 0 (flatK enc k dk)) os).heap[j]? = _
  rw [heap_grow_old _ _ (by simpa using hj)]
  have : g ≠ j := fun e => hne e.symm
  simp [putRow, mapBlock, Sort.ahead, Array.getElem?_modify, this]

theorem cmpLaysP (hY : Y g) (size : Nat) : CmpLays Tryz.prog 105 #[] (encP (w := w) (Y := Y)) 2 cmpP g 0 size w := by
  intro m os dk hs x y
  have ht := sortW_touch (g := g) (encP (w := w) (Y := Y)) 2 m w dk os
  have hk : ∀ k, k < w.heap.size → ¬ Y k → (sortWorldK (encP (w := w) (Y := Y)) 2 w g 0 m dk os).heap[k]? = w.heap[k]? := fun k hk hy => ht.block k hk fun e => hy (by rw [e]; exact hY)
  obtain ⟨⟨x1, x2, xk⟩, hx1, hx2⟩ := x
  obtain ⟨⟨y1, y2, yk⟩, hy1, hy2⟩ := y
  have hx1' := hx1.keep ht.size (fun _ _ h => h) hk
  have hy1' := hy1.keep ht.size (fun _ _ h => h) hk
  obtain ⟨A1, n1, k1, e1, _, _, r1, _⟩ := hx1'
  obtain ⟨A2, n2, k2, e2⟩ := hx2.slice
  obtain ⟨B1, m1, l1, e3, _, _, r2, _⟩ := hy1'
  obtain ⟨B2, m2, l2, e4⟩ := hy2.slice
  have H := cmpP_any (A2 := A2) (n2 := n2) (k2 := k2) (B2 := B2) (m2 := m2) (l2 := l2) (k1 := k1) (l1 := l1) _ r1 r2 (Nat.le_refl _) (Nat.le_refl _)
  rw [tx_by, tx_by] at H
  have ea : (#[Value.agg (encP (⟨(x1, x2, xk), hx1, hx2⟩ : SP w Y)).toArray, Value.agg (encP (⟨(y1, y2, yk), hy1, hy2⟩ : SP w Y)).toArray] ++ #[] : Array Value) = #[.agg #[.slice A1 n1 k1, .slice A2 n2 k2], .agg #[.slice B1 m1 l1, .slice B2 m2 l2]] := by
    simp only at e1 e2 e3 e4
    simp [encP, e1, e2, e3, e4]
  rw [ea]
  exact H
/-- The cells of some pairs, and the pairs with them. -/
theorem mkSP : ∀ (ps : TL) (vs : List Value), vs.length = ps.length * 2 → (∀ a x, ps[a]? = some x → PairI w Y vs a (kvOf x)) → ∃ ds : List (SP w Y), ds.map pairP = ps ∧ ds.flatMap encP = vs
  | [], vs, hl, _ => ⟨[], rfl, (List.eq_nil_of_length_eq_zero (by simpa using hl)).symm⟩
  | x :: ps, vs, hl, h => by
    obtain ⟨u1, u2, e1, e2, s1, s2⟩ := h 0 x rfl
    rcases vs with _ | ⟨v1, _ | ⟨v2, vs⟩⟩
    · simp at e1
    · simp at e2
    · obtain rfl : v1 = u1 := by simpa using e1
      obtain rfl : v2 = u2 := by simpa using e2
      obtain ⟨ds, h1, h2⟩ := mkSP ps vs (by simp at hl; omega) (fun a y hy => by
        obtain ⟨w1, w2, f1, f2, f3⟩ := h (a + 1) y (by simpa using hy)
        refine ⟨w1, w2, ?_, ?_, f3⟩
        · rw [show (a + 1) * 2 = a * 2 + 1 + 1 by omega] at f1
          simpa using f1
        · rw [show (a + 1) * 2 + 1 = a * 2 + 1 + 1 + 1 by omega] at f2
          simpa using f2)
      obtain ⟨d, hd⟩ : ∃ d : SP w Y, d.1 = (v1, v2, x) := ⟨⟨(v1, v2, x), s1, s2⟩, rfl⟩
      refine ⟨d :: ds, ?_, ?_⟩
      · rw [List.map_cons, h1]; unfold pairP; rw [hd]
      · rw [List.flatMap_cons, h2]; unfold encP; rw [hd]; rfl
theorem flat_at : ∀ (ds : List (SP w Y)) (t : Nat), t < ds.length * 2 → (ds.flatMap encP)[t]? = some ((encP (ds.getD (t / 2) default))[t % 2]!)
  | [], t, h => by simp at h
  | d :: ds, t, h => by
    rw [List.flatMap_cons]
    rcases Nat.lt_or_ge t 2 with h2 | h2
    · have : t = 0 ∨ t = 1 := by omega
      rcases this with rfl | rfl <;> rfl
    · have ih := flat_at ds (t - 2) (by rw [List.length_cons] at h; omega)
      rw [List.getElem?_append_right (show (encP d).length ≤ t from h2), show t - (encP d).length = t - 2 from rfl, ih]
      have e1 : t / 2 = (t - 2) / 2 + 1 := by omega
      have e2 : t % 2 = (t - 2) % 2 := by omega
      rw [e1, e2, List.getD_cons_succ]
theorem flatK_list (ds : List (SP w Y)) : (flatK encP 2 ds.toArray).toList = ds.flatMap encP := by
  have hlen : ∀ ds : List (SP w Y), (ds.flatMap encP).length = ds.length * 2 := by
    intro ds
    induction ds with
    | nil => rfl
    | cons d ds ih => rw [List.flatMap_cons, List.length_append, ih, List.length_cons, show (encP d).length = 2 from rfl]; omega
  apply List.ext_getElem?
  intro t
  rcases Nat.lt_or_ge t (ds.length * 2) with h | h
  · rw [flat_at ds t h, Array.getElem?_toList, Array.getElem?_eq_getElem (by simpa using h)]
    have h1 := get_flatK (encP (w := w) (Y := Y)) 2 ds.toArray t (by simpa using h)
    rw [getElem!_pos _ t (by simpa using h)] at h1
    rw [h1]
    congr 3
    have h2 : t / 2 < ds.length := by omega
    simp [List.getD, h2]
  · rw [List.getElem?_eq_none (by simpa using h), List.getElem?_eq_none (by rw [hlen]; exact h)]

theorem heap_sortedP {α : Type} [Inhabited α] {enc : α → List Value} {k m : Nat} {dk : Array α} {os : Array Obj} {cur : Array Value} {e : TypeId} {fr : Nat × Nat} (hb : w.heap[g]? = some (.cells cur e fr)) :
    (sortWorldK enc k w g 0 m dk os).heap[g]? = some (.cells (putCells id 0 (flatK enc k dk) cur) e fr) := by
  have hg : g < w.heap.size := (Array.getElem?_eq_some_iff.1 hb).1
  show (grow (putRow id (Sort.ahead w m) g 0 (flatK enc k dk)) os).heap[g]? = _
  rw [heap_grow_old _ _ (by simpa using hg)]
  simp [putRow, mapBlock, Sort.ahead, Array.getElem?_modify, hb, onCells]
theorem take_putCellsP (cur F : Array Value) (h : F.size ≤ cur.size) : (putCells id 0 F cur).toList.take F.size = F.toList := by
  apply List.ext_getElem?
  intro j
  by_cases hj : j < F.size
  · rw [List.getElem?_take_of_lt hj, Array.getElem?_toList, Array.getElem?_toList]
    simp [putCells, hj, show j < cur.size by omega]
  · rw [List.getElem?_take_eq_none (by omega), List.getElem?_eq_none (by simp; omega)]

set_option maxHeartbeats 800000 in
theorem sortP_any {vs : List Value} {ps : TL} (hrow : RowIs w g n cap vs) (hl : ps.length = n) (hY : Y g) (hvs : ∀ a x, ps[a]? = some x → PairI w Y vs a (kvOf x)) (hn : n ≤ 4294967296) (hdis : (ps.map (·.1)).Nodup) :
    Calls Tryz.prog 104 #[.slice (some ⟨g, 0, none⟩) n cap, .func (.func 105) #[] #[]] w fun e w' =>
      e = .returned (.tuple #[]) ∧ ∃ ps' : TL, ps'.Perm ps ∧ RiseT ps' ∧ (∃ vs', RowIs w' g n cap vs' ∧ ∀ a x, ps'[a]? = some x → PairI w' Y vs' a (kvOf x)) ∧ Touch (fun k => k = g) w w' := by
  obtain ⟨ds, h1, h2⟩ := mkSP ps vs (by rw [hrow.len, hl]) hvs
  have hdl : ds.length = n := by rw [← hl, ← h1, List.length_map]
  have hflat := flatK_list ds
  have hH : HoldsK encP 2 w g 0 ds.toArray := by
    intro j hj
    have hj' : j < ds.length * 2 := by simpa using hj
    have e : vs[j]? = some ((flatK encP 2 ds.toArray)[j]!) := by
      rw [← h2, ← hflat, Array.getElem?_toList, Array.getElem?_eq_getElem hj, getElem!_pos _ j hj]
    refine ⟨?_, ?_⟩
    · rw [Nat.zero_add]; exact hrow.cell e
    · rw [Nat.zero_add]; exact hrow.frozen _
  have eg : ∀ args w, (callFunc 105 args).run Tryz.prog w = .ok (.enter 105 args) w := enters_of Tryz.func105 (by kernel_rfl) rfl
  have hcon := AnyQ.slices_SortFunc Tryz.sortP 2 Tryz.isAgg88 Tryz.sizeOf88 (encP (w := w) (Y := Y)) (fun _ => rfl) (fun x v hv => by
    obtain ⟨A1, n1, k1, e1⟩ := x.2.1.slice
    obtain ⟨A2, n2, k2, e2⟩ := x.2.2.slice
    simp [encP] at hv
    rcases hv with rfl | rfl
    · rw [e1]; rfl
    · rw [e2]; rfl) cmpP (swoP w Y) 105 #[] g 0 cap ds.toArray w eg (cmpLaysP hY _) hH hrow.lt (by simp; omega)
  change Calls Tryz.prog 104 _ _ _ at hcon
  have hsz : ds.toArray.size = n := by simpa using hdl
  rw [hsz] at hcon
  refine hcon.mono ?_
  rintro e w' ⟨rfl, d', m, os, hp, hsd, rfl⟩
  have ht := sortW_touch (g := g) (encP (w := w) (Y := Y)) 2 m w d' os
  have hd'n : d'.size = n := by rw [hp.1]; exact hsz
  have hperm : d'.toList.Perm ds := by
    have h3 := hp.2.2
    have a1 : d'.extract 0 n = d' := by rw [← hd'n]; simp
    have a2 : ds.toArray.extract 0 n = ds.toArray := by rw [← hsz]; simp
    rw [a1, a2] at h3
    simpa using h3
  have hpp : (d'.toList.map pairP).Perm ps := by rw [← h1]; exact hperm.map _
  refine ⟨rfl, d'.toList.map pairP, hpp, ?_, ⟨(flatK encP 2 d').toList, ?_, fun a x hx => ?_⟩, ht⟩
  · have hnd : ((d'.toList.map pairP).map (·.1)).Nodup := (hpp.map _).nodup_iff.2 hdis
    rw [List.nodup_iff_pairwise_ne, List.pairwise_map] at hnd
    refine List.pairwise_iff_getElem.2 fun i j hi hj hij => ?_
    have hne := List.pairwise_iff_getElem.1 hnd i j hi hj hij
    simp only [List.length_map, Array.length_toList] at hi hj
    have hs := hsd i j (Nat.zero_le _) hij (by omega)
    simp only [ltOf, decide_eq_false_iff_not] at hs
    simp only [List.getElem_map, Array.getElem_toList] at hne ⊢
    rw [getElem!_pos d' i hi, getElem!_pos d' j hj] at hs
    rcases tlt_tri (pairP d'[i]).1 (pairP d'[j]).1 with a | a | a
    · exact a
    · exact absurd a hne
    · exact absurd ((cmpB_lt _ _).2 a) hs
  · obtain ⟨cur, r1, r2, r3, r4, r5⟩ := hrow
    have hfs : (flatK (encP (w := w) (Y := Y)) 2 d').size = n * 2 := by rw [size_flatK, hd'n]
    refine ⟨_, heap_sortedP r1, r2, r3, by simpa [putCells] using r4, ?_⟩
    rw [← hfs]
    exact take_putCellsP _ _ (by rw [hfs, r4]; omega)
  · rw [List.getElem?_map] at hx
    obtain ⟨p, hp', rfl⟩ := Option.map_eq_some_iff.1 hx
    have hal := (List.getElem?_eq_some_iff.1 hp').1
    have hfl := flatK_list d'.toList
    rw [Array.toArray_toList] at hfl
    rw [hfl]
    have hk : ∀ k, k < w.heap.size → ¬ Y k → (sortWorldK encP 2 w g 0 m d' os).heap[k]? = w.heap[k]? := fun k hk hy => ht.block k hk fun e => hy (by rw [e]; exact hY)
    have hg : d'.toList.getD a default = p := by rw [List.getD_eq_getElem?_getD, hp']; rfl
    refine ⟨p.1.1, p.1.2.1, ?_, ?_, p.2.1.keep ht.size (fun _ _ h => h) hk, p.2.2.keep ht.size (fun _ _ h => h) hk⟩
    · rw [flat_at _ _ (by omega), show a * 2 / 2 = a by omega, show a * 2 % 2 = 0 by omega, hg]; rfl
    · rw [flat_at _ _ (by omega), show (a * 2 + 1) / 2 = a by omega, show (a * 2 + 1) % 2 = 1 by omega, hg]; rfl
end

end Go.Proofs.YtlpjggilkfpleaaGreat
