/-
  Maps by texts, as a function from texts to what stands there, for any values: made, looked up, stored into, taken from, cleared, ranged over; what keeps one. Condition of a store: fewer entries than 2^63 - 1.
-/
import Derived.Test.YtihjlhegcoceoaaGreatTxtP
import Derived.Maps.OwnSet
import Derived.Maps.OwnOps
import Derived.Maps.RangeWalk
import Derived.StringKeys
import Derived.Sort.KeysCollected
namespace Go.Proofs.YtihjlhegcoceoaaGreat
open Go.RowKit Go.Maps Go.ChangeMaps Go.MapKept Go.WideMaps
set_option maxRecDepth 100000
set_option linter.unusedVariables false

/-- An element as itself. -/
def asIt (v : Value) : Option (DataW Value × List MemPlace) := some (.held v, [])
theorem asIt_inv {v : Value} {y : DataW Value × List MemPlace} (h : asIt v = some y) : y = (.held v, []) := (Option.some.inj h).symm
theorem str_key : Keyed Tryz.prog 9 := string_keyed Tryz.underlying9
theorem skey_of {k : Txt} (h : k.length ≤ maxLen) : keyOf Tryz.prog 9 (encStr k) = some (.string k) := by
  have := keyOf_string_mk (P := Tryz.prog) (s := ⟨k.toArray⟩) Tryz.underlying9 (by simpa [ByteArray.size] using h)
  simpa using this

/-- What a map's datum has and holds, as a function. -/
def SFun (D : DataW Value) (f : Txt → Option Value) : Prop := ∀ x : Txt, Maps.has D (.string x) = (f x).isSome ∧ ∀ v z, f x = some v → D.atKey (.string x) z = .held v
/-- Block b of w is a map of at most n entries: at x stands f x. -/
def SMap (w : World) (b n : Nat) (f : Txt → Option Value) : Prop :=
  ∃ D : DataW Value, w.ownsMap Tryz.prog 9 asIt b n D ∧ SFun D f
/-- An iterator at block r over the map at block b: left x: the entry at x is still to come. -/
def SRange (w : World) (b r n : Nat) (f : Txt → Option Value) (left : Txt → Bool) (cnt : Nat) : Prop :=
  ∃ (D : DataW Value) (lf : Lit → Bool), w.ranges Tryz.prog 9 asIt b r n D lf cnt ∧ SFun D f ∧ ∀ x, lf (.string x) = left x

section
variable {w w' : World} {b r n cnt : Nat} {f : Txt → Option Value} {left : Txt → Bool}
theorem SMap.made (w : World) : SMap (w.alloc (.map #[] 0)) w.heap.size 0 (fun _ => none) :=
  ⟨_, World.ownsMap_made w _ _ _, fun i => ⟨rfl, fun v z h => by cases h⟩⟩
theorem SMap.lt (h : SMap w b n f) : b < w.heap.size := by
  obtain ⟨D, h1, _⟩ := h
  exact h1.lt
theorem SMap.block (h : SMap w b n f) : ∃ es c, w.heap[b]? = some (.map es c) := by
  obtain ⟨D, ⟨es, c, hb, _⟩, _⟩ := h
  exact ⟨es, c, hb⟩
theorem SMap.of_block (h : SMap w b n f) (e : w'.heap[b]? = w.heap[b]?) : SMap w' b n f := by
  obtain ⟨D, ⟨es, c, hb, rest⟩, hf⟩ := h
  exact ⟨D, ⟨es, c, e.trans hb, rest⟩, hf⟩
theorem SMap.mono (h : SMap w b n f) {m : Nat} (hm : n ≤ m) : SMap w b m f := by
  obtain ⟨D, h1, hf⟩ := h
  exact ⟨D, h1.mono hm, hf⟩
theorem SMap.congr (h : SMap w b n f) {g : Txt → Option Value} (e : ∀ i, f i = g i) : SMap w b n g := by
  obtain ⟨D, h1, hf⟩ := h
  exact ⟨D, h1, fun i => by rw [← e i]; exact hf i⟩
theorem satKey_not {D : DataW Value} {k : Lit} (h : Maps.has D k = false) (z : DataW Value) : D.atKey k z = z := Maps.atKey_of_not_has h z

theorem SMap.look (h : SMap w b n f) {t e : TypeId} (ht : Tryz.prog.underlying t = some (.map 9 e)) {z : Value} (hz : (zeroValue e).run Tryz.prog w = .ok z w) {x : Txt} (hx : x.length ≤ maxLen) :
    (Instr.lookup t (.map (some b)) (encStr x) true).run Tryz.prog w = .ok (.tuple #[(f x).getD z, .bool (f x).isSome]) w := by
  obtain ⟨D, h1, hf⟩ := h
  obtain ⟨v, ps, hrun, hv⟩ := h1.look_ok str_key ht hz (show asIt z = some (.held z, []) from rfl) (skey_of hx)
  obtain ⟨hh, ha⟩ := hf x
  rw [hrun, hh]
  have hv' : DataW.held v = D.atKey (.string x) (.held z) := by
    have := Option.some.inj hv
    exact congrArg Prod.fst this
  rcases hfi : f x with _ | u
  · rw [hfi] at hh
    rw [satKey_not hh] at hv'
    cases hv'; rfl
  · rw [ha u _ hfi] at hv'
    cases hv'; rfl
theorem SMap.get (h : SMap w b n f) {t e : TypeId} (ht : Tryz.prog.underlying t = some (.map 9 e)) {z : Value} (hz : (zeroValue e).run Tryz.prog w = .ok z w) {x : Txt} (hx : x.length ≤ maxLen) {u : Value} (hu : f x = some u) :
    (Instr.lookup t (.map (some b)) (encStr x) false).run Tryz.prog w = .ok u w := by
  obtain ⟨D, h1, hf⟩ := h
  obtain ⟨v, ps, hrun, hv⟩ := h1.lookup str_key ht hz (show asIt z = some (.held z, []) from rfl) (skey_of hx)
  obtain ⟨hh, ha⟩ := hf x
  rw [hrun]
  have hv' : DataW.held v = D.atKey (.string x) (.held z) := by
    have := Option.some.inj hv
    exact congrArg Prod.fst this
  rw [ha u _ hu] at hv'
  cases hv'; rfl
theorem SMap.store (h : SMap w b n f) {t e : TypeId} (ht : Tryz.prog.underlying t = some (.map 9 e)) (hn : n < maxLen) {x : Txt} (hx : x.length ≤ maxLen) (u : Value) :
    ∃ w', (Instr.mapUpdate t (.map (some b)) (encStr x) u).run Tryz.prog w = .ok () w' ∧ SMap w' b (n + 1) (fun j => if j = x then some u else f j) ∧ w.grownBy w' (some b) := by
  obtain ⟨D, h1, hf⟩ := h
  obtain ⟨w', hrun, h2, h3⟩ := h1.update str_key ht hn (skey_of hx) (show asIt u = some (.held u, []) from rfl)
  refine ⟨w', hrun, ⟨_, h2, fun j => ?_⟩, h3⟩
  by_cases e : j = x
  · subst e
    show Maps.has _ _ = (if j = j then some u else f j).isSome ∧ ∀ v z, (if j = j then some u else f j) = some v → _
    rw [if_pos rfl]
    refine ⟨has_put_same h1.isMap (by trivial) _, fun v z hv => ?_⟩
    cases hv
    exact atKey_put_same h1.isMap (by trivial) _ _
  · show Maps.has _ _ = (if j = x then some u else f j).isSome ∧ ∀ v z, (if j = x then some u else f j) = some v → _
    rw [if_neg e]
    have hne : (Lit.string j) ≠ Lit.string x := fun h => e (by injection h)
    rw [has_put_other hne]
    refine ⟨(hf j).1, fun v z hv => ?_⟩
    rw [atKey_put_other hne]
    exact (hf j).2 v z hv
theorem SMap.delete (h : SMap w b n f) {t e : TypeId} (ht : Tryz.prog.underlying t = some (.map 9 e)) {x : Txt} (hx : x.length ≤ maxLen) (ty : TypeId) :
    ∃ w', (Builtin.delete_ #[t, 9] ty #[.map (some b), encStr x]).run Tryz.prog w = .ok (.tuple #[]) w' ∧ SMap w' b n (fun j => if j = x then none else f j) ∧ w.grownBy w' (some b) := by
  obtain ⟨D, h1, hf⟩ := h
  obtain ⟨w', hrun, h2, h3⟩ := h1.drop str_key ht (skey_of hx) ty
  refine ⟨w', hrun, ⟨_, h2, fun j => ?_⟩, h3.grown⟩
  by_cases e : j = x
  · subst e
    show Maps.has _ _ = (if j = j then none else f j).isSome ∧ ∀ v z, (if j = j then none else f j) = some v → _
    rw [if_pos rfl]
    exact ⟨has_del_same, fun v z hv => by cases hv⟩
  · show Maps.has _ _ = (if j = x then none else f j).isSome ∧ ∀ v z, (if j = x then none else f j) = some v → _
    rw [if_neg e]
    have hne : (Lit.string j) ≠ Lit.string x := fun h => e (by injection h)
    rw [has_del_other hne]
    refine ⟨(hf j).1, fun v z hv => ?_⟩
    rw [atKey_del_other hne]
    exact (hf j).2 v z hv
theorem SMap.clear_ (h : SMap w b n f) {t e : TypeId} (ht : Tryz.prog.underlying t = some (.map 9 e)) (ty : TypeId) :
    ∃ w', (Builtin.clear_ #[t] ty #[.map (some b)]).run Tryz.prog w = .ok (.tuple #[]) w' ∧ SMap w' b 0 (fun _ => none) ∧ w.grownBy w' (some b) := by
  obtain ⟨D, ⟨es, c, hb, _⟩, _⟩ := h
  refine ⟨ChangeMaps.setBlock w b (.map #[] c), ?_, ⟨.map [], ⟨#[], c, heap_setBlock_same hb _, ⟨by simp, stamped_empty c, by simp⟩, Nat.le_refl _, rfl⟩, fun i => ⟨rfl, fun v z h => by cases h⟩⟩, ⟨rfl, rfl, rfl, by simp [ChangeMaps.setBlock], fun i _ hi => heap_setBlock_other hb _ (fun e => hi (by rw [e]))⟩⟩
  simp [Builtin.clear_, run_underlying ht, MapKept.run_getObj_map hb, MapKept.run_setObj_map _ hb, Result.andThen]
  rfl

theorem SFun.none_ {D : DataW Value} (h : SFun D f) {x : Txt} (e : f x = none) : Maps.has D (.string x) = false := by rw [(h x).1, e]; rfl
theorem SMap.range (h : SMap w b n f) {t e : TypeId} (ht : Tryz.prog.underlying t = some (.map 9 e)) :
    ∃ w' cnt, (Instr.range t (.map (some b))).run Tryz.prog w = .ok (.pointer (some ⟨w.heap.size, 0, none⟩)) w' ∧ SRange w' b w.heap.size n f (fun x => (f x).isSome) cnt ∧ cnt ≤ n ∧ w.grownBy w' none ∧ w'.heap.size = w.heap.size + 1 := by
  obtain ⟨D, h1, hf⟩ := h
  obtain ⟨w', hrun, h2, h3, h4⟩ := h1.range str_key ht
  exact ⟨w', _, hrun, ⟨D, _, h2, hf, fun x => (hf x).1⟩, h1.size_le, h3, h4⟩
theorem SRange.owns (h : SRange w b r n f left cnt) : SMap w b n f := by
  obtain ⟨D, lf, h1, hf, _⟩ := h
  exact ⟨D, h1.owns, hf⟩
theorem SRange.ne (h : SRange w b r n f left cnt) : r ≠ b := by
  obtain ⟨D, lf, h1, _⟩ := h
  exact h1.ne
theorem SRange.lt (h : SRange w b r n f left cnt) : r < w.heap.size := by
  obtain ⟨D, lf, h1, _⟩ := h
  exact h1.lt
theorem SRange.left_eq (h : SRange w b r n f left cnt) : w.rangeLeft b r = cnt := by
  obtain ⟨D, lf, h1, _⟩ := h
  exact h1.left_eq
theorem SRange.keep (h : SRange w b r n f left cnt) (e1 : w'.heap[b]? = w.heap[b]?) (e2 : w'.heap[r]? = w.heap[r]?) : SRange w' b r n f left cnt := by
  obtain ⟨D, lf, ⟨es, clock, since, seen, c0, hb, F, hs, hD, hr, rest⟩, hf, hl⟩ := h
  exact ⟨D, lf, ⟨es, clock, since, seen, c0, e1.trans hb, F, hs, hD, e2.trans hr, rest⟩, hf, hl⟩
theorem SRange.next (h : SRange w b r n f left cnt) (ty : TypeId) :
    (cnt = 0 ∧ (∀ x, left x = false) ∧ (Instr.next (.pointer (some ⟨r, 0, none⟩)) false ty).run Tryz.prog w = .ok (.tuple #[.bool false]) w) ∨
    ∃ x v w' cnt', x.length ≤ maxLen ∧ left x = true ∧ f x = some v ∧ (Instr.next (.pointer (some ⟨r, 0, none⟩)) false ty).run Tryz.prog w = .ok (.tuple #[.bool true, encStr x, v]) w' ∧
      SRange w' b r n f (fun z => left z && !decide (z = x)) cnt' ∧ cnt' < cnt ∧ w.grownBy w' (some r) ∧ w'.heap.size = w.heap.size ∧ (Instr.entry (.pointer (some ⟨r, 0, none⟩))).run Tryz.prog w' = .ok (.tuple #[encStr x, v]) w' := by
  obtain ⟨D, lf, h1, hf, hl⟩ := h
  rcases h1.next str_key ty with ⟨h0, hn, hrun⟩ | ⟨key, v, kl, y, w', cnt', hkey, hlk, hv, hat, hrun, hrg, hlt, hgr, hsz, hen⟩
  · exact .inl ⟨h0, fun x => by rw [← hl x]; exact hn _, hrun⟩
  · obtain ⟨x, rfl, rfl, hx⟩ := Maps.keyOf_str Tryz.underlying9 hkey
    obtain rfl := asIt_inv hv
    refine .inr ⟨x, v, w', cnt', hx, by rw [← hl x]; exact hlk, ?_, hrun, ⟨D, _, hrg, hf, fun z => ?_⟩, hlt, hgr, hsz, hen⟩
    · rcases hfx : f x with _ | u
      · have h2 := hat (.map [])
        rw [satKey_not (hf.none_ hfx)] at h2
        cases h2
      · have h2 := hat (.map [])
        rw [(hf x).2 u _ hfx] at h2
        cases h2; rfl
    · show (lf (.string z) && !(Lit.string z).sameKey (.string x)) = _
      rw [hl z]
      congr 2
      rw [Bool.eq_iff_iff]
      simp [Lit.sameKey]

/-- A map has no more entries than there are texts at which something stands. -/
theorem snodup_sub : ∀ (l m : List Txt), l.Nodup → (∀ x ∈ l, x ∈ m) → l.length ≤ m.length
  | [], m, _, _ => Nat.zero_le _
  | x :: r, m, hn, h => by
    have hn' := List.nodup_cons.1 hn
    have h1 := snodup_sub r (m.erase x) hn'.2 (fun y hy => (List.mem_erase_of_ne (fun e => hn'.1 (by rw [← e]; exact hy))).2 (h y (List.mem_cons_of_mem _ hy)))
    have h2 := List.length_erase_of_mem (h x (List.mem_cons_self ..))
    have h3 : 0 < m.length := List.length_pos_of_mem (h x (List.mem_cons_self ..))
    rw [List.length_cons]
    omega
theorem SMap.tight (h : SMap w b n f) (ks : List Txt) (hk : ∀ i, f i ≠ none → i ∈ ks) : SMap w b ks.length f := by
  obtain ⟨D, hD, hf⟩ := h
  obtain ⟨es, rfl, hne, hkey⟩ := hD.entries str_key
  have hint : ∀ p ∈ es, ∃ i : Txt, p.1 = .string i := by
    obtain ⟨es', c, hb, Ft, hs, he⟩ := hD
    intro p hp
    injection he with he
    rw [he] at hp
    obtain ⟨x, hx, rfl⟩ := List.mem_map.1 (mem_sorted.1 hp)
    obtain ⟨y, hy⟩ := Ft.reads x hx
    rw [WideElems.rg_of hy]
    obtain ⟨i, _, e, _⟩ := Maps.keyOf_str Tryz.underlying9 (WideElems.rd_key hy)
    exact ⟨i, e⟩
  have hlen : es.length ≤ ks.length := by
    have hsub : ∀ i ∈ es.map (fun p => strOf p.1), i ∈ ks := by
      intro i hi
      obtain ⟨p, hp, rfl⟩ := List.mem_map.1 hi
      obtain ⟨i, e⟩ := hint p hp
      rw [e]
      refine hk i (fun e0 => ?_)
      have := (hf i).1
      rw [e0, Maps.has_eq] at this
      have h2 : es.any (fun p => p.1.sameKey (.string i)) = true := List.any_eq_true.2 ⟨p, hp, by rw [e]; simp [Lit.sameKey]⟩
      rw [h2] at this
      cases this
    have hnd : (es.map (fun p => strOf p.1)).Nodup := by
      rw [List.nodup_iff_pairwise_ne, List.pairwise_map]
      refine hne.imp_of_mem fun {p q} hp hq hpq e => hpq ?_
      obtain ⟨i, hi⟩ := hint p hp
      obtain ⟨j, hj⟩ := hint q hq
      rw [hi, hj] at e ⊢
      have : i = j := e
      rw [this]
    have := snodup_sub _ ks hnd hsub
    simpa using this
  obtain ⟨es', c, hb, Ft, hs, he⟩ := hD
  refine ⟨_, ⟨es', c, hb, Ft, ?_, he⟩, hf⟩
  injection he with he
  have : es.length = es'.size := by rw [he, length_sorted]; simp
  omega
end

end Go.Proofs.YtihjlhegcoceoaaGreat
