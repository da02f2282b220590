/-
  The texts TxtP, SMap, ViewP joined. Conditions: those that each part says at its head.
-/
import Derived.Test.YtlcbmobdokicaaaGreatBase
import Derived.Maps.OwnSet
import Derived.Maps.OwnOps
import Derived.Maps.RangeWalk
import Derived.StringKeys
import Derived.Sort.KeysCollected

/-
  Texts as lists of bytes, and lists that rise by texts: what stands at a text, put, taken away; two rising lists with the same at each text are one. Plain facts; no condition beyond what each says.
-/
namespace Go.Proofs.YtlcbmobdokicaaaGreat
set_option linter.unusedVariables false

/-- A text. -/
abbrev Txt := List UInt8
/-- A text of some bytes; a text's bytes. -/
def tx (l : List Int) : Txt := l.map fun n => UInt8.ofNat n.toNat
def by_ (x : Txt) : List Int := x.map fun u => (u.toNat : Int)
theorem tx_by (x : Txt) : tx (by_ x) = x := by
  unfold tx by_
  rw [List.map_map]
  conv => rhs; rw [← List.map_id x]
  refine List.map_congr_left fun u _ => ?_
  simp
theorem by_tx {l : List Int} (h : AllBytes l) : by_ (tx l) = l := by
  unfold tx by_
  rw [List.map_map]
  conv => rhs; rw [← List.map_id l]
  refine List.map_congr_left fun x hx => ?_
  obtain ⟨a, b⟩ := h x hx
  simp
  omega
theorem by_bytes (x : Txt) : AllBytes (by_ x) := by
  intro y hy
  obtain ⟨u, _, rfl⟩ := List.mem_map.1 hy
  have := u.toNat_lt
  omega
theorem by_inj {x y : Txt} (h : by_ x = by_ y) : x = y := by rw [← tx_by x, ← tx_by y, h]
theorem tx_inj {l m : List Int} (hl : AllBytes l) (hm : AllBytes m) (h : tx l = tx m) : l = m := by rw [← by_tx hl, ← by_tx hm, h]
theorem by_length (x : Txt) : (by_ x).length = x.length := by simp [by_]
theorem tx_length (l : List Int) : (tx l).length = l.length := by simp [tx]
theorem by_take (x : Txt) (n : Nat) : (by_ x).take n = by_ (x.take n) := by simp [by_, List.map_take]
theorem tx_take (l : List Int) (n : Nat) : (tx l).take n = tx (l.take n) := by simp [tx, List.map_take]

theorem tlt_irrefl (x : Txt) : ¬ x < x := List.lt_irrefl x
theorem tlt_trans {x y z : Txt} (h : x < y) (g : y < z) : x < z := List.lt_trans h g
theorem tlt_tri (x y : Txt) : x < y ∨ x = y ∨ y < x := by
  by_cases h : x < y
  · exact .inl h
  · by_cases g : y < x
    · exact .inr (.inr g)
    · exact .inr (.inl (List.le_antisymm (List.not_lt.1 g) (List.not_lt.1 h)))

section
variable {β : Type}
/-- What stands at a text. -/
def lookT (L : List (Txt × β)) (x : Txt) : Option β := match L with
  | [] => none
  | p :: r => if p.1 = x then some p.2 else lookT r x
theorem lookT_cons (p : Txt × β) (r : List (Txt × β)) (x : Txt) : lookT (p :: r) x = if p.1 = x then some p.2 else lookT r x := rfl
/-- Texts rise. -/
def RiseT (L : List (Txt × β)) : Prop := L.Pairwise fun p q => p.1 < q.1
/-- Let a text have something. -/
def setT : List (Txt × β) → Txt → β → List (Txt × β)
  | [], x, v => [(x, v)]
  | p :: r, x, v => if p.1 < x then p :: setT r x v else if p.1 = x then (x, v) :: r else (x, v) :: p :: r
/-- Take a text away. -/
def delT (L : List (Txt × β)) (x : Txt) : List (Txt × β) := L.filter fun p => decide (p.1 ≠ x)

theorem lookT_mem {L : List (Txt × β)} {x : Txt} {v : β} (h : lookT L x = some v) : (x, v) ∈ L := by
  induction L with
  | nil => cases h
  | cons p r ih =>
    unfold lookT at h
    split at h
    · rename_i e
      cases h
      rw [← e]
      exact List.mem_cons_self ..
    · exact List.mem_cons_of_mem _ (ih h)
theorem lookT_none {L : List (Txt × β)} {x : Txt} : lookT L x = none ↔ ∀ p ∈ L, p.1 ≠ x := by
  induction L with
  | nil => simp [lookT]
  | cons p r ih =>
    unfold lookT
    split
    · rename_i e
      constructor
      · intro h; cases h
      · intro h; exact absurd e (h p (List.mem_cons_self ..))
    · rename_i e
      rw [ih]
      constructor
      · intro h q hq
        rcases List.mem_cons.1 hq with rfl | hq
        · exact e
        · exact h q hq
      · intro h q hq
        exact h q (List.mem_cons_of_mem _ hq)
theorem RiseT.look {L : List (Txt × β)} (h : RiseT L) {x : Txt} {v : β} (hm : (x, v) ∈ L) : lookT L x = some v := by
  induction L with
  | nil => cases hm
  | cons p r ih =>
    obtain ⟨h1, h2⟩ := List.pairwise_cons.1 h
    unfold lookT
    rcases List.mem_cons.1 hm with rfl | hm
    · simp
    · have := h1 _ hm
      rw [if_neg (fun e => by rw [e] at this; exact tlt_irrefl _ this)]
      exact ih h2 hm
theorem RiseT.tail {p : Txt × β} {L : List (Txt × β)} (h : RiseT (p :: L)) : RiseT L := (List.pairwise_cons.1 h).2
theorem RiseT.head {p : Txt × β} {L : List (Txt × β)} (h : RiseT (p :: L)) : ∀ q ∈ L, p.1 < q.1 := (List.pairwise_cons.1 h).1
/-- Two rising lists with the same at each text are one. -/
theorem RiseT.ext : ∀ {L M : List (Txt × β)}, RiseT L → RiseT M → (∀ x, lookT L x = lookT M x) → L = M
  | [], [], _, _, _ => rfl
  | [], q :: M, _, hM, h => by
    have := h q.1
    simp [lookT] at this
  | p :: L, [], _, _, h => by
    have := h p.1
    simp [lookT] at this
  | p :: L, q :: M, hL, hM, h => by
    have e1 : p.1 = q.1 := by
      rcases tlt_tri p.1 q.1 with a | a | a
      · have h1 := h p.1
        have h2 : lookT (q :: M) p.1 = none := by
          rw [lookT_none]
          intro r hr e
          rcases List.mem_cons.1 hr with rfl | hr
          · rw [e] at a; exact tlt_irrefl _ a
          · have := tlt_trans a (hM.head r hr); rw [e] at this; exact tlt_irrefl _ this
        rw [h2] at h1
        simp [lookT] at h1
      · exact a
      · have h1 := h q.1
        have h2 : lookT (p :: L) q.1 = none := by
          rw [lookT_none]
          intro r hr e
          rcases List.mem_cons.1 hr with rfl | hr
          · rw [e] at a; exact tlt_irrefl _ a
          · have := tlt_trans a (hL.head r hr); rw [e] at this; exact tlt_irrefl _ this
        rw [h2] at h1
        simp [lookT] at h1
    have e2 : p.2 = q.2 := by
      have h1 := h p.1
      unfold lookT at h1
      rw [if_pos rfl, if_pos e1.symm] at h1
      exact Option.some.inj h1
    have e3 : L = M := by
      refine RiseT.ext hL.tail hM.tail fun x => ?_
      by_cases ex : p.1 = x
      · have a1 : lookT L x = none := lookT_none.2 fun r hr e => by have := hL.head r hr; rw [e, ex] at this; exact tlt_irrefl _ this
        have a2 : lookT M x = none := lookT_none.2 fun r hr e => by have := hM.head r hr; rw [e, ← e1, ex] at this; exact tlt_irrefl _ this
        rw [a1, a2]
      · have h1 := h x
        unfold lookT at h1
        rw [if_neg ex, if_neg (fun e => ex (e1.trans e))] at h1
        exact h1
    rw [show p = q from Prod.ext e1 e2, e3]

theorem mem_setT {L : List (Txt × β)} {x : Txt} {v : β} {q : Txt × β} (h : q ∈ setT L x v) : q = (x, v) ∨ q ∈ L := by
  induction L with
  | nil => exact .inl (List.mem_singleton.1 h)
  | cons p r ih =>
    unfold setT at h
    split at h
    · rcases List.mem_cons.1 h with rfl | h
      · exact .inr (List.mem_cons_self ..)
      · rcases ih h with a | a
        · exact .inl a
        · exact .inr (List.mem_cons_of_mem _ a)
    · split at h
      · rcases List.mem_cons.1 h with rfl | h
        · exact .inl rfl
        · exact .inr (List.mem_cons_of_mem _ h)
      · rcases List.mem_cons.1 h with rfl | h
        · exact .inl rfl
        · exact .inr h
theorem RiseT.set {L : List (Txt × β)} (h : RiseT L) (x : Txt) (v : β) : RiseT (setT L x v) := by
  induction L with
  | nil => exact List.pairwise_singleton _ _
  | cons p r ih =>
    unfold setT
    split
    · rename_i e
      refine List.pairwise_cons.2 ⟨fun q hq => ?_, ih h.tail⟩
      rcases mem_setT hq with rfl | hq
      · exact e
      · exact h.head q hq
    · split
      · rename_i e
        refine List.pairwise_cons.2 ⟨fun q hq => ?_, h.tail⟩
        rw [← e]
        exact h.head q hq
      · rename_i e1 e2
        have hx : x < p.1 := by
          rcases tlt_tri p.1 x with a | a | a
          · exact absurd a e1
          · exact absurd a e2
          · exact a
        refine List.pairwise_cons.2 ⟨fun q hq => ?_, h⟩
        rcases List.mem_cons.1 hq with rfl | hq
        · exact hx
        · exact tlt_trans hx (h.head q hq)
theorem lookT_setT {L : List (Txt × β)} (h : RiseT L) (x y : Txt) (v : β) : lookT (setT L x v) y = if x = y then some v else lookT L y := by
  induction L with
  | nil => simp [setT, lookT]
  | cons p r ih =>
    unfold setT
    split
    · rename_i e
      unfold lookT
      rw [ih h.tail]
      by_cases e1 : p.1 = y
      · rw [if_pos e1, if_neg (fun e2 => by rw [e1, e2] at e; exact tlt_irrefl _ e), if_pos e1]
      · rw [if_neg e1, if_neg e1]
    · split
      · rename_i e1 e
        subst e
        unfold lookT
        by_cases e2 : p.1 = y
        · rw [if_pos e2, if_pos e2]
        · rw [if_neg e2, if_neg e2, if_neg e2]
      · rename_i e1 e2
        conv => lhs; unfold lookT
theorem RiseT.filter {L : List (Txt × β)} (h : RiseT L) (p : Txt × β → Bool) : RiseT (L.filter p) := List.Pairwise.filter _ h
theorem RiseT.del {L : List (Txt × β)} (h : RiseT L) (x : Txt) : RiseT (delT L x) := h.filter _
theorem lookT_delT (L : List (Txt × β)) (x y : Txt) : lookT (delT L x) y = if x = y then none else lookT L y := by
  induction L with
  | nil => simp [delT, lookT]
  | cons p r ih =>
    unfold delT at ih ⊢
    rw [List.filter_cons]
    by_cases e : p.1 = x
    · rw [if_neg (by simpa using e), ih]
      by_cases e1 : x = y
      · rw [if_pos e1, if_pos e1]
      · rw [if_neg e1, if_neg e1]
        conv => rhs; unfold lookT
        rw [if_neg (fun e2 => e1 (e.symm.trans e2))]
    · rw [if_pos (by simpa using e)]
      unfold lookT
      rw [ih]
      by_cases e2 : p.1 = y
      · rw [if_pos e2, if_neg (fun e3 => e (e2.trans e3.symm)), if_pos e2]
      · rw [if_neg e2, if_neg e2]
theorem delT_len (L : List (Txt × β)) (x : Txt) : (delT L x).length ≤ L.length := List.length_filter_le _ _
theorem setT_len (L : List (Txt × β)) (x : Txt) (v : β) : (setT L x v).length ≤ L.length + 1 := by
  induction L with
  | nil => simp [setT]
  | cons p r ih =>
    unfold setT
    split
    · simp; omega
    · split <;> simp
end

end Go.Proofs.YtlcbmobdokicaaaGreat

/-
  Maps by texts, as a function from texts to what stands there, for any values: made, looked up, stored into, taken from, cleared, ranged over; what keeps one. Condition of a store: fewer entries than 2^63 - 1.
-/
namespace Go.Proofs.YtlcbmobdokicaaaGreat
open Go.RowKit Go.Maps Go.ChangeMaps Go.MapKept Go.WideMaps
set_option maxRecDepth 100000
set_option linter.unusedVariables false

/-- An element as itself. -/
def asIt (v : Value) : Option (DataW Value × List MemPlace) := some (.held v, [])
theorem asIt_inv {v : Value} {y : DataW Value × List MemPlace} (h : asIt v = some y) : y = (.held v, []) := (Option.some.inj h).symm
theorem str_key : Keyed Tryz.prog 9 := string_keyed Tryz.underlying9
theorem skey_of {k : Txt} (h : k.length ≤ maxLen) : keyOf Tryz.prog 9 (encStr k) = some (.string k) := by
  have := keyOf_string_mk (P := Tryz.prog) (s := ⟨k.toArray⟩) Tryz.underlying9 (by simpa [ByteArray.size] using h)
  simpa using this

/-- What a map's datum has and holds, as a function. -/
def SFun (D : DataW Value) (f : Txt → Option Value) : Prop := ∀ x : Txt, Maps.has D (.string x) = (f x).isSome ∧ ∀ v z, f x = some v → D.atKey (.string x) z = .held v
/-- Block b of w is a map of at most n entries: at x stands f x. -/
def SMap (w : World) (b n : Nat) (f : Txt → Option Value) : Prop :=
  ∃ D : DataW Value, w.ownsMap Tryz.prog 9 asIt b n D ∧ SFun D f
/-- An iterator at block r over the map at block b: left x: the entry at x is still to come. -/
def SRange (w : World) (b r n : Nat) (f : Txt → Option Value) (left : Txt → Bool) (cnt : Nat) : Prop :=
  ∃ (D : DataW Value) (lf : Lit → Bool), w.ranges Tryz.prog 9 asIt b r n D lf cnt ∧ SFun D f ∧ ∀ x, lf (.string x) = left x

section
variable {w w' : World} {b r n cnt : Nat} {f : Txt → Option Value} {left : Txt → Bool}
theorem SMap.made (w : World) : SMap (w.alloc (.map #[] 0)) w.heap.size 0 (fun _ => none) :=
  ⟨_, World.ownsMap_made w _ _ _, fun i => ⟨rfl, fun v z h => by cases h⟩⟩
theorem SMap.lt (h : SMap w b n f) : b < w.heap.size := by
  obtain ⟨D, h1, _⟩ := h
  exact h1.lt
theorem SMap.block (h : SMap w b n f) : ∃ es c, w.heap[b]? = some (.map es c) := by
  obtain ⟨D, ⟨es, c, hb, _⟩, _⟩ := h
  exact ⟨es, c, hb⟩
theorem SMap.of_block (h : SMap w b n f) (e : w'.heap[b]? = w.heap[b]?) : SMap w' b n f := by
  obtain ⟨D, ⟨es, c, hb, rest⟩, hf⟩ := h
  exact ⟨D, ⟨es, c, e.trans hb, rest⟩, hf⟩
theorem SMap.mono (h : SMap w b n f) {m : Nat} (hm : n ≤ m) : SMap w b m f := by
  obtain ⟨D, h1, hf⟩ := h
  exact ⟨D, h1.mono hm, hf⟩
theorem SMap.congr (h : SMap w b n f) {g : Txt → Option Value} (e : ∀ i, f i = g i) : SMap w b n g := by
  obtain ⟨D, h1, hf⟩ := h
  exact ⟨D, h1, fun i => by rw [← e i]; exact hf i⟩
theorem satKey_not {D : DataW Value} {k : Lit} (h : Maps.has D k = false) (z : DataW Value) : D.atKey k z = z := Maps.atKey_of_not_has h z

theorem SMap.look (h : SMap w b n f) {t e : TypeId} (ht : Tryz.prog.underlying t = some (.map 9 e)) {z : Value} (hz : (zeroValue e).run Tryz.prog w = .ok z w) {x : Txt} (hx : x.length ≤ maxLen) :
    (Instr.lookup t (.map (some b)) (encStr x) true).run Tryz.prog w = .ok (.tuple #[(f x).getD z, .bool (f x).isSome]) w := by
  obtain ⟨D, h1, hf⟩ := h
  obtain ⟨v, ps, hrun, hv⟩ := h1.look_ok str_key ht hz (show asIt z = some (.held z, []) from rfl) (skey_of hx)
  obtain ⟨hh, ha⟩ := hf x
  rw [hrun, hh]
  have hv' : DataW.held v = D.atKey (.string x) (.held z) := by
    have := Option.some.inj hv
    exact congrArg Prod.fst this
  rcases hfi : f x with _ | u
  · rw [hfi] at hh
    rw [satKey_not hh] at hv'
    cases hv'; rfl
  · rw [ha u _ hfi] at hv'
    cases hv'; rfl
theorem SMap.get (h : SMap w b n f) {t e : TypeId} (ht : Tryz.prog.underlying t = some (.map 9 e)) {z : Value} (hz : (zeroValue e).run Tryz.prog w = .ok z w) {x : Txt} (hx : x.length ≤ maxLen) {u : Value} (hu : f x = some u) :
    (Instr.lookup t (.map (some b)) (encStr x) false).run Tryz.prog w = .ok u w := by
  obtain ⟨D, h1, hf⟩ := h
  obtain ⟨v, ps, hrun, hv⟩ := h1.lookup str_key ht hz (show asIt z = some (.held z, []) from rfl) (skey_of hx)
  obtain ⟨hh, ha⟩ := hf x
  rw [hrun]
  have hv' : DataW.held v = D.atKey (.string x) (.held z) := by
    have := Option.some.inj hv
    exact congrArg Prod.fst this
  rw [ha u _ hu] at hv'
  cases hv'; rfl
theorem SMap.store (h : SMap w b n f) {t e : TypeId} (ht : Tryz.prog.underlying t = some (.map 9 e)) (hn : n < maxLen) {x : Txt} (hx : x.length ≤ maxLen) (u : Value) :
    ∃ w', (Instr.mapUpdate t (.map (some b)) (encStr x) u).run Tryz.prog w = .ok () w' ∧ SMap w' b (n + 1) (fun j => if j = x then some u else f j) ∧ w.grownBy w' (some b) := by
  obtain ⟨D, h1, hf⟩ := h
  obtain ⟨w', hrun, h2, h3⟩ := h1.update str_key ht hn (skey_of hx) (show asIt u = some (.held u, []) from rfl)
  refine ⟨w', hrun, ⟨_, h2, fun j => ?_⟩, h3⟩
  by_cases e : j = x
  · subst e
    show Maps.has _ _ = (if j = j then some u else f j).isSome ∧ ∀ v z, (if j = j then some u else f j) = some v → _
    rw [if_pos rfl]
    refine ⟨has_put_same h1.isMap (by trivial) _, fun v z hv => ?_⟩
    cases hv
    exact atKey_put_same h1.isMap (by trivial) _ _
  · show Maps.has _ _ = (if j = x then some u else f j).isSome ∧ ∀ v z, (if j = x then some u else f j) = some v → _
    rw [if_neg e]
    have hne : (Lit.string j) ≠ Lit.string x := fun h => e (by injection h)
    rw [has_put_other hne]
    refine ⟨(hf j).1, fun v z hv => ?_⟩
    rw [atKey_put_other hne]
    exact (hf j).2 v z hv
theorem SMap.delete (h : SMap w b n f) {t e : TypeId} (ht : Tryz.prog.underlying t = some (.map 9 e)) {x : Txt} (hx : x.length ≤ maxLen) (ty : TypeId) :
    ∃ w', (Builtin.delete_ #[t, 9] ty #[.map (some b), encStr x]).run Tryz.prog w = .ok (.tuple #[]) w' ∧ SMap w' b n (fun j => if j = x then none else f j) ∧ w.grownBy w' (some b) := by
  obtain ⟨D, h1, hf⟩ := h
  obtain ⟨w', hrun, h2, h3⟩ := h1.drop str_key ht (skey_of hx) ty
  refine ⟨w', hrun, ⟨_, h2, fun j => ?_⟩, h3.grown⟩
  by_cases e : j = x
  · subst e
    show Maps.has _ _ = (if j = j then none else f j).isSome ∧ ∀ v z, (if j = j then none else f j) = some v → _
    rw [if_pos rfl]
    exact ⟨has_del_same, fun v z hv => by cases hv⟩
  · show Maps.has _ _ = (if j = x then none else f j).isSome ∧ ∀ v z, (if j = x then none else f j) = some v → _
    rw [if_neg e]
    have hne : (Lit.string j) ≠ Lit.string x := fun h => e (by injection h)
    rw [has_del_other hne]
    refine ⟨(hf j).1, fun v z hv => ?_⟩
    rw [atKey_del_other hne]
    exact (hf j).2 v z hv
theorem SMap.clear_ (h : SMap w b n f) {t e : TypeId} (ht : Tryz.prog.underlying t = some (.map 9 e)) (ty : TypeId) :
    ∃ w', (Builtin.clear_ #[t] ty #[.map (some b)]).run Tryz.prog w = .ok (.tuple #[]) w' ∧ SMap w' b 0 (fun _ => none) ∧ w.grownBy w' (some b) := by
  obtain ⟨D, ⟨es, c, hb, _⟩, _⟩ := h
  refine ⟨ChangeMaps.setBlock w b (.map #[] c), ?_, ⟨.map [], ⟨#[], c, heap_setBlock_same hb _, ⟨by simp, stamped_empty c, by simp⟩, Nat.le_refl _, rfl⟩, fun i => ⟨rfl, fun v z h => by cases h⟩⟩, ⟨rfl, rfl, rfl, by simp [ChangeMaps.setBlock], fun i _ hi => heap_setBlock_other hb _ (fun e => hi (by rw [e]))⟩⟩
  simp [Builtin.clear_, run_underlying ht, MapKept.run_getObj_map hb, MapKept.run_setObj_map _ hb, Result.andThen]
  rfl

theorem SFun.none_ {D : DataW Value} (h : SFun D f) {x : Txt} (e : f x = none) : Maps.has D (.string x) = false := by rw [(h x).1, e]; rfl
theorem SMap.range (h : SMap w b n f) {t e : TypeId} (ht : Tryz.prog.underlying t = some (.map 9 e)) :
    ∃ w' cnt, (Instr.range t (.map (some b))).run Tryz.prog w = .ok (.pointer (some ⟨w.heap.size, 0, none⟩)) w' ∧ SRange w' b w.heap.size n f (fun x => (f x).isSome) cnt ∧ cnt ≤ n ∧ w.grownBy w' none ∧ w'.heap.size = w.heap.size + 1 := by
  obtain ⟨D, h1, hf⟩ := h
  obtain ⟨w', hrun, h2, h3, h4⟩ := h1.range str_key ht
  exact ⟨w', _, hrun, ⟨D, _, h2, hf, fun x => (hf x).1⟩, h1.size_le, h3, h4⟩
theorem SRange.owns (h : SRange w b r n f left cnt) : SMap w b n f := by
  obtain ⟨D, lf, h1, hf, _⟩ := h
  exact ⟨D, h1.owns, hf⟩
theorem SRange.ne (h : SRange w b r n f left cnt) : r ≠ b := by
  obtain ⟨D, lf, h1, _⟩ := h
  exact h1.ne
theorem SRange.lt (h : SRange w b r n f left cnt) : r < w.heap.size := by
  obtain ⟨D, lf, h1, _⟩ := h
  exact h1.lt
theorem SRange.left_eq (h : SRange w b r n f left cnt) : w.rangeLeft b r = cnt := by
  obtain ⟨D, lf, h1, _⟩ := h
  exact h1.left_eq
theorem SRange.keep (h : SRange w b r n f left cnt) (e1 : w'.heap[b]? = w.heap[b]?) (e2 : w'.heap[r]? = w.heap[r]?) : SRange w' b r n f left cnt := by
  obtain ⟨D, lf, ⟨es, clock, since, seen, c0, hb, F, hs, hD, hr, rest⟩, hf, hl⟩ := h
  exact ⟨D, lf, ⟨es, clock, since, seen, c0, e1.trans hb, F, hs, hD, e2.trans hr, rest⟩, hf, hl⟩
theorem SRange.next (h : SRange w b r n f left cnt) (ty : TypeId) :
    (cnt = 0 ∧ (∀ x, left x = false) ∧ (Instr.next (.pointer (some ⟨r, 0, none⟩)) false ty).run Tryz.prog w = .ok (.tuple #[.bool false]) w) ∨
    ∃ x v w' cnt', x.length ≤ maxLen ∧ left x = true ∧ f x = some v ∧ (Instr.next (.pointer (some ⟨r, 0, none⟩)) false ty).run Tryz.prog w = .ok (.tuple #[.bool true, encStr x, v]) w' ∧
      SRange w' b r n f (fun z => left z && !decide (z = x)) cnt' ∧ cnt' < cnt ∧ w.grownBy w' (some r) ∧ w'.heap.size = w.heap.size ∧ (Instr.entry (.pointer (some ⟨r, 0, none⟩))).run Tryz.prog w' = .ok (.tuple #[encStr x, v]) w' := by
  obtain ⟨D, lf, h1, hf, hl⟩ := h
  rcases h1.next str_key ty with ⟨h0, hn, hrun⟩ | ⟨key, v, kl, y, w', cnt', hkey, hlk, hv, hat, hrun, hrg, hlt, hgr, hsz, hen⟩
  · exact .inl ⟨h0, fun x => by rw [← hl x]; exact hn _, hrun⟩
  · obtain ⟨x, rfl, rfl, hx⟩ := Maps.keyOf_str Tryz.underlying9 hkey
    obtain rfl := asIt_inv hv
    refine .inr ⟨x, v, w', cnt', hx, by rw [← hl x]; exact hlk, ?_, hrun, ⟨D, _, hrg, hf, fun z => ?_⟩, hlt, hgr, hsz, hen⟩
    · rcases hfx : f x with _ | u
      · have h2 := hat (.map [])
        rw [satKey_not (hf.none_ hfx)] at h2
        cases h2
      · have h2 := hat (.map [])
        rw [(hf x).2 u _ hfx] at h2
        cases h2; rfl
    · show (lf (.string z) && !(Lit.string z).sameKey (.string x)) = _
      rw [hl z]
      congr 2
      rw [Bool.eq_iff_iff]
      simp [Lit.sameKey]

/-- A map has no more entries than there are texts at which something stands. -/
theorem snodup_sub : ∀ (l m : List Txt), l.Nodup → (∀ x ∈ l, x ∈ m) → l.length ≤ m.length
  | [], m, _, _ => Nat.zero_le _
  | x :: r, m, hn, h => by
    have hn' := List.nodup_cons.1 hn
    have h1 := snodup_sub r (m.erase x) hn'.2 (fun y hy => (List.mem_erase_of_ne (fun e => hn'.1 (by rw [← e]; exact hy))).2 (h y (List.mem_cons_of_mem _ hy)))
    have h2 := List.length_erase_of_mem (h x (List.mem_cons_self ..))
    have h3 : 0 < m.length := List.length_pos_of_mem (h x (List.mem_cons_self ..))
    rw [List.length_cons]
    omega
theorem SMap.tight (h : SMap w b n f) (ks : List Txt) (hk : ∀ i, f i ≠ none → i ∈ ks) : SMap w b ks.length f := by
  obtain ⟨D, hD, hf⟩ := h
  obtain ⟨es, rfl, hne, hkey⟩ := hD.entries str_key
  have hint : ∀ p ∈ es, ∃ i : Txt, p.1 = .string i := by
    obtain ⟨es', c, hb, Ft, hs, he⟩ := hD
    intro p hp
    injection he with he
    rw [he] at hp
    obtain ⟨x, hx, rfl⟩ := List.mem_map.1 (mem_sorted.1 hp)
    obtain ⟨y, hy⟩ := Ft.reads x hx
    rw [WideElems.rg_of hy]
    obtain ⟨i, _, e, _⟩ := Maps.keyOf_str Tryz.underlying9 (WideElems.rd_key hy)
    exact ⟨i, e⟩
  have hlen : es.length ≤ ks.length := by
    have hsub : ∀ i ∈ es.map (fun p => strOf p.1), i ∈ ks := by
      intro i hi
      obtain ⟨p, hp, rfl⟩ := List.mem_map.1 hi
      obtain ⟨i, e⟩ := hint p hp
      rw [e]
      refine hk i (fun e0 => ?_)
      have := (hf i).1
      rw [e0, Maps.has_eq] at this
      have h2 : es.any (fun p => p.1.sameKey (.string i)) = true := List.any_eq_true.2 ⟨p, hp, by rw [e]; simp [Lit.sameKey]⟩
      rw [h2] at this
      cases this
    have hnd : (es.map (fun p => strOf p.1)).Nodup := by
      rw [List.nodup_iff_pairwise_ne, List.pairwise_map]
      refine hne.imp_of_mem fun {p q} hp hq hpq e => hpq ?_
      obtain ⟨i, hi⟩ := hint p hp
      obtain ⟨j, hj⟩ := hint q hq
      rw [hi, hj] at e ⊢
      have : i = j := e
      rw [this]
    have := snodup_sub _ ks hnd hsub
    simpa using this
  obtain ⟨es', c, hb, Ft, hs, he⟩ := hD
  refine ⟨_, ⟨es', c, hb, Ft, ?_, he⟩, hf⟩
  injection he with he
  have : es.length = es'.size := by rw [he, length_sorted]; simp
  omega
end

end Go.Proofs.YtlcbmobdokicaaaGreat

/-
  A view over plain lists: what the store has, what was changed since; what Get, Put, Delete, Scan, Changes, Commit and Abort come to. Plain facts; no condition.
-/
namespace Go.Proofs.YtlcbmobdokicaaaGreat
set_option linter.unusedVariables false

/-- Pairs, rising by their keys. -/
abbrev TL := List (Txt × List Int)
/-- A view: what its store has, and the changes since (a value, or gone). -/
structure VS where
  W : TL
  C : List (Txt × Option (List Int))
namespace VS
/-- What a key will have. -/
def now (S : VS) (x : Txt) : Option (List Int) := match lookT S.C x with
  | some c => c
  | none => lookT S.W x
def put (S : VS) (x : Txt) (v : List Int) : VS := ⟨S.W, setT S.C x (some v)⟩
def del (S : VS) (x : Txt) : VS := ⟨S.W, setT S.C x none⟩
def abort (S : VS) : VS := ⟨S.W, []⟩
/-- One change, done. -/
def one (L : TL) (p : Txt × Option (List Int)) : TL := match p.2 with
  | some v => setT L p.1 v
  | none => delT L p.1
/-- All pairs as they will be. -/
def nowL (S : VS) : TL := S.C.foldl one S.W
def putsF (W : TL) (p : Txt × Option (List Int)) : Option (Txt × List Int) := match p.2 with
  | some v => if lookT W p.1 = some v then none else some (p.1, v)
  | none => none
def delsF (W : TL) (p : Txt × Option (List Int)) : Option Txt := match p.2 with
  | some v => none
  | none => if (lookT W p.1).isSome then some p.1 else none
def puts (S : VS) : TL := S.C.filterMap (putsF S.W)
def dels (S : VS) : List Txt := S.C.filterMap (delsF S.W)
def written (W : TL) (puts : TL) (dels : List Txt) : TL := puts.foldl (fun L p => setT L p.1 p.2) (dels.foldl delT W)
def commit (S : VS) : VS := ⟨written S.W S.puts S.dels, []⟩
def scan (S : VS) (x : Txt) : TL := S.nowL.filter fun p => x.isPrefixOf p.1
/-- Both lists rise. -/
structure Ok (S : VS) : Prop where
  w : RiseT S.W
  c : RiseT S.C

theorem one_rise {L : TL} (h : RiseT L) (p : Txt × Option (List Int)) : RiseT (one L p) := by
  unfold one
  split
  · exact h.set _ _
  · exact h.del _
theorem one_look {L : TL} (h : RiseT L) (p : Txt × Option (List Int)) (y : Txt) : lookT (one L p) y = if p.1 = y then p.2 else lookT L y := by
  unfold one
  split
  · rename_i v e
    rw [lookT_setT h, e]
  · rename_i e
    rw [lookT_delT, e]
theorem fold_one : ∀ (C : List (Txt × Option (List Int))) (L : TL), RiseT L → RiseT C → RiseT (C.foldl one L) ∧ ∀ y, lookT (C.foldl one L) y = match lookT C y with | some c => c | none => lookT L y
  | [], L, h, _ => ⟨h, fun y => by simp [lookT]⟩
  | p :: C, L, h, hC => by
    have ih := fold_one C (one L p) (one_rise h p) hC.tail
    refine ⟨ih.1, fun y => ?_⟩
    rw [List.foldl_cons, ih.2 y, one_look h]
    rw [lookT_cons]
    by_cases e : p.1 = y
    · have : lookT C y = none := lookT_none.2 fun q hq e' => by
        have := hC.head q hq
        rw [e', e] at this
        exact tlt_irrefl _ this
      rw [this, if_pos e, if_pos e]
    · rw [if_neg e, if_neg e]
theorem Ok.nowL {S : VS} (h : S.Ok) : RiseT S.nowL := (fold_one S.C S.W h.w h.c).1
theorem Ok.look {S : VS} (h : S.Ok) (y : Txt) : lookT S.nowL y = S.now y := (fold_one S.C S.W h.w h.c).2 y
theorem Ok.put {S : VS} (h : S.Ok) (x : Txt) (v : List Int) : (S.put x v).Ok := ⟨h.w, h.c.set _ _⟩
theorem Ok.del {S : VS} (h : S.Ok) (x : Txt) : (S.del x).Ok := ⟨h.w, h.c.set _ _⟩
theorem Ok.abort {S : VS} (h : S.Ok) : S.abort.Ok := ⟨h.w, List.Pairwise.nil⟩
theorem Ok.now_put {S : VS} (h : S.Ok) (x y : Txt) (v : List Int) : (S.put x v).now y = if x = y then some v else S.now y := by
  unfold now
  show (match lookT (setT S.C x (some v)) y with | some c => c | none => lookT S.W y) = _
  rw [lookT_setT h.c]
  by_cases e : x = y
  · rw [if_pos e, if_pos e]
  · rw [if_neg e, if_neg e]
theorem Ok.now_del {S : VS} (h : S.Ok) (x y : Txt) : (S.del x).now y = if x = y then none else S.now y := by
  unfold now
  show (match lookT (setT S.C x none) y with | some c => c | none => lookT S.W y) = _
  rw [lookT_setT h.c]
  by_cases e : x = y
  · rw [if_pos e, if_pos e]
  · rw [if_neg e, if_neg e]
theorem now_abort (S : VS) (y : Txt) : S.abort.now y = lookT S.W y := rfl
theorem sets_look : ∀ (P : TL) (L : TL), RiseT L → RiseT P → RiseT (P.foldl (fun L p => setT L p.1 p.2) L) ∧ ∀ y, lookT (P.foldl (fun L p => setT L p.1 p.2) L) y = match lookT P y with | some v => some v | none => lookT L y
  | [], L, h, _ => ⟨h, fun y => by simp [lookT]⟩
  | p :: C, L, h, hC => by
    have ih := sets_look C (setT L p.1 p.2) (h.set _ _) hC.tail
    refine ⟨ih.1, fun y => ?_⟩
    rw [List.foldl_cons, ih.2 y, lookT_setT h]
    rw [lookT_cons]
    by_cases e : p.1 = y
    · have : lookT C y = none := lookT_none.2 fun q hq e' => by
        have := hC.head q hq
        rw [e', e] at this
        exact tlt_irrefl _ this
      rw [this, if_pos e, if_pos e]
    · rw [if_neg e, if_neg e]
theorem dels_look : ∀ (P : List Txt) (L : TL), RiseT L → RiseT (P.foldl delT L) ∧ ∀ y, lookT (P.foldl delT L) y = if y ∈ P then none else lookT L y
  | [], L, h => ⟨h, fun y => by simp⟩
  | p :: C, L, h => by
    have ih := dels_look C (delT L p) (h.del _)
    refine ⟨ih.1, fun y => ?_⟩
    rw [List.foldl_cons, ih.2 y, lookT_delT]
    by_cases e : p = y
    · subst e
      simp
    · by_cases e2 : y ∈ C
      · rw [if_pos e2, if_pos (List.mem_cons_of_mem _ e2)]
      · rw [if_neg e2, if_neg e, if_neg (fun h => by
          rcases List.mem_cons.1 h with a | a
          · exact e a.symm
          · exact e2 a)]
theorem rise_fm {f : Txt × Option (List Int) → Option (Txt × List Int)} (hf : ∀ p q, f p = some q → q.1 = p.1) : ∀ {C : List (Txt × Option (List Int))}, RiseT C → RiseT (C.filterMap f) := by
  intro C hC
  refine List.Pairwise.filterMap f ?_ hC
  intro a a' h b hb b' hb'
  rw [hf a b hb, hf a' b' hb']
  exact h
theorem putsF_key {W : TL} {p : Txt × Option (List Int)} {q : Txt × List Int} (h : putsF W p = some q) : q.1 = p.1 ∧ p.2 = some q.2 ∧ lookT W p.1 ≠ p.2 := by
  unfold putsF at h
  split at h
  · rename_i v e
    split at h
    · cases h
    · rename_i e1
      cases h
      exact ⟨rfl, e, by rw [e]; exact e1⟩
  · cases h
theorem Ok.puts {S : VS} (h : S.Ok) : RiseT S.puts := rise_fm (fun p q e => (putsF_key e).1) h.c
theorem Ok.puts_look {S : VS} (h : S.Ok) (y : Txt) : lookT S.puts y = match lookT S.C y with | some (some v) => if lookT S.W y = some v then none else some v | _ => none := by
  cases hc : lookT S.C y with
  | none =>
    show lookT S.puts y = none
    rw [lookT_none]
    intro q hq e
    obtain ⟨p, hp, hpq⟩ := List.mem_filterMap.1 hq
    have := lookT_none.1 hc p hp
    exact this ((putsF_key hpq).1.symm.trans e)
  | some c =>
    have hm := lookT_mem hc
    cases c with
    | none =>
      show lookT S.puts y = none
      rw [lookT_none]
      intro q hq e
      obtain ⟨p, hp, hpq⟩ := List.mem_filterMap.1 hq
      obtain ⟨k1, k2, _⟩ := putsF_key hpq
      have h1 := h.c.look (show (p.1, p.2) ∈ S.C from hp)
      rw [← k1, e, hc, k2] at h1
      cases h1
    | some v =>
      show lookT S.puts y = if lookT S.W y = some v then none else some v
      by_cases e : lookT S.W y = some v
      · rw [if_pos e, lookT_none]
        intro q hq e'
        obtain ⟨p, hp, hpq⟩ := List.mem_filterMap.1 hq
        obtain ⟨k1, k2, k3⟩ := putsF_key hpq
        have h1 := h.c.look (show (p.1, p.2) ∈ S.C from hp)
        have k4 : p.1 = y := k1.symm.trans e'
        rw [k4, hc] at h1
        have h2 : some v = p.2 := Option.some.inj h1
        rw [k4, e] at k3
        exact k3 h2
      · rw [if_neg e]
        refine h.puts.look (List.mem_filterMap.2 ⟨(y, some v), hm, ?_⟩)
        show (if lookT S.W y = some v then none else some (y, v)) = some (y, v)
        rw [if_neg e]
theorem Ok.mem_dels {S : VS} (h : S.Ok) (y : Txt) : y ∈ S.dels ↔ lookT S.C y = some none ∧ (lookT S.W y).isSome = true := by
  unfold dels
  rw [List.mem_filterMap]
  constructor
  · rintro ⟨p, hp, hpq⟩
    unfold delsF at hpq
    split at hpq
    · cases hpq
    · rename_i e
      split at hpq
      · rename_i e1
        cases hpq
        refine ⟨?_, e1⟩
        have := h.c.look (show (p.1, p.2) ∈ S.C from hp)
        rw [this, e]
      · cases hpq
  · rintro ⟨h1, h2⟩
    refine ⟨(y, none), lookT_mem h1, ?_⟩
    show (if (lookT S.W y).isSome = true then some y else none) = some y
    rw [if_pos h2]
theorem Ok.written {S : VS} (h : S.Ok) : RiseT (VS.written S.W S.puts S.dels) ∧ ∀ y, lookT (VS.written S.W S.puts S.dels) y = S.now y := by
  have h1 := dels_look S.dels S.W h.w
  have h2 := sets_look S.puts _ h1.1 h.puts
  refine ⟨h2.1, fun y => ?_⟩
  unfold VS.written
  rw [h2.2 y, h.puts_look y, h1.2 y]
  unfold now
  cases hc : lookT S.C y with
  | none =>
    show (if y ∈ S.dels then none else lookT S.W y) = lookT S.W y
    rw [if_neg (fun hm => by
      have := ((h.mem_dels y).1 hm).1
      rw [hc] at this
      cases this)]
  | some c =>
    cases c with
    | none =>
      show (if y ∈ S.dels then none else lookT S.W y) = none
      by_cases hm : y ∈ S.dels
      · rw [if_pos hm]
      · rw [if_neg hm]
        cases hw : lookT S.W y with
        | none => rfl
        | some u => exact absurd ((h.mem_dels y).2 ⟨hc, by rw [hw]; rfl⟩) hm
    | some v =>
      show (match (if lookT S.W y = some v then none else some v) with | some v => some v | none => if y ∈ S.dels then none else lookT S.W y) = some v
      by_cases e : lookT S.W y = some v
      · rw [if_pos e]
        show (if y ∈ S.dels then none else lookT S.W y) = some v
        rw [if_neg (fun hm => by
          have := ((h.mem_dels y).1 hm).1
          rw [hc] at this
          cases this), e]
      · rw [if_neg e]
theorem Ok.commit {S : VS} (h : S.Ok) : S.commit.Ok := ⟨h.written.1, List.Pairwise.nil⟩
theorem Ok.commitW {S : VS} (h : S.Ok) : S.commit.W = S.nowL := RiseT.ext h.written.1 h.nowL fun y => (h.written.2 y).trans (h.look y).symm
end VS

end Go.Proofs.YtlcbmobdokicaaaGreat
