/-
  The texts IMap, IRange, LinB joined. Conditions: those that each part says at its head.
-/
import Derived.Test.YtilhcchnlbdlhaaGreatBase
import Derived.Maps.OwnSet
import Derived.Maps.OwnOps
import Derived.Maps.RangeWalk
import Derived.Sort.KeysCollected
import Derived.Test.YtilhcchnlbdlhaaGreatLinA

/-
  Maps by whole numbers, as a function from numbers to what stands there, for any values: made, looked up, stored into, cleared; what keeps one. Condition of a store: fewer entries than 2^63 - 1.
-/
namespace Go.Proofs.YtilhcchnlbdlhaaGreat
open Go.RowKit Go.Maps Go.ChangeMaps Go.MapKept
set_option maxRecDepth 100000
set_option linter.unusedVariables false

/-- An element as itself. -/
def asItself (v : Value) : Option (DataW Value × List MemPlace) := some (.held v, [])
theorem int_key : Keyed Tryz.prog 3 := int_keyed Tryz.underlying3
theorem ikey_of {i : Int} (h : -9223372036854775808 ≤ i ∧ i ≤ 9223372036854775807) : keyOf Tryz.prog 3 (.int .i64 i) = some (.int .i64 i) :=
  keyOf_int_mk Tryz.underlying3 (WalkArith.wf_i64 (by omega))

/-- Block b of w is a map of at most n entries: at i stands f i. -/
def IMap (w : World) (b n : Nat) (f : Int → Option Value) : Prop :=
  ∃ D : DataW Value, w.ownsMap Tryz.prog 3 asItself b n D ∧ ∀ i : Int, Maps.has D (.int .i64 i) = (f i).isSome ∧ ∀ v z, f i = some v → D.atKey (.int .i64 i) z = .held v

section
variable {w w' : World} {b n : Nat} {f : Int → Option Value}
theorem IMap.made (w : World) : IMap (w.alloc (.map #[] 0)) w.heap.size 0 (fun _ => none) :=
  ⟨_, World.ownsMap_made w _ _ _, fun i => ⟨rfl, fun v z h => by cases h⟩⟩
theorem IMap.lt (h : IMap w b n f) : b < w.heap.size := by
  obtain ⟨D, h1, _⟩ := h
  exact h1.lt
theorem IMap.block (h : IMap w b n f) : ∃ es c, w.heap[b]? = some (.map es c) := by
  obtain ⟨D, ⟨es, c, hb, _⟩, _⟩ := h
  exact ⟨es, c, hb⟩
theorem IMap.of_block (h : IMap w b n f) (e : w'.heap[b]? = w.heap[b]?) : IMap w' b n f := by
  obtain ⟨D, ⟨es, c, hb, rest⟩, hf⟩ := h
  exact ⟨D, ⟨es, c, e.trans hb, rest⟩, hf⟩
theorem IMap.mono (h : IMap w b n f) {m : Nat} (hm : n ≤ m) : IMap w b m f := by
  obtain ⟨D, h1, hf⟩ := h
  exact ⟨D, h1.mono hm, hf⟩
theorem IMap.congr (h : IMap w b n f) {g : Int → Option Value} (e : ∀ i, f i = g i) : IMap w b n g := by
  obtain ⟨D, h1, hf⟩ := h
  exact ⟨D, h1, fun i => by rw [← e i]; exact hf i⟩
theorem atKey_not {D : DataW Value} {k : Lit} (h : Maps.has D k = false) (z : DataW Value) : D.atKey k z = z := Maps.atKey_of_not_has h z

theorem IMap.look (h : IMap w b n f) {t e : TypeId} (ht : Tryz.prog.underlying t = some (.map 3 e)) {z : Value} (hz : (zeroValue e).run Tryz.prog w = .ok z w) {i : Int} (hi : -9223372036854775808 ≤ i ∧ i ≤ 9223372036854775807) :
    (Instr.lookup t (.map (some b)) (.int .i64 i) true).run Tryz.prog w = .ok (.tuple #[(f i).getD z, .bool (f i).isSome]) w := by
  obtain ⟨D, h1, hf⟩ := h
  obtain ⟨v, ps, hrun, hv⟩ := h1.look_ok int_key ht hz (show asItself z = some (.held z, []) from rfl) (ikey_of hi)
  obtain ⟨hh, ha⟩ := hf i
  rw [hrun, hh]
  have hv' : DataW.held v = D.atKey (.int .i64 i) (.held z) := by
    have := Option.some.inj hv
    exact congrArg Prod.fst this
  rcases hfi : f i with _ | u
  · rw [hfi] at hh
    rw [atKey_not hh] at hv'
    cases hv'; rfl
  · rw [ha u _ hfi] at hv'
    cases hv'; rfl
theorem IMap.get (h : IMap w b n f) {t e : TypeId} (ht : Tryz.prog.underlying t = some (.map 3 e)) {z : Value} (hz : (zeroValue e).run Tryz.prog w = .ok z w) {i : Int} (hi : -9223372036854775808 ≤ i ∧ i ≤ 9223372036854775807) {u : Value} (hu : f i = some u) :
    (Instr.lookup t (.map (some b)) (.int .i64 i) false).run Tryz.prog w = .ok u w := by
  obtain ⟨D, h1, hf⟩ := h
  obtain ⟨v, ps, hrun, hv⟩ := h1.lookup int_key ht hz (show asItself z = some (.held z, []) from rfl) (ikey_of hi)
  obtain ⟨hh, ha⟩ := hf i
  rw [hrun]
  have hv' : DataW.held v = D.atKey (.int .i64 i) (.held z) := by
    have := Option.some.inj hv
    exact congrArg Prod.fst this
  rw [ha u _ hu] at hv'
  cases hv'; rfl
theorem IMap.store (h : IMap w b n f) {t e : TypeId} (ht : Tryz.prog.underlying t = some (.map 3 e)) (hn : n < maxLen) {i : Int} (hi : -9223372036854775808 ≤ i ∧ i ≤ 9223372036854775807) (u : Value) :
    ∃ w', (Instr.mapUpdate t (.map (some b)) (.int .i64 i) u).run Tryz.prog w = .ok () w' ∧ IMap w' b (n + 1) (fun j => if j = i then some u else f j) ∧ w.grownBy w' (some b) := by
  obtain ⟨D, h1, hf⟩ := h
  obtain ⟨w', hrun, h2, h3⟩ := h1.update int_key ht hn (ikey_of hi) (show asItself u = some (.held u, []) from rfl)
  refine ⟨w', hrun, ⟨_, h2, fun j => ?_⟩, h3⟩
  by_cases e : j = i
  · subst e
    show Maps.has _ _ = (if j = j then some u else f j).isSome ∧ ∀ v z, (if j = j then some u else f j) = some v → _
    rw [if_pos rfl]
    refine ⟨has_put_same h1.isMap (by trivial) _, fun v z hv => ?_⟩
    cases hv
    exact atKey_put_same h1.isMap (by trivial) _ _
  · show Maps.has _ _ = (if j = i then some u else f j).isSome ∧ ∀ v z, (if j = i then some u else f j) = some v → _
    rw [if_neg e]
    have hne : (Lit.int IntKind.i64 j) ≠ Lit.int IntKind.i64 i := fun h => e (by injection h)
    rw [has_put_other hne]
    refine ⟨(hf j).1, fun v z hv => ?_⟩
    rw [atKey_put_other hne]
    exact (hf j).2 v z hv
theorem IMap.clear_ (h : IMap w b n f) {t e : TypeId} (ht : Tryz.prog.underlying t = some (.map 3 e)) (ty : TypeId) :
    ∃ w', (Builtin.clear_ #[t] ty #[.map (some b)]).run Tryz.prog w = .ok (.tuple #[]) w' ∧ IMap w' b 0 (fun _ => none) ∧ w.grownBy w' (some b) := by
  obtain ⟨D, ⟨es, c, hb, _⟩, _⟩ := h
  refine ⟨ChangeMaps.setBlock w b (.map #[] c), ?_, ⟨.map [], ⟨#[], c, heap_setBlock_same hb _, ⟨by simp, stamped_empty c, by simp⟩, Nat.le_refl _, rfl⟩, fun i => ⟨rfl, fun v z h => by cases h⟩⟩, ⟨rfl, rfl, rfl, by simp [ChangeMaps.setBlock], fun i _ hi => heap_setBlock_other hb _ (fun e => hi (by rw [e]))⟩⟩
  simp [Builtin.clear_, run_underlying ht, MapKept.run_getObj_map hb, MapKept.run_setObj_map _ hb, Result.andThen]
  rfl
end

end Go.Proofs.YtilhcchnlbdlhaaGreat

/-
  A range over a map by whole numbers: what is left to come, what comes next; how many entries such a map has at most. No condition.
-/
namespace Go.Proofs.YtilhcchnlbdlhaaGreat
open Go.RowKit Go.Maps Go.ChangeMaps Go.MapKept Go.WideMaps
set_option maxRecDepth 100000
set_option linter.unusedVariables false

theorem asItself_inv {v : Value} {y : DataW Value × List MemPlace} (h : asItself v = some y) : y = (.held v, []) := (Option.some.inj h).symm
theorem keyOf_int_inv {kv : Value} {kl : Lit} (h : keyOf Tryz.prog 3 kv = some kl) : ∃ i : Int, kv = .int .i64 i ∧ kl = .int .i64 i ∧ -9223372036854775808 ≤ i ∧ i ≤ 9223372036854775807 := by
  have hk := Tryz.underlying3
  cases kv <;> simp [keyOf, hk, mapKey] at h
  obtain ⟨⟨rfl, hw⟩, rfl⟩ := h
  refine ⟨_, rfl, rfl, ?_⟩
  simp [Lit.wf, IntKind.min, IntKind.max, IntKind.signed, IntKind.bits] at hw
  omega

/-- An iterator at block r over the map at block b: left x: the entry at x is still to come. -/
def IRange (w : World) (b r n : Nat) (f : Int → Option Value) (left : Int → Bool) (cnt : Nat) : Prop :=
  ∃ (D : DataW Value) (lf : Lit → Bool), w.ranges Tryz.prog 3 asItself b r n D lf cnt ∧ (∀ i : Int, Maps.has D (.int .i64 i) = (f i).isSome ∧ ∀ v z, f i = some v → D.atKey (.int .i64 i) z = .held v) ∧ ∀ x, lf (.int .i64 x) = left x

section
variable {w w' : World} {b r n cnt : Nat} {f : Int → Option Value} {left : Int → Bool}
theorem IMap.range (h : IMap w b n f) {t e : TypeId} (ht : Tryz.prog.underlying t = some (.map 3 e)) :
    ∃ w' cnt, (Instr.range t (.map (some b))).run Tryz.prog w = .ok (.pointer (some ⟨w.heap.size, 0, none⟩)) w' ∧ IRange w' b w.heap.size n f (fun x => (f x).isSome) cnt ∧ cnt ≤ n ∧ w.grownBy w' none ∧ w'.heap.size = w.heap.size + 1 := by
  obtain ⟨D, h1, hf⟩ := h
  obtain ⟨w', hrun, h2, h3, h4⟩ := h1.range int_key ht
  exact ⟨w', _, hrun, ⟨D, _, h2, hf, fun x => (hf x).1⟩, h1.size_le, h3, h4⟩
theorem IMap.getD (h : IMap w b n f) {t e : TypeId} (ht : Tryz.prog.underlying t = some (.map 3 e)) {z : Value} (hz : (zeroValue e).run Tryz.prog w = .ok z w) {i : Int} (hi : -9223372036854775808 ≤ i ∧ i ≤ 9223372036854775807) :
    (Instr.lookup t (.map (some b)) (.int .i64 i) false).run Tryz.prog w = .ok ((f i).getD z) w := by
  obtain ⟨D, h1, hf⟩ := h
  obtain ⟨v, ps, hrun, hv⟩ := h1.lookup int_key ht hz (show asItself z = some (.held z, []) from rfl) (ikey_of hi)
  obtain ⟨hh, ha⟩ := hf i
  rw [hrun]
  have hv' : DataW.held v = D.atKey (.int .i64 i) (.held z) := by
    have := Option.some.inj hv
    exact congrArg Prod.fst this
  rcases hfi : f i with _ | u
  · rw [hfi] at hh
    rw [atKey_not hh] at hv'
    cases hv'; rfl
  · rw [ha u _ hfi] at hv'
    cases hv'; rfl
theorem IRange.owns (h : IRange w b r n f left cnt) : IMap w b n f := by
  obtain ⟨D, lf, h1, hf, _⟩ := h
  exact ⟨D, h1.owns, hf⟩
theorem IRange.ne (h : IRange w b r n f left cnt) : r ≠ b := by
  obtain ⟨D, lf, h1, _⟩ := h
  exact h1.ne
theorem IRange.lt (h : IRange w b r n f left cnt) : r < w.heap.size := by
  obtain ⟨D, lf, h1, _⟩ := h
  exact h1.lt
theorem IRange.left_eq (h : IRange w b r n f left cnt) : w.rangeLeft b r = cnt := by
  obtain ⟨D, lf, h1, _⟩ := h
  exact h1.left_eq
theorem IRange.keep (h : IRange w b r n f left cnt) (e1 : w'.heap[b]? = w.heap[b]?) (e2 : w'.heap[r]? = w.heap[r]?) : IRange w' b r n f left cnt := by
  obtain ⟨D, lf, ⟨es, clock, since, seen, c0, hb, F, hs, hD, hr, rest⟩, hf, hl⟩ := h
  exact ⟨D, lf, ⟨es, clock, since, seen, c0, e1.trans hb, F, hs, hD, e2.trans hr, rest⟩, hf, hl⟩
theorem IRange.next (h : IRange w b r n f left cnt) (ty : TypeId) :
    (cnt = 0 ∧ (∀ x, left x = false) ∧ (Instr.next (.pointer (some ⟨r, 0, none⟩)) false ty).run Tryz.prog w = .ok (.tuple #[.bool false]) w) ∨
    ∃ x v w' cnt', (-9223372036854775808 ≤ x ∧ x ≤ 9223372036854775807) ∧ left x = true ∧ f x = some v ∧ (Instr.next (.pointer (some ⟨r, 0, none⟩)) false ty).run Tryz.prog w = .ok (.tuple #[.bool true, .int .i64 x, v]) w' ∧
      IRange w' b r n f (fun z => left z && !decide (z = x)) cnt' ∧ cnt' < cnt ∧ w.grownBy w' (some r) ∧ w'.heap.size = w.heap.size ∧ (Instr.entry (.pointer (some ⟨r, 0, none⟩))).run Tryz.prog w' = .ok (.tuple #[.int .i64 x, v]) w' := by
  obtain ⟨D, lf, h1, hf, hl⟩ := h
  rcases h1.next int_key ty with ⟨h0, hn, hrun⟩ | ⟨key, v, kl, y, w', cnt', hkey, hlk, hv, hat, hrun, hrg, hlt, hgr, hsz, hen⟩
  · exact .inl ⟨h0, fun x => by rw [← hl x]; exact hn _, hrun⟩
  · obtain ⟨x, rfl, rfl, hx⟩ := keyOf_int_inv hkey
    obtain rfl := asItself_inv hv
    refine .inr ⟨x, v, w', cnt', hx, by rw [← hl x]; exact hlk, ?_, hrun, ⟨D, _, hrg, hf, fun z => ?_⟩, hlt, hgr, hsz, hen⟩
    · rcases hfx : f x with _ | u
      · have h2 := hat (.map [])
        have h3 := (hf x).1
        rw [hfx] at h3
        rw [atKey_not h3] at h2
        cases h2
      · have h2 := hat (.map [])
        rw [(hf x).2 u _ hfx] at h2
        cases h2; rfl
    · show (lf (.int .i64 z) && !(Lit.int .i64 z).sameKey (.int .i64 x)) = _
      rw [hl z]
      congr 2
      rw [Bool.eq_iff_iff]
      simp [Lit.sameKey]
end
end Go.Proofs.YtilhcchnlbdlhaaGreat

/-
  Contract of lines.sums: a new map, from each fund of some lines to what they are together. Condition: fewer than 2^31 lines.
-/
namespace Go.Proofs.YtilhcchnlbdlhaaGreat
open Go.RowKit Go.Maps
set_option maxRecDepth 100000
set_option linter.unusedVariables false

/-- What a map of sums holds. -/
def mapF (L : FL) (i : Int) : Option Value := (lookF L i).map (Value.int .i64)
theorem mapF_step {l : List Ln} {j : Nat} {x : Ln} (h : l[j]? = some x) (hx : B64 x.a) (i : Int) : mapF (fundsOf (l.take (j + 1))) i = if i = x.f then some (.int .i64 (IntKind.i64.wrap ((lookF (fundsOf (l.take j)) x.f).getD 0 + x.a))) else mapF (fundsOf (l.take j)) i := by
  obtain ⟨hj, rfl⟩ := List.getElem?_eq_some_iff.1 h
  unfold mapF
  rw [List.take_succ_eq_append_getElem hj, fundsOf_snoc, addF_look _ _ _ (fundsOf_rise _) hx]
  split <;> rfl
theorem mapF_getD (L : FL) (i : Int) : (mapF L i).getD (.int .i64 0) = .int .i64 ((lookF L i).getD 0) := by
  unfold mapF
  cases lookF L i <;> rfl
theorem zero_int (w : World) : (zeroValue 3).run Tryz.prog w = .ok (.int .i64 0) w := by kernel_rfl

section
variable {w w' : World} {A : Option Addr} {n k B : Nat} {l : List Ln}
set_option maxHeartbeats 1600000 in
theorem sums_any (hr : RL w B A n l) (hB : B ≤ w.heap.size) (hn : n ≤ 2147483647) :
    Calls Tryz.prog 131 #[.slice A n k] w fun e w' => ∃ b, e = .returned (.map (some b)) ∧ w.heap.size ≤ b ∧ IMap w' b n (mapF (fundsOf l)) ∧ Below w.heap.size w w' := by
  have HR := Lib.hid (And.intro hr (And.intro hB hn))
  have h0 : IMap (w.alloc (.map #[] 0)) w.heap.size 0 (mapF (fundsOf (l.take 0))) := (IMap.made w).congr fun i => by rw [List.take_zero]; rfl
  have HM := Lib.hid (And.intro h0 ((Below.refl w.heap.size w).alloc (Nat.le_refl _) (.map #[] 0)))
  obtain ⟨m, hm⟩ : ∃ m, m = w.heap.size := ⟨_, rfl⟩
  rw [← hm] at HM
  have HMM := Lib.hid hm
  clear hr hB h0
  have hmk := @run_makeMap Tryz.prog
  go_enter Tryz.func131, Tryz.ntmps131
  go_wp2_with fail
  rw [← hm]
  clear hm
  go_loopw [9] (fun i wr => ∃ j : Nat, j ≤ n ∧ i = .int .i64 j ∧ Hid (IMap wr m j (mapF (fundsOf (l.take j))) ∧ Below m w wr)) (fun i _ => n - (intOf i).toNat)
  case atStart => exact ⟨0, Nat.zero_le _, rfl, HM⟩
  case round =>
    obtain ⟨j, hj, rfl, HI⟩ := hrel
    by_cases hlt : j < n
    · have hlt' : (j : Int) < (n : Int) := by omega
      obtain ⟨x, hx⟩ : ∃ x, l[j]? = some x := ⟨_, List.getElem?_eq_getElem (by rw [HR.out.1.len]; exact hlt)⟩
      have hok := HR.out.1.ok x (List.mem_of_getElem? hx)
      obtain ⟨hi, hb⟩ := HI.out
      obtain ⟨b, off, rfl, hbB, hat⟩ := HR.out.1.2.2 (by omega)
      obtain ⟨c0, c1, c2, c3⟩ := (hat j x hx).keep hbB (fun b o hbb => hb.cell (p := ⟨b, o, none⟩) (by rw [HMM.out]; exact Nat.lt_of_lt_of_le hbb HR.out.2.1))
      obtain ⟨xf, xo, xn, xa⟩ := x
      obtain ⟨w3, hw3⟩ : ∃ w3, w3 = wr.alloc (.cells #[.int .i64 xf, .int .i64 xo, .int .i64 xn, .int .i64 xa] 30) := ⟨_, rfl⟩
      have hb3 : Below m w w3 := by rw [hw3]; exact hb.alloc (by rw [HMM.out]; exact hb.size) _
      have hi3 : IMap w3 m j (mapF (fundsOf (l.take j))) := hi.of_block (by rw [hw3]; exact heap_alloc_old _ _ hi.lt)
      have hlook := hi3.getD Tryz.underlying184 (zero_int w3) (i := xf) hok.1
      rw [mapF_getD] at hlook
      have q0 : w3.cell? ⟨wr.heap.size, 0, none⟩ = some (.int .i64 xf) := by rw [hw3]; exact cell_of_row _ _ 0 _ _ (0, 0) (heap_alloc_new wr _)
      have q3 : w3.cell? ⟨wr.heap.size, 3, none⟩ = some (.int .i64 xa) := by rw [hw3]; exact cell_of_row _ _ 3 _ _ (0, 0) (heap_alloc_new wr _)
      have hstep := mapF_step hx hok.2.2.2
      generalize (lookF (fundsOf (l.take j)) xf).getD 0 = s at hlook hstep
      obtain ⟨z, hz⟩ : ∃ z, IntKind.i64.wrap (s + xa) = z := ⟨_, rfl⟩
      rw [hz] at hstep
      obtain ⟨w5, hrun, hi5, hg5⟩ := hi3.store Tryz.underlying184 (by have := HR.out.2.2; unfold maxLen; omega) (i := xf) hok.1 (.int .i64 z)
      have HE := Lib.hid (And.intro (hi5.congr fun i => (hstep i).symm) (hb3.grown hg5 (by rw [HMM.out]; exact hb3.size) (fun k hk => by injection hk with hk; rw [← hk]; exact Nat.le_refl _)))
      clear hx hok hi hb hat hb3 hi3 hi5 hg5 hstep HI
      rw [hw3] at hlook hrun q0 q3
      clear hw3
      go_wp2_with fail
      go_roundw
      case rel => exact ⟨j + 1, by omega, by go_num, HE⟩
      case measure => simp [intOf]; omega
    · obtain rfl : j = n := by omega
      have HE := HI
      clear HI
      go_wp2
      go_ret
      obtain ⟨h1, h2⟩ := HE.out
      rw [List.take_of_length_le (by rw [HR.out.1.len]; exact Nat.le_refl _)] at h1
      exact ⟨m, rfl, by rw [HMM.out]; exact Nat.le_refl _, h1, by rw [← HMM.out]; exact h2⟩
end
end Go.Proofs.YtilhcchnlbdlhaaGreat
