/-
  The texts ViewJ, ViewL joined. Conditions: those that each part says at its head.
-/
import Derived.Test.YtlcbmobdokicaaaGreatViewI

/-
  Contracts of the library's IndexFunc and DeleteFunc over pairs, with Scan's first closure. Condition: fewer than 2^32 pairs; what the closure says of each pair.
-/
namespace Go.Proofs.YtlcbmobdokicaaaGreat
open Go.RowKit Go.Maps
set_option maxRecDepth 100000
set_option linter.unusedVariables false

/-- Block g is a row of cap pairs' cells, the first n pairs' being vs. -/
def RowIs (w : World) (g n cap : Nat) (vs : List Value) : Prop := ∃ cur : Array Value, w.heap[g]? = some (.cells cur 111 (0, 0)) ∧ n ≤ cap ∧ cap ≤ maxLen ∧ cur.size = cap * 2 ∧ cur.toList.take (n * 2) = vs
/-- The pair x at place a of these cells. -/
def PairI (w : World) (Y : Nat → Prop) (vs : List Value) (a : Nat) (x : KV) : Prop := ∃ u1 u2, vs[a * 2]? = some u1 ∧ vs[a * 2 + 1]? = some u2 ∧ SV w Y u1 x.1 ∧ SV w Y u2 x.2
section
variable {w w' : World} {Y : Nat → Prop} {g n cap base : Nat} {vs : List Value}
theorem RowIs.len (h : RowIs w g n cap vs) : vs.length = n * 2 := by
  obtain ⟨cur, _, h1, _, h2, rfl⟩ := h
  rw [List.length_take, Array.length_toList, h2]
  omega
theorem RowIs.lt (h : RowIs w g n cap vs) : g < w.heap.size := by
  obtain ⟨cur, h1, _⟩ := h
  exact (Array.getElem?_eq_some_iff.1 h1).1
theorem RowIs.keep (h : RowIs w g n cap vs) (e : w'.heap[g]? = w.heap[g]?) : RowIs w' g n cap vs := by
  obtain ⟨cur, h1, h2⟩ := h
  exact ⟨cur, e.trans h1, h2⟩
theorem RowIs.cell (h : RowIs w g n cap vs) {k : Nat} {u : Value} (hu : vs[k]? = some u) : w.cell? ⟨g, k, none⟩ = some u := by
  have hl := h.len
  obtain ⟨cur, h1, h2, h3, h4, rfl⟩ := h
  have hk := (List.getElem?_eq_some_iff.1 hu).1
  rw [cell_of_row w g k cur _ (0, 0) h1, ← hu, List.getElem?_take, if_pos (by omega)]
  simp
theorem RowIs.frozen (h : RowIs w g n cap vs) (k : Nat) : w.frozen? ⟨g, k, none⟩ = false := by
  obtain ⟨cur, h1, _⟩ := h
  exact frozen_of_row w g k _ _ h1
theorem RowIs.set2 (h : RowIs w g n cap vs) {i : Nat} (hi : i < n) (u1 u2 : Value) : RowIs ((w.setCell ⟨g, i * 2, none⟩ u1).setCell ⟨g, i * 2 + 1, none⟩ u2) g n cap ((vs.set (i * 2) u1).set (i * 2 + 1) u2) := by
  obtain ⟨cur, h1, h2, h3, h4, rfl⟩ := h
  have e1 := heap_setCell_same w g (i * 2) cur 111 u1 h1
  have e2 := heap_setCell_same _ g (i * 2 + 1) _ 111 u2 e1
  refine ⟨_, e2, h2, h3, by simpa using h4, ?_⟩
  simp only [Array.toList_setIfInBounds, List.take_set]
theorem PairI.keep {a : Nat} {x : KV} (h : PairI w Y vs a x) (ht : Touch (fun k => k = g) w w') (hY : Y g) : PairI w' Y vs a x := by
  obtain ⟨u1, u2, h1, h2, h3, h4⟩ := h
  have hk : ∀ k, k < w.heap.size → ¬ Y k → w'.heap[k]? = w.heap[k]? := fun k hk hy => ht.block k hk fun e => hy (by rw [e]; exact hY)
  exact ⟨u1, u2, h1, h2, h3.keep ht.size (fun _ _ h => h) hk, h4.keep ht.size (fun _ _ h => h) hk⟩
theorem PairI.of {us : List Value} {a : Nat} {x : KV} (h : PairI w Y vs a x) (e1 : us[a * 2]? = vs[a * 2]?) (e2 : us[a * 2 + 1]? = vs[a * 2 + 1]?) : PairI w Y us a x := by
  obtain ⟨u1, u2, h1, h2, h3⟩ := h
  exact ⟨u1, u2, e1.trans h1, e2.trans h2, h3⟩
theorem GRow.open_ {l : List KV} (h : GRow PairR 111 2 w Y base (.slice (some ⟨g, 0, none⟩) n cap) l) : n = l.length ∧ base ≤ g ∧ Y g ∧ ∃ vs, RowIs w g n cap vs ∧ ∀ a x, l[a]? = some x → PairI w Y vs a x := by
  obtain ⟨vs, h1, h2⟩ := h.row
  have hY := h.own g rfl
  rcases h1.2 with ⟨e, h0⟩ | ⟨g', cap', cur, e, hb, hg, hc, hm, hs, htake⟩
  · cases e
  · cases e
    refine ⟨rfl, hb, hY, vs, ⟨cur, hg, hc, hm, hs, htake⟩, fun a x hx => ?_⟩
    obtain ⟨u1, u2, e3, s1, s2⟩ := h2 a x hx
    refine ⟨u1, u2, ?_, ?_, s1, s2⟩
    · have : ((vs.drop (a * 2)).take 2)[0]? = some u1 := by rw [e3]; rfl
      rw [List.getElem?_take, if_pos (by decide), List.getElem?_drop] at this
      simpa using this
    · have : ((vs.drop (a * 2)).take 2)[1]? = some u2 := by rw [e3]; rfl
      rw [List.getElem?_take, if_pos (by decide), List.getElem?_drop] at this
      simpa using this
theorem take_two {vs : List Value} {k : Nat} {a b : Value} (h1 : vs[k]? = some a) (h2 : vs[k + 1]? = some b) : (vs.drop k).take 2 = [a, b] := by
  obtain ⟨l1, rfl⟩ := List.getElem?_eq_some_iff.1 h1
  obtain ⟨l2, rfl⟩ := List.getElem?_eq_some_iff.1 h2
  rw [List.drop_eq_getElem_cons l1, List.drop_eq_getElem_cons l2]
  rfl
theorem GRow.shut {l : List KV} (h : RowIs w g n cap vs) (hl : l.length ≤ n) (hb : base ≤ g) (hY : Y g) (hp : ∀ a x, l[a]? = some x → PairI w Y vs a x) : GRow PairR 111 2 w Y base (.slice (some ⟨g, 0, none⟩) l.length cap) l := by
  have hlen := h.len
  obtain ⟨cur, h1, h2, h3, h4, h5⟩ := h
  refine ⟨⟨vs.take (l.length * 2), ⟨by rw [List.length_take, hlen]; omega, .inr ⟨g, cap, cur, rfl, hb, h1, Nat.le_trans hl h2, h3, h4, by rw [← h5, List.take_take]; congr 1; omega⟩⟩, fun a x hx => ?_⟩, fun r hr => by
    simp [Value.ownBlock] at hr
    rw [← hr]
    exact hY⟩
  have ha := (List.getElem?_eq_some_iff.1 hx).1
  obtain ⟨u1, u2, e1, e2, s1, s2⟩ := hp a x hx
  exact ⟨u1, u2, take_two (by rw [List.getElem?_take, if_pos (by omega)]; exact e1) (by rw [List.getElem?_take, if_pos (by omega)]; exact e2), s1, s2⟩

/-- clear of the pairs from place i on. -/
theorem RowIs.clear_ (h : RowIs w g n cap vs) {i k : Nat} (hi : i < n) (ty : TypeId) :
    ∃ w', (Builtin.clear_ #[124] ty #[.slice (some ⟨g, i * 2, none⟩) (n - i) k]).run Tryz.prog w = .ok (.tuple #[]) w' ∧ (∃ vs', RowIs w' g n cap vs' ∧ ∀ j, j < i * 2 → vs'[j]? = vs[j]?) ∧ Touch (fun k => k = g) w w' := by
  obtain ⟨i0, hi0, hz0, hz1, hz2⟩ := info_parts info_pairG
  obtain ⟨cur, h1, h2, h3, h4, rfl⟩ := h
  have hz : (zeroValue 111).run Tryz.prog w = .ok (.agg #[.slice none 0 0, .slice none 0 0]) w := by kernel_rfl
  have hzl : (Builtin.zeroCells (Value.agg #[.slice none 0 0, .slice none 0 0]).cells (n - i)).toList.length = (n - i) * 2 := by
    rw [Array.length_toList, size_zeroCells]
    rfl
  have hone : ∀ v ∈ (Builtin.zeroCells (Value.agg #[.slice none 0 0, .slice none 0 0]).cells (n - i)).toList, v.oneCell' = true := by
    intro v hv
    have hv' : v ∈ ((Array.range ((n - i) * 2)).map fun k => #[Value.slice none 0 0, Value.slice none 0 0][k % 2]!).toList := hv
    rw [Array.toList_map] at hv'
    obtain ⟨k, _, rfl⟩ := List.mem_map.1 hv'
    have : k % 2 = 0 ∨ k % 2 = 1 := by omega
    rcases this with e | e <;> rw [e] <;> rfl
  have hst := run_storeCells_at Tryz.prog g (i * 2) 111 _ 0 cur w h1 (by rw [hzl]; omega) hone
  have hrun : (Builtin.clear_ #[124] ty #[.slice (some ⟨g, i * 2, none⟩) (n - i) k]).run Tryz.prog w = .ok (.tuple #[]) (w.setRow g (cur.toList.take (i * 2 + 0) ++ (Builtin.zeroCells (Value.agg #[.slice none 0 0, .slice none 0 0]).cells (n - i)).toList ++ cur.toList.drop (i * 2 + 0 + (Builtin.zeroCells (Value.agg #[.slice none 0 0, .slice none 0 0]).cells (n - i)).toList.length)).toArray) := by
    obtain ⟨k', hk'⟩ : ∃ k', n - i = k' + 1 := ⟨n - i - 1, by omega⟩
    rw [hk'] at hst ⊢
    simp only [Builtin.clear_]
    simp only [List.getElem?_toArray, List.getElem?_cons_zero]
    simp only [Sem.run_bind, run_underlying Tryz.underlying124, hz, Result.andThen]
    rw [hst]
    rfl
  generalize (Builtin.zeroCells (Value.agg #[.slice none 0 0, .slice none 0 0]).cells (n - i)).toList = C at hrun hzl
  refine ⟨_, hrun, ⟨_, ⟨_, setRow_heap w g cur _ 111 _ h1, h2, h3, ?_, rfl⟩, fun j hj => ?_⟩, ⟨rfl, rfl, rfl, by simp [World.setRow], fun k hk hne => setRow_other w g k _ (fun e => hne e)⟩⟩
  · rw [List.size_toArray, List.length_append, List.length_append, hzl, List.length_take, List.length_drop, Array.length_toList]
    omega
  · rw [List.append_assoc, List.getElem?_take, if_pos (by omega), List.getElem?_append_left (by rw [List.length_take, Array.length_toList]; omega), List.getElem?_take, if_pos (by omega), List.getElem?_take, if_pos (by omega)]
end

end Go.Proofs.YtlcbmobdokicaaaGreat

/-
  Contracts of the library's IndexFunc and DeleteFunc over pairs, with Scan's first closure. Condition: fewer than 2^32 pairs; what the closure says of each pair.
-/
namespace Go.Proofs.YtlcbmobdokicaaaGreat
open Go.RowKit Go.Maps
set_option maxRecDepth 100000
set_option linter.unusedVariables false

/-- The closure says P of each pair, while no block but g is written. -/
def ChdP (w : World) (g bx : Nat) (Y : Nat → Prop) (P : KV → Bool) : Prop := ∀ (W : World) (u1 u2 : Value) (x : KV), Touch (fun k => k = g) w W → SV W Y u1 x.1 → SV W Y u2 x.2 → Calls Tryz.prog 130 #[.agg #[u1, u2], .pointer (some ⟨bx, 0, none⟩)] W fun e w' => e = .returned (.bool (P x)) ∧ Below W.heap.size W w'

section
variable {w w' : World} {Y : Nat → Prop} {g n cap base bx : Nat} {l : List KV} {P : KV → Bool}
theorem SV.slice {u : Value} {x : List Int} (h : SV w Y u x) : ∃ A n c, u = .slice A n c := by
  obtain ⟨A, n, c, rfl, _⟩ := h
  exact ⟨A, n, c, rfl⟩
set_option maxHeartbeats 1600000 in
theorem idxF_any {vs : List Value} (hrow : RowIs w g n cap vs) (hl : l.length = n) (hY : Y g) (hvs : ∀ a x, l[a]? = some x → PairI w Y vs a x) (hP : ChdP w g bx Y P) (hn : n ≤ 4294967296) :
    Calls Tryz.prog 157 #[.slice (some ⟨g, 0, none⟩) n cap, .func (.func 130) #[] #[.pointer (some ⟨bx, 0, none⟩)]] w fun e w' =>
      ((∃ i x, l[i]? = some x ∧ P x = true ∧ (∀ (a : Nat) (y : KV), a < i → l[a]? = some y → P y = false) ∧ e = .returned (.int .i64 (i : Nat))) ∨ ((∀ (a : Nat) (y : KV), l[a]? = some y → P y = false) ∧ e = .returned (.int .i64 (-1)))) ∧ Below w.heap.size w w' := by
  have HR := Lib.hid hrow
  have HV := Lib.hid hvs
  have HP := Lib.hid hP
  have HL := Lib.hid hl
  clear hrow hvs hP hl
  go_enter Tryz.func157, Tryz.ntmps157
  go_wp2_with fail
  go_loopw [8] (fun i wr => ∃ j : Nat, j ≤ n ∧ i = .int .i64 j ∧ Hid ((∀ (a : Nat) (y : KV), a < j → l[a]? = some y → P y = false) ∧ Below w.heap.size w wr)) (fun i _ => n - (intOf i).toNat)
  case atStart => exact ⟨0, Nat.zero_le _, rfl, Lib.hid ⟨fun a y h => absurd h (Nat.not_lt_zero _), Below.refl _ _⟩⟩
  case round =>
    obtain ⟨j, hj, rfl, HM⟩ := hrel
    by_cases hlt : j < n
    · obtain ⟨hno, hb⟩ := HM.out
      obtain ⟨x, hx⟩ : ∃ x, l[j]? = some x := ⟨_, List.getElem?_eq_getElem (by rw [HL.out]; exact hlt)⟩
      have ht : Touch (fun k => k = g) w wr := Touch.of_below hb
      have hr1 := HR.out.keep (w' := wr) (hb.block g HR.out.lt)
      obtain ⟨u1, u2, e1, e2, s1, s2⟩ := (HV.out j x hx).keep ht hY
      have c1 := hr1.cell e1
      have c2 := hr1.cell e2
      have HC := Lib.hid (HP.out wr u1 u2 x ht s1 s2)
      obtain ⟨A1, n1, k1, rfl⟩ := s1.slice
      obtain ⟨A2, n2, k2, rfl⟩ := s2.slice
      have hj64 : (j : Int) < (n : Int) := by omega
      cases hpx : P x with
      | true =>
        have HFIN := Lib.hid (And.intro hx (And.intro hpx (And.intro hno hb)))
        rw [hpx] at HC
        clear hno hb hx ht hr1 e1 e2 s1 s2 hpx
        go_wp2_with fail
        refine HC.out.mono ?_
        rintro e w2 ⟨rfl, hb2⟩
        have HB2 := Lib.hid hb2
        clear hb2
        go_wp2
        go_ret
        obtain ⟨f1, f2, f3, f4⟩ := HFIN.out
        exact ⟨.inl ⟨j, x, f1, f2, f3, rfl⟩, f4.trans (HB2.out.mono f4.size)⟩
      | false =>
        rw [hpx] at HC
        have HN := Lib.hid (show ∀ (a : Nat) (y : KV), a < j + 1 → l[a]? = some y → P y = false from fun a y ha hy => by
          by_cases e : a = j
          · rw [e, hx] at hy; cases hy; exact hpx
          · exact hno a y (by omega) hy)
        have HB := Lib.hid hb
        clear hno hb hx ht hr1 e1 e2 s1 s2 hpx
        go_wp2_with fail
        refine HC.out.mono ?_
        rintro e w2 ⟨rfl, hb2⟩
        have HB2 := Lib.hid (And.intro HN.out (HB.out.trans (hb2.mono HB.out.size)))
        clear hb2
        go_wp2
        go_roundw
        case rel => exact ⟨j + 1, by omega, by go_num, HB2⟩
        case measure => simp [intOf]; omega
    · obtain rfl : j = n := by omega
      go_wp2
      go_ret
      obtain ⟨hno, hb⟩ := HM.out
      exact ⟨.inr ⟨fun a y hy => hno a y (by rw [← HL.out]; exact (List.getElem?_eq_some_iff.1 hy).1) hy, rfl⟩, hb⟩

/-- The pairs of the first j that stay. -/
def stayJ (P : KV → Bool) (l : List KV) (j : Nat) : List KV := (l.take j).filter fun x => !P x
theorem stay_succ {P : KV → Bool} {l : List KV} {j : Nat} {x : KV} (hx : l[j]? = some x) : stayJ P l (j + 1) = if P x then stayJ P l j else stayJ P l j ++ [x] := by
  obtain ⟨hi, rfl⟩ := List.getElem?_eq_some_iff.1 hx
  unfold stayJ
  rw [List.take_succ_eq_append_getElem hi, List.filter_append]
  cases h : P l[j] <;> simp [h]
theorem stay_len (P : KV → Bool) (l : List KV) (j : Nat) : (stayJ P l j).length ≤ j := Nat.le_trans (List.length_filter_le _ _) (by rw [List.length_take]; exact Nat.min_le_left _ _)

/-- Where DeleteFunc stands: the first j pairs were looked at. -/
def DelAt (w wr : World) (g n cap : Nat) (Y : Nat → Prop) (P : KV → Bool) (l : List KV) (j : Nat) : Prop :=
  ∃ vs, RowIs wr g n cap vs ∧ (∀ a x, (stayJ P l j)[a]? = some x → PairI wr Y vs a x) ∧ (∀ a x, j ≤ a → l[a]? = some x → PairI wr Y vs a x) ∧ Touch (fun k => k = g) w wr
theorem DelAt.touch {wr wr' : World} {j : Nat} (h : DelAt w wr g n cap Y P l j) (hb : Below wr.heap.size wr wr') (hY : Y g) : DelAt w wr' g n cap Y P l j := by
  obtain ⟨vs, h1, h2, h3, h4⟩ := h
  have ht : Touch (fun k => k = g) wr wr' := Touch.of_below hb
  exact ⟨vs, h1.keep (hb.block g h1.lt), fun a x hx => (h2 a x hx).keep ht hY, fun a x ha hx => (h3 a x ha hx).keep ht hY, h4.trans ht⟩
theorem DelAt.drop {wr : World} {j : Nat} {x : KV} (h : DelAt w wr g n cap Y P l j) (hx : l[j]? = some x) (hp : P x = true) : DelAt w wr g n cap Y P l (j + 1) := by
  obtain ⟨vs, h1, h2, h3, h4⟩ := h
  refine ⟨vs, h1, fun a y hy => h2 a y ?_, fun a y ha hy => h3 a y (by omega) hy, h4⟩
  rw [stay_succ hx, if_pos hp] at hy
  exact hy
theorem DelAt.move {wr : World} {j i : Nat} {x : KV} {u1 u2 : Value} (h : DelAt w wr g n cap Y P l j) (hx : l[j]? = some x) (hp : P x = false) (hi : (stayJ P l j).length = i) (hij : i < j) (hjn : j < n) (hY : Y g) (s1 : SV wr Y u1 x.1) (s2 : SV wr Y u2 x.2) :
    DelAt w ((wr.setCell ⟨g, i * 2, none⟩ u1).setCell ⟨g, i * 2 + 1, none⟩ u2) g n cap Y P l (j + 1) := by
  obtain ⟨vs, h1, h2, h3, h4⟩ := h
  have hlen := h1.len
  have ht : Touch (fun k => k = g) wr ((wr.setCell ⟨g, i * 2, none⟩ u1).setCell ⟨g, i * 2 + 1, none⟩ u2) :=
    ⟨rfl, rfl, rfl, by simp [World.setCell], fun k _ hne => by rw [Below.heap_setCell _ _ _ _ (by simpa using hne), Below.heap_setCell _ _ _ _ (by simpa using hne)]⟩
  have hk : ∀ k, k < wr.heap.size → ¬ Y k → ((wr.setCell ⟨g, i * 2, none⟩ u1).setCell ⟨g, i * 2 + 1, none⟩ u2).heap[k]? = wr.heap[k]? := fun k hk hy => ht.block k hk fun e => hy (by rw [e]; exact hY)
  have old : ∀ a y, a ≠ i → PairI wr Y vs a y → PairI ((wr.setCell ⟨g, i * 2, none⟩ u1).setCell ⟨g, i * 2 + 1, none⟩ u2) Y ((vs.set (i * 2) u1).set (i * 2 + 1) u2) a y := fun a y ha hy => (hy.keep ht hY).of
    (by rw [List.getElem?_set_ne (by omega), List.getElem?_set_ne (by omega)]) (by rw [List.getElem?_set_ne (by omega), List.getElem?_set_ne (by omega)])
  refine ⟨_, h1.set2 (by omega) u1 u2, fun a y hy => ?_, fun a y ha hy => old a y (by omega) (h3 a y (by omega) hy), h4.trans ht⟩
  rw [stay_succ hx, if_neg (by rw [hp]; decide)] at hy
  rcases Nat.lt_or_ge a i with h' | h'
  · rw [List.getElem?_append_left (by omega)] at hy
    exact old a y (by omega) (h2 a y hy)
  · rw [List.getElem?_append_right (by omega)] at hy
    have ha0 : a - (stayJ P l j).length = 0 := by
      have := (List.getElem?_eq_some_iff.1 hy).1
      simp at this
      omega
    rw [ha0] at hy
    obtain rfl : x = y := by simpa using hy
    obtain rfl : a = i := by omega
    refine ⟨u1, u2, ?_, ?_, s1.keep ht.size (fun _ _ h => h) hk, s2.keep ht.size (fun _ _ h => h) hk⟩
    · rw [List.getElem?_set_ne (by omega), List.getElem?_set_self (by omega)]
    · rw [List.getElem?_set_self (by rw [List.length_set]; omega)]

set_option maxHeartbeats 6400000 in
theorem delF_any (h : GRow PairR 111 2 w Y base (.slice (some ⟨g, 0, none⟩) n cap) l) (hYlt : ∀ k, Y k → k < w.heap.size) (hP : ChdP w g bx Y P) (hn : n ≤ 4294967296) :
    Calls Tryz.prog 129 #[.slice (some ⟨g, 0, none⟩) n cap, .func (.func 130) #[] #[.pointer (some ⟨bx, 0, none⟩)]] w fun e w' =>
      e = .returned (.slice (some ⟨g, 0, none⟩) (l.filter fun x => !P x).length cap) ∧ GRow PairR 111 2 w' Y base (.slice (some ⟨g, 0, none⟩) (l.filter fun x => !P x).length cap) (l.filter fun x => !P x) ∧ Touch (fun k => k = g) w w' := by
  obtain ⟨hl, hbg, hY, vs, hrow, hvs⟩ := h.open_
  have hcap : n ≤ cap := by obtain ⟨_, _, hc, _⟩ := hrow; exact hc
  have hcapm : cap ≤ 2 ^ 63 - 1 := by obtain ⟨_, _, _, hc, _⟩ := hrow; exact hc
  have HI := Lib.hid (idxF_any hrow hl.symm hY hvs hP hn)
  have H0 := Lib.hid (And.intro hrow hvs)
  have HP := Lib.hid hP
  have HL := Lib.hid hl
  have HB := Lib.hid hbg
  have HG := Lib.hid h
  clear hrow hvs hP hl hbg h
  go_enter Tryz.func129, Tryz.ntmps129
  go_wp2_with fail
  refine HI.out.mono ?_
  rintro e w1 ⟨hcase, hb1⟩
  rcases hcase with ⟨i0, x0, hx0, hp0, hno, rfl⟩ | ⟨hno, rfl⟩
  · have hi0 : i0 < n := by have := (List.getElem?_eq_some_iff.1 hx0).1; rw [← HL.out] at this; exact this
    have hst0 : stayJ P l (i0 + 1) = l.take i0 := by
      rw [stay_succ hx0, if_pos hp0]
      unfold stayJ
      rw [List.filter_eq_self]
      intro a ha
      obtain ⟨k, hk, rfl⟩ := List.getElem_of_mem ha
      rw [List.length_take] at hk
      rw [List.getElem_take, hno k _ (by omega) (List.getElem?_eq_getElem (by omega))]
      rfl
    have hD0 : DelAt w w1 g n cap Y P l (i0 + 1) := by
      obtain ⟨hrow, hvs⟩ := H0.out
      have ht : Touch (fun k => k = g) w w1 := Touch.of_below hb1
      refine ⟨vs, hrow.keep (hb1.block g hrow.lt), fun a x hx => ?_, fun a x _ hx => (hvs a x hx).keep ht hY, ht⟩
      rw [hst0] at hx
      rw [List.getElem?_take] at hx
      split at hx
      · exact (hvs a x hx).keep ht hY
      · cases hx
    have hlen0 : (stayJ P l (i0 + 1)).length = i0 := by rw [hst0, List.length_take, ← HL.out]; omega
    have HD0 := Lib.hid (And.intro hD0 hlen0)
    have hi64 : ((i0 : Int) == -1) = false := by simp
    clear hx0 hp0 hno hb1 hst0 hD0 hlen0
    go_wp2_with fail
    go_loopw [5, 6] (fun iv jv wr => ∃ i j : Nat, i < j ∧ j ≤ n ∧ iv = .int .i64 i ∧ jv = .int .i64 j ∧ Hid (DelAt w wr g n cap Y P l j ∧ (stayJ P l j).length = i)) (fun _ jv _ => n - (intOf jv).toNat)
    case atStart => exact ⟨i0, i0 + 1, by omega, by omega, rfl, by go_num, HD0⟩
    case round =>
      obtain ⟨i, j, hij, hjn, rfl, rfl, HD⟩ := hrel
      obtain ⟨hD, hsl⟩ := HD.out
      by_cases hlt : j < n
      · obtain ⟨x, hx⟩ : ∃ x, l[j]? = some x := ⟨_, List.getElem?_eq_getElem (by rw [← HL.out]; exact hlt)⟩
        have hcl : ∃ u1 u2, wr.cell? ⟨g, j * 2, none⟩ = some u1 ∧ wr.cell? ⟨g, j * 2 + 1, none⟩ = some u2 ∧ SV wr Y u1 x.1 ∧ SV wr Y u2 x.2 ∧ g < wr.heap.size ∧ Touch (fun k => k = g) w wr := by
          obtain ⟨vs', h1, h2, h3, h4⟩ := hD
          obtain ⟨u1, u2, e1, e2, s1, s2⟩ := h3 j x (Nat.le_refl _) hx
          exact ⟨u1, u2, h1.cell e1, h1.cell e2, s1, s2, h1.lt, h4⟩
        obtain ⟨u1, u2, c1, c2, s1, s2, hgl, ht⟩ := hcl
        obtain ⟨w2, hw2⟩ : ∃ w2, w2 = wr.alloc (.cells #[u1, u2] 111 (0, 0)) := ⟨_, rfl⟩
        have hb2 : Below wr.heap.size wr w2 := by rw [hw2]; exact (Below.refl _ _).alloc (Nat.le_refl _) _
        have hs2 : wr.heap.size < w2.heap.size := by rw [hw2]; simp
        have hbk : w2.heap[wr.heap.size]? = some (.cells #[u1, u2] 111 (0, 0)) := by rw [hw2]; exact heap_alloc_new _ _
        have t2 : Touch (fun k => k = g) w w2 := ht.trans (Touch.of_below hb2)
        have HC := Lib.hid (HP.out w2 u1 u2 x t2 (s1.keep hb2.size (fun _ _ h => h) (fun k hk _ => hb2.block k hk)) (s2.keep hb2.size (fun _ _ h => h) (fun k hk _ => hb2.block k hk)))
        have hj64 : (j : Int) < (n : Int) := by omega
        have HX := Lib.hid (And.intro hx (And.intro hD (And.intro hsl (And.intro s1 s2))))
        have HB2 := Lib.hid (And.intro hb2 (And.intro hs2 (And.intro hbk hgl)))
        obtain ⟨A1, n1, k1, rfl⟩ := s1.slice
        obtain ⟨A2, n2, k2, rfl⟩ := s2.slice
        clear hx hD hsl hb2 hs2 hbk t2 ht hgl
        cases hpx : P x with
        | true =>
          have HPX := Lib.hid hpx
          rw [hpx] at HC
          clear s1 s2 hpx
          go_wp2_with fail
          rw [← hw2]
          clear hw2
          refine HC.out.mono ?_
          rintro e w3 ⟨rfl, hb3⟩
          obtain ⟨x1, x2, x3, _⟩ := HX.out
          obtain ⟨y1, y2, y3, y4⟩ := HB2.out
          have HN := Lib.hid (show DelAt w w3 g n cap Y P l (j + 1) ∧ (stayJ P l (j + 1)).length = i from ⟨(x2.touch (y1.trans (hb3.mono y1.size)) hY).drop x1 HPX.out, by rw [stay_succ x1, if_pos HPX.out]; exact x3⟩)
          clear x1 x2 x3 y1 y2 y3 y4 hb3
          go_wp2
          go_roundw
          case rel => exact ⟨i, j + 1, by omega, by omega, rfl, by go_num, HN⟩
          case measure => simp [intOf]; omega
        | false =>
          have HPX := Lib.hid hpx
          rw [hpx] at HC
          clear s1 s2 hpx
          go_wp2_with fail
          rw [← hw2]
          clear hw2
          refine HC.out.mono ?_
          rintro e w3 ⟨rfl, hb3⟩
          obtain ⟨x1, x2, x3, x4, x5⟩ := HX.out
          obtain ⟨y1, y2, y3, y4⟩ := HB2.out
          have y5 := y1.trans (hb3.mono y1.size)
          have hbk3 := (hb3.block wr.heap.size y2).trans y3
          have d0 : w3.cell? ⟨wr.heap.size, 0, none⟩ = some (.slice A1 n1 k1) := by rw [cell_of_row w3 _ 0 _ _ (0, 0) hbk3]; rfl
          have d1 : w3.cell? ⟨wr.heap.size, 1, none⟩ = some (.slice A2 n2 k2) := by rw [cell_of_row w3 _ 1 _ _ (0, 0) hbk3]; rfl
          have hD3 := x2.touch y5 hY
          have hio : ∃ v0 v1, w3.cell? ⟨g, i * 2, none⟩ = some v0 ∧ w3.cell? ⟨g, i * 2 + 1, none⟩ = some v1 ∧ w3.frozen? ⟨g, i * 2, none⟩ = false ∧ w3.frozen? ⟨g, i * 2 + 1, none⟩ = false := by
            obtain ⟨vs3, z1, _, _, _⟩ := hD3
            have hl3 := z1.len
            exact ⟨_, _, z1.cell (List.getElem?_eq_getElem (by omega)), z1.cell (List.getElem?_eq_getElem (by omega)), z1.frozen _, z1.frozen _⟩
          obtain ⟨v0, v1, i1, i2, i3, i4⟩ := hio
          have hi64 : (i : Int) < (n : Int) := by omega
          have HN := Lib.hid (show DelAt w ((w3.setCell ⟨g, i * 2, none⟩ (.slice A1 n1 k1)).setCell ⟨g, i * 2 + 1, none⟩ (.slice A2 n2 k2)) g n cap Y P l (j + 1) ∧ (stayJ P l (j + 1)).length = i + 1 from
            ⟨hD3.move x1 HPX.out x3 hij hlt hY (x4.keep y5.size (fun _ _ h => h) (fun k hk _ => y5.block k hk)) (x5.keep y5.size (fun _ _ h => h) (fun k hk _ => y5.block k hk)), by rw [stay_succ x1, if_neg (by rw [HPX.out]; decide), List.length_append, x3]; rfl⟩)
          clear x1 x2 x3 x4 x5 y1 y2 y3 y4 y5 hb3 hbk3 hD3 c1 c2
          go_wp2
          go_roundw
          case rel => exact ⟨i + 1, j + 1, by omega, by omega, by go_num, by go_num, HN⟩
          case measure => simp [intOf]; omega
      · obtain rfl : j = n := by omega
        have hfil : stayJ P l j = l.filter fun x => !P x := by unfold stayJ; rw [List.take_of_length_le (by rw [HL.out]; exact Nat.le_refl _)]
        rw [hfil] at hsl
        obtain ⟨vs', r1, r2, r3, r4⟩ := hD
        rw [hfil] at r2
        obtain ⟨w4, hrun, ⟨vs4, q1, q2⟩, q3⟩ := r1.clear_ (k := cap - i) hij 0
        have HFIN := Lib.hid (show GRow PairR 111 2 w4 Y base (.slice (some ⟨g, 0, none⟩) (l.filter fun x => !P x).length cap) (l.filter fun x => !P x) ∧ Touch (fun k => k = g) w w4 from
          ⟨GRow.shut q1 (by omega) HB.out hY (fun a x hx => ((r2 a x hx).keep q3 hY).of (q2 _ (by have := (List.getElem?_eq_some_iff.1 hx).1; omega)) (q2 _ (by have := (List.getElem?_eq_some_iff.1 hx).1; omega))), r4.trans q3⟩)
        have HSL := Lib.hid hsl
        have hij64 : (i : Int) < (j : Int) := by omega
        have hi0 : (0 : Int) ≤ (i : Int) := by omega
        clear hfil r1 r2 r3 r4 q1 q2 q3 hsl
        go_wp2
        go_ret
        exact ⟨congrArg (fun z => Ending.returned (Value.slice (some ⟨g, 0, none⟩) z cap)) HSL.out.symm, HFIN.out⟩
  · have hfil : (l.filter fun x => !P x) = l := by
      rw [List.filter_eq_self]
      intro a ha
      obtain ⟨k, hk, rfl⟩ := List.getElem_of_mem ha
      rw [hno k _ (List.getElem?_eq_getElem hk)]
      rfl
    have HFIN := Lib.hid (show GRow PairR 111 2 w1 Y base (.slice (some ⟨g, 0, none⟩) (l.filter fun x => !P x).length cap) (l.filter fun x => !P x) ∧ Touch (fun k => k = g) w w1 from by
      rw [hfil, ← HL.out]
      exact ⟨HG.out.below @pairR_kept hb1, Touch.of_below hb1⟩)
    have HSL := Lib.hid (show (l.filter fun x => !P x).length = n by rw [hfil]; exact HL.out.symm)
    clear hno hb1 hfil
    go_wp2
    go_ret
    exact ⟨congrArg (fun z => Ending.returned (Value.slice (some ⟨g, 0, none⟩) z cap)) HSL.out.symm, HFIN.out⟩
end

end Go.Proofs.YtlcbmobdokicaaaGreat
