/-
  The library's IndexFunc and DeleteFunc over nodes, with a closure that says of each node whether it goes; slices.Equal over nodes. Condition: fewer than 2^32 nodes; what the closure says.
-/
import Derived.Test.YtilhcchnlbdlhaaGreatNodA
import Derived.Test.YtilhcchnlbdlhaaGreatViewC
namespace Go.Proofs.YtilhcchnlbdlhaaGreat
open Go.RowKit Go.Maps
set_option maxRecDepth 100000
set_option linter.unusedVariables false

/-- The function value says P of each node, while no block but g is written. -/
def ChdN (w : World) (g : Nat) (fid : FuncId) (fv : Array Value) (P : Nd → Bool) : Prop := ∀ (W : World) (x : Nd), Touch (fun k => k = g) w W → Calls Tryz.prog fid (#[.agg #[.int .i64 x.y, .int .i64 x.i, .int .i64 x.p, .int .i64 x.f, .int .i64 x.o, .bool x.ab, .int .i64 x.li, .int .i64 x.pr, .int .i64 x.en, .int .i64 x.ex, .int .i64 x.la, .int .i64 x.ca]] ++ fv) W fun e w' => e = .returned (.bool (P x)) ∧ Below W.heap.size W w'
/-- The slice at block g: its cells. -/
def RowNd (w : World) (g n cap : Nat) (vs : List Value) : Prop := ∃ cur : Array Value, w.heap[g]? = some (.cells cur 50 (0, 0)) ∧ n ≤ cap ∧ cap ≤ maxLen ∧ cur.size = cap * 12 ∧ cur.toList.take (n * 12) = vs
/-- The node x at place a of these cells. -/
def NdI (vs : List Value) (a : Nat) (x : Nd) : Prop := ∀ k, k < 12 → vs[a * 12 + k]? = (ndV x)[k]?
section
variable {w w' : World} {g n cap base : Nat} {vs : List Value} {l : List Nd} {P : Nd → Bool}
theorem RowNd.len (h : RowNd w g n cap vs) : vs.length = n * 12 := by
  obtain ⟨cur, _, h1, _, h2, rfl⟩ := h
  rw [List.length_take, Array.length_toList, h2]
  omega
theorem RowNd.lt (h : RowNd w g n cap vs) : g < w.heap.size := by
  obtain ⟨cur, h1, _⟩ := h
  exact (Array.getElem?_eq_some_iff.1 h1).1
theorem RowNd.keep (h : RowNd w g n cap vs) (e : w'.heap[g]? = w.heap[g]?) : RowNd w' g n cap vs := by
  obtain ⟨cur, h1, h2⟩ := h
  exact ⟨cur, e.trans h1, h2⟩
theorem RowNd.cell (h : RowNd w g n cap vs) {k : Nat} {u : Value} (hu : vs[k]? = some u) : w.cell? ⟨g, k, none⟩ = some u := by
  have hl := h.len
  obtain ⟨cur, h1, h2, h3, h4, rfl⟩ := h
  have hk := (List.getElem?_eq_some_iff.1 hu).1
  rw [cell_of_row w g k cur _ (0, 0) h1, ← hu, List.getElem?_take, if_pos (by omega)]
  simp
theorem RowNd.at_ (h : RowNd w g n cap vs) {a : Nat} {x : Nd} (hx : NdI vs a x) : NdE.At w g (a * 12) x := fun k hk => by
  have h1 := hx k hk
  have h2 : (ndV x)[k]? = some ((ndV x)[k]'hk) := List.getElem?_eq_getElem hk
  rw [h2] at h1
  show _ = (ndV x)[k]?
  rw [h2]
  exact h.cell h1
theorem RowNd.frozen (h : RowNd w g n cap vs) (k : Nat) : w.frozen? ⟨g, k, none⟩ = false := by
  obtain ⟨cur, h1, _⟩ := h
  exact frozen_of_row w g k _ _ h1
def setNd (vs : List Value) (i : Nat) (x : Nd) : List Value := ((((((((((((vs.set (i * 12) (.int .i64 x.y)).set (i * 12 + 1) (.int .i64 x.i)).set (i * 12 + 2) (.int .i64 x.p)).set (i * 12 + 3) (.int .i64 x.f)).set (i * 12 + 4) (.int .i64 x.o)).set (i * 12 + 5) (.bool x.ab)).set (i * 12 + 6) (.int .i64 x.li)).set (i * 12 + 7) (.int .i64 x.pr)).set (i * 12 + 8) (.int .i64 x.en)).set (i * 12 + 9) (.int .i64 x.ex)).set (i * 12 + 10) (.int .i64 x.la)).set (i * 12 + 11) (.int .i64 x.ca))
theorem RowNd.set12 (h : RowNd w g n cap vs) {i : Nat} (hi : i < n) (x : Nd) : RowNd ((((((((((((w.setCell ⟨g, i * 12, none⟩ (.int .i64 x.y)).setCell ⟨g, i * 12 + 1, none⟩ (.int .i64 x.i)).setCell ⟨g, i * 12 + 2, none⟩ (.int .i64 x.p)).setCell ⟨g, i * 12 + 3, none⟩ (.int .i64 x.f)).setCell ⟨g, i * 12 + 4, none⟩ (.int .i64 x.o)).setCell ⟨g, i * 12 + 5, none⟩ (.bool x.ab)).setCell ⟨g, i * 12 + 6, none⟩ (.int .i64 x.li)).setCell ⟨g, i * 12 + 7, none⟩ (.int .i64 x.pr)).setCell ⟨g, i * 12 + 8, none⟩ (.int .i64 x.en)).setCell ⟨g, i * 12 + 9, none⟩ (.int .i64 x.ex)).setCell ⟨g, i * 12 + 10, none⟩ (.int .i64 x.la)).setCell ⟨g, i * 12 + 11, none⟩ (.int .i64 x.ca)) g n cap (setNd vs i x) := by
  obtain ⟨cur, h1, h2, h3, h4, rfl⟩ := h
  have e0 := heap_setCell_same _ g (i * 12) _ 50 (.int .i64 x.y) h1
  have e1 := heap_setCell_same _ g (i * 12 + 1) _ 50 (.int .i64 x.i) e0
  have e2 := heap_setCell_same _ g (i * 12 + 2) _ 50 (.int .i64 x.p) e1
  have e3 := heap_setCell_same _ g (i * 12 + 3) _ 50 (.int .i64 x.f) e2
  have e4 := heap_setCell_same _ g (i * 12 + 4) _ 50 (.int .i64 x.o) e3
  have e5 := heap_setCell_same _ g (i * 12 + 5) _ 50 (.bool x.ab) e4
  have e6 := heap_setCell_same _ g (i * 12 + 6) _ 50 (.int .i64 x.li) e5
  have e7 := heap_setCell_same _ g (i * 12 + 7) _ 50 (.int .i64 x.pr) e6
  have e8 := heap_setCell_same _ g (i * 12 + 8) _ 50 (.int .i64 x.en) e7
  have e9 := heap_setCell_same _ g (i * 12 + 9) _ 50 (.int .i64 x.ex) e8
  have e10 := heap_setCell_same _ g (i * 12 + 10) _ 50 (.int .i64 x.la) e9
  have e11 := heap_setCell_same _ g (i * 12 + 11) _ 50 (.int .i64 x.ca) e10
  refine ⟨_, e11, h2, h3, by simpa using h4, ?_⟩
  unfold setNd
  simp only [Array.toList_setIfInBounds, List.take_set]
theorem setNd_len (vs : List Value) (i : Nat) (x : Nd) : (setNd vs i x).length = vs.length := by unfold setNd; simp only [List.length_set]
theorem setNd_other {vs : List Value} {i a : Nat} {x y : Nd} (h : NdI vs a y) (ha : a ≠ i) : NdI (setNd vs i x) a y := fun k hk => by
  have q : ∀ j, j < 12 → i * 12 + j ≠ a * 12 + k := fun j hj => by omega
  have q0 : i * 12 ≠ a * 12 + k := by omega
  have h0 := h k hk
  generalize a * 12 + k = z at q q0 h0 ⊢
  unfold setNd
  rw [List.getElem?_set_ne (q 11 (by decide)), List.getElem?_set_ne (q 10 (by decide)), List.getElem?_set_ne (q 9 (by decide)), List.getElem?_set_ne (q 8 (by decide)), List.getElem?_set_ne (q 7 (by decide)), List.getElem?_set_ne (q 6 (by decide)), List.getElem?_set_ne (q 5 (by decide)), List.getElem?_set_ne (q 4 (by decide)), List.getElem?_set_ne (q 3 (by decide)), List.getElem?_set_ne (q 2 (by decide)), List.getElem?_set_ne (q 1 (by decide)), List.getElem?_set_ne q0]
  exact h0
theorem setNd_same {vs : List Value} {i n : Nat} (x : Nd) (hl : vs.length = n * 12) (hi : i < n) : NdI (setNd vs i x) i x := fun k hk => by
  have hk : k = 0 ∨ k = 1 ∨ k = 2 ∨ k = 3 ∨ k = 4 ∨ k = 5 ∨ k = 6 ∨ k = 7 ∨ k = 8 ∨ k = 9 ∨ k = 10 ∨ k = 11 := by omega
  have hlen : ∀ j, j < 12 → i * 12 + j < vs.length := fun j hj => by omega
  have h0 : i * 12 < vs.length := by omega
  unfold setNd
  generalize i * 12 = z at hlen h0 ⊢
  rcases hk with rfl | rfl | rfl | rfl | rfl | rfl | rfl | rfl | rfl | rfl | rfl | rfl
  · rw [List.getElem?_set_ne (by omega), List.getElem?_set_ne (by omega), List.getElem?_set_ne (by omega), List.getElem?_set_ne (by omega), List.getElem?_set_ne (by omega), List.getElem?_set_ne (by omega), List.getElem?_set_ne (by omega), List.getElem?_set_ne (by omega), List.getElem?_set_ne (by omega), List.getElem?_set_ne (by omega), List.getElem?_set_ne (by omega)]; exact List.getElem?_set_self (by exact h0)
  · rw [List.getElem?_set_ne (by omega), List.getElem?_set_ne (by omega), List.getElem?_set_ne (by omega), List.getElem?_set_ne (by omega), List.getElem?_set_ne (by omega), List.getElem?_set_ne (by omega), List.getElem?_set_ne (by omega), List.getElem?_set_ne (by omega), List.getElem?_set_ne (by omega), List.getElem?_set_ne (by omega)]; exact List.getElem?_set_self (by simp only [List.length_set]; exact hlen 1 (by decide))
  · rw [List.getElem?_set_ne (by omega), List.getElem?_set_ne (by omega), List.getElem?_set_ne (by omega), List.getElem?_set_ne (by omega), List.getElem?_set_ne (by omega), List.getElem?_set_ne (by omega), List.getElem?_set_ne (by omega), List.getElem?_set_ne (by omega), List.getElem?_set_ne (by omega)]; exact List.getElem?_set_self (by simp only [List.length_set]; exact hlen 2 (by decide))
  · rw [List.getElem?_set_ne (by omega), List.getElem?_set_ne (by omega), List.getElem?_set_ne (by omega), List.getElem?_set_ne (by omega), List.getElem?_set_ne (by omega), List.getElem?_set_ne (by omega), List.getElem?_set_ne (by omega), List.getElem?_set_ne (by omega)]; exact List.getElem?_set_self (by simp only [List.length_set]; exact hlen 3 (by decide))
  · rw [List.getElem?_set_ne (by omega), List.getElem?_set_ne (by omega), List.getElem?_set_ne (by omega), List.getElem?_set_ne (by omega), List.getElem?_set_ne (by omega), List.getElem?_set_ne (by omega), List.getElem?_set_ne (by omega)]; exact List.getElem?_set_self (by simp only [List.length_set]; exact hlen 4 (by decide))
  · rw [List.getElem?_set_ne (by omega), List.getElem?_set_ne (by omega), List.getElem?_set_ne (by omega), List.getElem?_set_ne (by omega), List.getElem?_set_ne (by omega), List.getElem?_set_ne (by omega)]; exact List.getElem?_set_self (by simp only [List.length_set]; exact hlen 5 (by decide))
  · rw [List.getElem?_set_ne (by omega), List.getElem?_set_ne (by omega), List.getElem?_set_ne (by omega), List.getElem?_set_ne (by omega), List.getElem?_set_ne (by omega)]; exact List.getElem?_set_self (by simp only [List.length_set]; exact hlen 6 (by decide))
  · rw [List.getElem?_set_ne (by omega), List.getElem?_set_ne (by omega), List.getElem?_set_ne (by omega), List.getElem?_set_ne (by omega)]; exact List.getElem?_set_self (by simp only [List.length_set]; exact hlen 7 (by decide))
  · rw [List.getElem?_set_ne (by omega), List.getElem?_set_ne (by omega), List.getElem?_set_ne (by omega)]; exact List.getElem?_set_self (by simp only [List.length_set]; exact hlen 8 (by decide))
  · rw [List.getElem?_set_ne (by omega), List.getElem?_set_ne (by omega)]; exact List.getElem?_set_self (by simp only [List.length_set]; exact hlen 9 (by decide))
  · rw [List.getElem?_set_ne (by omega)]; exact List.getElem?_set_self (by simp only [List.length_set]; exact hlen 10 (by decide))
  · exact List.getElem?_set_self (by simp only [List.length_set]; exact hlen 11 (by decide))
theorem touch_oneN (w : World) (g o : Nat) (u : Value) : Touch (fun k => k = g) w (w.setCell ⟨g, o, none⟩ u) :=
  ⟨rfl, rfl, rfl, by simp [World.setCell], fun k _ hne => Below.heap_setCell _ _ _ _ (by simpa using hne)⟩
theorem touch_set12 (w : World) (g o : Nat) (x : Nd) : Touch (fun k => k = g) w ((((((((((((w.setCell ⟨g, o, none⟩ (.int .i64 x.y)).setCell ⟨g, o + 1, none⟩ (.int .i64 x.i)).setCell ⟨g, o + 2, none⟩ (.int .i64 x.p)).setCell ⟨g, o + 3, none⟩ (.int .i64 x.f)).setCell ⟨g, o + 4, none⟩ (.int .i64 x.o)).setCell ⟨g, o + 5, none⟩ (.bool x.ab)).setCell ⟨g, o + 6, none⟩ (.int .i64 x.li)).setCell ⟨g, o + 7, none⟩ (.int .i64 x.pr)).setCell ⟨g, o + 8, none⟩ (.int .i64 x.en)).setCell ⟨g, o + 9, none⟩ (.int .i64 x.ex)).setCell ⟨g, o + 10, none⟩ (.int .i64 x.la)).setCell ⟨g, o + 11, none⟩ (.int .i64 x.ca)) :=
  (((((((((((touch_oneN _ _ _ _).trans (touch_oneN _ _ _ _)).trans (touch_oneN _ _ _ _)).trans (touch_oneN _ _ _ _)).trans (touch_oneN _ _ _ _)).trans (touch_oneN _ _ _ _)).trans (touch_oneN _ _ _ _)).trans (touch_oneN _ _ _ _)).trans (touch_oneN _ _ _ _)).trans (touch_oneN _ _ _ _)).trans (touch_oneN _ _ _ _)).trans (touch_oneN _ _ _ _)

set_option maxHeartbeats 3200000 in
theorem idxN_any {fid : FuncId} {fv : Array Value} (efn : ∀ args w, (callFunc fid args).run Tryz.prog w = .ok (.enter fid args) w) (hrow : RowNd w g n cap vs) (hl : l.length = n) (hvs : ∀ a x, l[a]? = some x → NdI vs a x) (hP : ChdN w g fid fv P) (hn : n ≤ 4294967296) :
    Calls Tryz.prog 90 #[.slice (some ⟨g, 0, none⟩) n cap, .func (.func fid) #[] fv] w fun e w' =>
      ((∃ i x, l[i]? = some x ∧ P x = true ∧ (∀ (a : Nat) (y : Nd), a < i → l[a]? = some y → P y = false) ∧ e = .returned (.int .i64 (i : Nat))) ∨ ((∀ (a : Nat) (y : Nd), l[a]? = some y → P y = false) ∧ e = .returned (.int .i64 (-1)))) ∧ Below w.heap.size w w' := by
  have HR := Lib.hid hrow
  have HV := Lib.hid hvs
  have HP := Lib.hid hP
  have HL := Lib.hid hl
  clear hrow hvs hP hl
  go_enter Tryz.func90, Tryz.ntmps90
  go_wp2_with fail
  go_loopw [8] (fun i wr => ∃ j : Nat, j ≤ n ∧ i = .int .i64 j ∧ Hid ((∀ (a : Nat) (y : Nd), a < j → l[a]? = some y → P y = false) ∧ Below w.heap.size w wr)) (fun i _ => n - (intOf i).toNat)
  case atStart => exact ⟨0, Nat.zero_le _, rfl, Lib.hid ⟨fun a y h => absurd h (Nat.not_lt_zero _), Below.refl _ _⟩⟩
  case round =>
    obtain ⟨j, hj, rfl, HM⟩ := hrel
    by_cases hlt : j < n
    · obtain ⟨hno, hb⟩ := HM.out
      obtain ⟨x, hx⟩ : ∃ x, l[j]? = some x := ⟨_, List.getElem?_eq_getElem (by rw [HL.out]; exact hlt)⟩
      have ht : Touch (fun k => k = g) w wr := Touch.of_below hb
      have hr1 := HR.out.keep (w' := wr) (hb.block g HR.out.lt)
      obtain ⟨c0, c1, c2, c3, c4, c5, c6, c7, c8, c9, c10, c11⟩ := ndAt (hr1.at_ (HV.out j x hx))
      have HC := Lib.hid (HP.out wr x ht)
      have hj64 : (j : Int) < (n : Int) := by omega
      cases hpx : P x with
      | true =>
        have HFIN := Lib.hid (And.intro hx (And.intro hpx (And.intro hno hb)))
        rw [hpx] at HC
        obtain ⟨a0, a1, a2, a3, a4, a5, a6, a7, a8, a9, a10, a11⟩ := x
        simp only at c0 c1 c2 c3 c4 c5 c6 c7 c8 c9 c10 c11
        clear hno hb hx ht hr1 hpx
        go_wp2_with fail
        refine HC.out.mono ?_
        rintro e w2 ⟨rfl, hb2⟩
        have HB2 := Lib.hid hb2
        clear hb2
        go_wp2
        go_ret
        obtain ⟨f1, f2, f3, f4⟩ := HFIN.out
        exact ⟨.inl ⟨j, _, f1, f2, f3, rfl⟩, f4.trans (HB2.out.mono f4.size)⟩
      | false =>
        rw [hpx] at HC
        have HFIN := Lib.hid (And.intro hx (And.intro hpx (And.intro hno hb)))
        obtain ⟨a0, a1, a2, a3, a4, a5, a6, a7, a8, a9, a10, a11⟩ := x
        simp only at c0 c1 c2 c3 c4 c5 c6 c7 c8 c9 c10 c11
        clear hno hb hx ht hr1 hpx
        go_wp2_with fail
        refine HC.out.mono ?_
        rintro e w2 ⟨rfl, hb2⟩
        have HN := Lib.hid (show (∀ (a : Nat) (y : Nd), a < j + 1 → l[a]? = some y → P y = false) ∧ Below w.heap.size w w2 from by
          obtain ⟨f1, f2, f3, f4⟩ := HFIN.out
          refine ⟨fun a y ha hy => ?_, f4.trans (hb2.mono f4.size)⟩
          rcases Nat.lt_or_ge a j with h | h
          · exact f3 a y h hy
          · obtain rfl : a = j := by omega
            rw [f1] at hy
            obtain rfl := Option.some.inj hy
            exact f2)
        clear hb2 HFIN
        go_wp2
        go_roundw
        case rel => exact ⟨j + 1, by omega, by go_num, HN⟩
        case measure => simp [intOf]; omega
    · obtain rfl : j = n := by omega
      obtain ⟨hno, hb⟩ := HM.out
      have HFIN := Lib.hid (And.intro (fun (a : Nat) (y : Nd) (hy : l[a]? = some y) => hno a y (by have := (List.getElem?_eq_some_iff.1 hy).1; rw [HL.out] at this; exact this) hy) hb)
      clear hno hb
      go_wp2
      go_ret
      exact ⟨.inr ⟨HFIN.out.1, rfl⟩, HFIN.out.2⟩

def stayN (P : Nd → Bool) (l : List Nd) (j : Nat) : List Nd := (l.take j).filter fun x => !P x
theorem stayN_succ {P : Nd → Bool} {l : List Nd} {j : Nat} {x : Nd} (hx : l[j]? = some x) : stayN P l (j + 1) = if P x then stayN P l j else stayN P l j ++ [x] := by
  obtain ⟨hi, rfl⟩ := List.getElem?_eq_some_iff.1 hx
  unfold stayN
  rw [List.take_succ_eq_append_getElem hi, List.filter_append]
  cases h : P l[j] <;> simp [h]
/-- Where DeleteFunc stands: the first j nodes were looked at. -/
def DelN (w wr : World) (g n cap : Nat) (P : Nd → Bool) (l : List Nd) (j : Nat) : Prop :=
  ∃ vs, RowNd wr g n cap vs ∧ (∀ a x, (stayN P l j)[a]? = some x → NdI vs a x) ∧ (∀ a x, j ≤ a → l[a]? = some x → NdI vs a x) ∧ Touch (fun k => k = g) w wr
theorem DelN.touch {wr wr' : World} {j : Nat} (h : DelN w wr g n cap P l j) (hb : Below wr.heap.size wr wr') : DelN w wr' g n cap P l j := by
  obtain ⟨vs, h1, h2, h3, h4⟩ := h
  exact ⟨vs, h1.keep (hb.block g h1.lt), h2, h3, h4.trans (Touch.of_below hb)⟩
theorem DelN.drop {wr : World} {j : Nat} {x : Nd} (h : DelN w wr g n cap P l j) (hx : l[j]? = some x) (hp : P x = true) : DelN w wr g n cap P l (j + 1) := by
  obtain ⟨vs, h1, h2, h3, h4⟩ := h
  refine ⟨vs, h1, fun a y hy => h2 a y ?_, fun a y ha hy => h3 a y (by omega) hy, h4⟩
  rw [stayN_succ hx, if_pos hp] at hy
  exact hy
theorem DelN.move {wr : World} {j i : Nat} {x : Nd} (h : DelN w wr g n cap P l j) (hx : l[j]? = some x) (hp : P x = false) (hi : (stayN P l j).length = i) (hij : i < j) (hjn : j < n) :
    DelN w ((((((((((((wr.setCell ⟨g, i * 12, none⟩ (.int .i64 x.y)).setCell ⟨g, i * 12 + 1, none⟩ (.int .i64 x.i)).setCell ⟨g, i * 12 + 2, none⟩ (.int .i64 x.p)).setCell ⟨g, i * 12 + 3, none⟩ (.int .i64 x.f)).setCell ⟨g, i * 12 + 4, none⟩ (.int .i64 x.o)).setCell ⟨g, i * 12 + 5, none⟩ (.bool x.ab)).setCell ⟨g, i * 12 + 6, none⟩ (.int .i64 x.li)).setCell ⟨g, i * 12 + 7, none⟩ (.int .i64 x.pr)).setCell ⟨g, i * 12 + 8, none⟩ (.int .i64 x.en)).setCell ⟨g, i * 12 + 9, none⟩ (.int .i64 x.ex)).setCell ⟨g, i * 12 + 10, none⟩ (.int .i64 x.la)).setCell ⟨g, i * 12 + 11, none⟩ (.int .i64 x.ca)) g n cap P l (j + 1) := by
  obtain ⟨vs, h1, h2, h3, h4⟩ := h
  have hlen := h1.len
  refine ⟨_, h1.set12 (by omega) x, fun a y hy => ?_, fun a y ha hy => setNd_other (h3 a y (by omega) hy) (by omega), h4.trans (touch_set12 wr g (i * 12) x)⟩
  rw [stayN_succ hx, if_neg (by rw [hp]; decide)] at hy
  rcases Nat.lt_or_ge a i with h' | h'
  · rw [List.getElem?_append_left (by omega)] at hy
    exact setNd_other (h2 a y hy) (by omega)
  · rw [List.getElem?_append_right (by omega)] at hy
    have ha0 : a - (stayN P l j).length = 0 := by
      have := (List.getElem?_eq_some_iff.1 hy).1
      simp at this
      omega
    rw [ha0] at hy
    obtain rfl : x = y := by simpa using hy
    obtain rfl : a = i := by omega
    exact setNd_same x hlen (by omega)
theorem RowNd.clear_ (h : RowNd w g n cap vs) {i k : Nat} (hi : i < n) (ty : TypeId) :
    ∃ w', (Builtin.clear_ #[40] ty #[.slice (some ⟨g, i * 12, none⟩) (n - i) k]).run Tryz.prog w = .ok (.tuple #[]) w' ∧ (∃ vs', RowNd w' g n cap vs' ∧ ∀ j, j < i * 12 → vs'[j]? = vs[j]?) ∧ Touch (fun k => k = g) w w' := by
  obtain ⟨cur, h1, h2, h3, h4, rfl⟩ := h
  have hz : (zeroValue 50).run Tryz.prog w = .ok (.agg #[.int .i64 0, .int .i64 0, .int .i64 0, .int .i64 0, .int .i64 0, .bool false, .int .i64 0, .int .i64 0, .int .i64 0, .int .i64 0, .int .i64 0, .int .i64 0]) w := by kernel_rfl
  have hzl : (Builtin.zeroCells (Value.agg #[.int .i64 0, .int .i64 0, .int .i64 0, .int .i64 0, .int .i64 0, .bool false, .int .i64 0, .int .i64 0, .int .i64 0, .int .i64 0, .int .i64 0, .int .i64 0]).cells (n - i)).toList.length = (n - i) * 12 := by
    rw [Array.length_toList, size_zeroCells]
    rfl
  have hone : ∀ v ∈ (Builtin.zeroCells (Value.agg #[.int .i64 0, .int .i64 0, .int .i64 0, .int .i64 0, .int .i64 0, .bool false, .int .i64 0, .int .i64 0, .int .i64 0, .int .i64 0, .int .i64 0, .int .i64 0]).cells (n - i)).toList, v.oneCell' = true := by
    intro v hv
    have hv' : v ∈ ((Array.range ((n - i) * 12)).map fun k => (#[.int .i64 0, .int .i64 0, .int .i64 0, .int .i64 0, .int .i64 0, .bool false, .int .i64 0, .int .i64 0, .int .i64 0, .int .i64 0, .int .i64 0, .int .i64 0] : Array Value)[k % 12]!).toList := hv
    rw [Array.toList_map] at hv'
    obtain ⟨k, _, rfl⟩ := List.mem_map.1 hv'
    have : k % 12 = 0 ∨ k % 12 = 1 ∨ k % 12 = 2 ∨ k % 12 = 3 ∨ k % 12 = 4 ∨ k % 12 = 5 ∨ k % 12 = 6 ∨ k % 12 = 7 ∨ k % 12 = 8 ∨ k % 12 = 9 ∨ k % 12 = 10 ∨ k % 12 = 11 := by omega
    rcases this with e | e | e | e | e | e | e | e | e | e | e | e <;> rw [e] <;> rfl
  have hst := run_storeCells_at Tryz.prog g (i * 12) 50 _ 0 cur w h1 (by rw [hzl]; omega) hone
  have hrun : (Builtin.clear_ #[40] ty #[.slice (some ⟨g, i * 12, none⟩) (n - i) k]).run Tryz.prog w = .ok (.tuple #[]) (w.setRow g (cur.toList.take (i * 12 + 0) ++ (Builtin.zeroCells (Value.agg #[.int .i64 0, .int .i64 0, .int .i64 0, .int .i64 0, .int .i64 0, .bool false, .int .i64 0, .int .i64 0, .int .i64 0, .int .i64 0, .int .i64 0, .int .i64 0]).cells (n - i)).toList ++ cur.toList.drop (i * 12 + 0 + (Builtin.zeroCells (Value.agg #[.int .i64 0, .int .i64 0, .int .i64 0, .int .i64 0, .int .i64 0, .bool false, .int .i64 0, .int .i64 0, .int .i64 0, .int .i64 0, .int .i64 0, .int .i64 0]).cells (n - i)).toList.length)).toArray) := by
    obtain ⟨k', hk'⟩ : ∃ k', n - i = k' + 1 := ⟨n - i - 1, by omega⟩
    rw [hk'] at hst ⊢
    simp only [Builtin.clear_]
    simp only [List.getElem?_toArray, List.getElem?_cons_zero]
    simp only [Sem.run_bind, run_underlying Tryz.underlying40, hz, Result.andThen]
    rw [hst]
    rfl
  generalize (Builtin.zeroCells (Value.agg #[.int .i64 0, .int .i64 0, .int .i64 0, .int .i64 0, .int .i64 0, .bool false, .int .i64 0, .int .i64 0, .int .i64 0, .int .i64 0, .int .i64 0, .int .i64 0]).cells (n - i)).toList = C at hrun hzl
  refine ⟨_, hrun, ⟨_, ⟨_, setRow_heap w g cur _ 50 _ h1, h2, h3, ?_, rfl⟩, fun j hj => ?_⟩, ⟨rfl, rfl, rfl, by simp [World.setRow], fun k hk hne => setRow_other w g k _ (fun e => hne e)⟩⟩
  · rw [List.size_toArray, List.length_append, List.length_append, hzl, List.length_take, List.length_drop, Array.length_toList]
    omega
  · rw [List.append_assoc, List.getElem?_take, if_pos (by omega), List.getElem?_append_left (by rw [List.length_take, Array.length_toList]; omega), List.getElem?_take, if_pos (by omega), List.getElem?_take, if_pos (by omega)]
theorem own_rowNd {v : Value} (h : NdE.Own 50 w base (.slice (some ⟨g, 0, none⟩) n cap) l) : l.length = n ∧ base ≤ g ∧ RowNd w g n cap (NdE.all l) := by
  rcases h.2 with ⟨e, _⟩ | ⟨g', cap', cur, e, hb, hg, hc, hm, hs, ht⟩
  · cases e
  · cases e
    exact ⟨rfl, hb, cur, hg, hc, hm, hs, ht⟩
theorem rowNd_own (h : RowNd w g n cap vs) {k : Nat} (hk : l.length = k) (hkn : k ≤ n) (hb : base ≤ g) (hvs : ∀ a x, l[a]? = some x → NdI vs a x) : NdE.Own 50 w base (.slice (some ⟨g, 0, none⟩) k cap) l := by
  have hlen := h.len
  obtain ⟨cur, h1, h2, h3, h4, rfl⟩ := h
  subst hk
  refine ⟨Enc.all_length l, .inr ⟨g, cap, cur, rfl, hb, h1, Nat.le_trans hkn h2, h3, h4, ?_⟩⟩
  apply List.ext_getElem?
  intro j
  show (cur.toList.take (l.length * 12))[j]? = _
  rcases Nat.lt_or_ge j (l.length * 12) with hj | hj
  · obtain ⟨x, hx⟩ : ∃ x, l[j / 12]? = some x := ⟨_, List.getElem?_eq_getElem (by omega)⟩
    have e1 := hvs (j / 12) x hx (j % 12) (by omega)
    have e2 := Enc.all_at (E := NdE) hx (j % 12) (show j % 12 < 12 by omega)
    rw [show j / 12 * NdE.K + j % 12 = j by show j / 12 * 12 + j % 12 = j; omega] at e2
    rw [show j / 12 * 12 + j % 12 = j by omega] at e1
    rw [e2, List.getElem?_take, if_pos hj]
    rw [List.getElem?_take, if_pos (by omega)] at e1
    exact e1
  · rw [List.getElem?_eq_none (by rw [List.length_take]; omega), List.getElem?_eq_none (by rw [Enc.all_length]; exact hj)]
set_option maxHeartbeats 12800000 in
theorem delN_any {fid : FuncId} {fv : Array Value} (efn : ∀ args w, (callFunc fid args).run Tryz.prog w = .ok (.enter fid args) w) (h : NdE.Own 50 w base (.slice (some ⟨g, 0, none⟩) n cap) l) (hP : ChdN w g fid fv P) (hn : n ≤ 4294967296) :
    Calls Tryz.prog 56 #[.slice (some ⟨g, 0, none⟩) n cap, .func (.func fid) #[] fv] w fun e w' =>
      e = .returned (.slice (some ⟨g, 0, none⟩) (l.filter fun x => !P x).length cap) ∧ NdE.Own 50 w' base (.slice (some ⟨g, 0, none⟩) (l.filter fun x => !P x).length cap) (l.filter fun x => !P x) ∧ Touch (fun k => k = g) w w' := by
  obtain ⟨hl, hbg, hrow⟩ := own_rowNd (v := .slice none 0 0) h
  have hvs : ∀ a x, l[a]? = some x → NdI (NdE.all l) a x := fun a x hx k hk => Enc.all_at (E := NdE) hx k hk
  have hcap : n ≤ cap := by obtain ⟨_, _, hc, _⟩ := hrow; exact hc
  have hcapm : cap ≤ 2 ^ 63 - 1 := by obtain ⟨_, _, _, hc, _⟩ := hrow; exact hc
  have HI := Lib.hid (idxN_any efn hrow hl hvs hP hn)
  have H0 := Lib.hid (And.intro hrow hvs)
  have HP := Lib.hid hP
  have HL := Lib.hid hl
  have HB := Lib.hid hbg
  have HG := Lib.hid h
  clear hrow hvs hP hl hbg h
  go_enter Tryz.func56, Tryz.ntmps56
  go_wp2_with fail
  refine HI.out.mono ?_
  rintro e w1 ⟨hcase, hb1⟩
  rcases hcase with ⟨i0, x0, hx0, hp0, hno, rfl⟩ | ⟨hno, rfl⟩
  · have hi0 : i0 < n := by have := (List.getElem?_eq_some_iff.1 hx0).1; rw [HL.out] at this; exact this
    have hst0 : stayN P l (i0 + 1) = l.take i0 := by
      rw [stayN_succ hx0, if_pos hp0]
      unfold stayN
      rw [List.filter_eq_self]
      intro a ha
      obtain ⟨k, hk, rfl⟩ := List.getElem_of_mem ha
      rw [List.length_take] at hk
      rw [List.getElem_take, hno k _ (by omega) (List.getElem?_eq_getElem (by omega))]
      rfl
    have hD0 : DelN w w1 g n cap P l (i0 + 1) := by
      obtain ⟨hrow, hvs⟩ := H0.out
      have ht : Touch (fun k => k = g) w w1 := Touch.of_below hb1
      refine ⟨_, hrow.keep (hb1.block g hrow.lt), fun a x hx => ?_, fun a x _ hx => hvs a x hx, ht⟩
      rw [hst0] at hx
      rw [List.getElem?_take] at hx
      split at hx
      · exact hvs a x hx
      · cases hx
    have hlen0 : (stayN P l (i0 + 1)).length = i0 := by rw [hst0, List.length_take, HL.out]; omega
    have HD0 := Lib.hid (And.intro hD0 hlen0)
    have hi64 : ((i0 : Int) == -1) = false := by simp
    clear hx0 hp0 hno hb1 hst0 hD0 hlen0
    go_wp2_with fail
    go_loopw [5, 6] (fun iv jv wr => ∃ i j : Nat, i < j ∧ j ≤ n ∧ iv = .int .i64 i ∧ jv = .int .i64 j ∧ Hid (DelN w wr g n cap P l j ∧ (stayN P l j).length = i)) (fun _ jv _ => n - (intOf jv).toNat)
    case atStart => exact ⟨i0, i0 + 1, by omega, by omega, rfl, by go_num, HD0⟩
    case round =>
      obtain ⟨i, j, hij, hjn, rfl, rfl, HD⟩ := hrel
      obtain ⟨hD, hsl⟩ := HD.out
      by_cases hlt : j < n
      · obtain ⟨x, hx⟩ : ∃ x, l[j]? = some x := ⟨_, List.getElem?_eq_getElem (by rw [HL.out]; exact hlt)⟩
        have hcl : NdE.At wr g (j * 12) x ∧ g < wr.heap.size ∧ Touch (fun k => k = g) w wr := by
          obtain ⟨vs', h1, h2, h3, h4⟩ := hD
          exact ⟨h1.at_ (h3 j x (Nat.le_refl _) hx), h1.lt, h4⟩
        obtain ⟨hat, hgl, ht⟩ := hcl
        obtain ⟨c0, c1, c2, c3, c4, c5, c6, c7, c8, c9, c10, c11⟩ := ndAt hat
        obtain ⟨w2, hw2⟩ : ∃ w2, w2 = wr.alloc (.cells #[.int .i64 x.y, .int .i64 x.i, .int .i64 x.p, .int .i64 x.f, .int .i64 x.o, .bool x.ab, .int .i64 x.li, .int .i64 x.pr, .int .i64 x.en, .int .i64 x.ex, .int .i64 x.la, .int .i64 x.ca] 50 (0, 0)) := ⟨_, rfl⟩
        have hb2 : Below wr.heap.size wr w2 := by rw [hw2]; exact (Below.refl _ _).alloc (Nat.le_refl _) _
        have hs2 : wr.heap.size < w2.heap.size := by rw [hw2]; simp
        have hbk : w2.heap[wr.heap.size]? = some (.cells #[.int .i64 x.y, .int .i64 x.i, .int .i64 x.p, .int .i64 x.f, .int .i64 x.o, .bool x.ab, .int .i64 x.li, .int .i64 x.pr, .int .i64 x.en, .int .i64 x.ex, .int .i64 x.la, .int .i64 x.ca] 50 (0, 0)) := by rw [hw2]; exact heap_alloc_new _ _
        have t2 : Touch (fun k => k = g) w w2 := ht.trans (Touch.of_below hb2)
        have HC := Lib.hid (HP.out w2 x t2)
        have hj64 : (j : Int) < (n : Int) := by omega
        have HX := Lib.hid (And.intro hx (And.intro hD hsl))
        have HB2 := Lib.hid (And.intro hb2 (And.intro hs2 (And.intro hbk hgl)))
        clear hx hD hsl hb2 hs2 hbk t2 ht hgl hat
        cases hpx : P x with
        | true =>
          have HPX := Lib.hid hpx
          rw [hpx] at HC
          obtain ⟨a0, a1, a2, a3, a4, a5, a6, a7, a8, a9, a10, a11⟩ := x
          simp only at c0 c1 c2 c3 c4 c5 c6 c7 c8 c9 c10 c11 hw2
          clear hpx
          go_wp2_with fail
          rw [← hw2]
          clear hw2
          refine HC.out.mono ?_
          rintro e w3 ⟨rfl, hb3⟩
          obtain ⟨x1, x2, x3⟩ := HX.out
          obtain ⟨y1, y2, y3, y4⟩ := HB2.out
          have HN := Lib.hid (show DelN w w3 g n cap P l (j + 1) ∧ (stayN P l (j + 1)).length = i from ⟨(x2.touch (y1.trans (hb3.mono y1.size))).drop x1 HPX.out, by rw [stayN_succ x1, if_pos HPX.out]; exact x3⟩)
          clear x1 x2 x3 y1 y2 y3 y4 hb3
          go_wp2
          go_roundw
          case rel => exact ⟨i, j + 1, by omega, by omega, rfl, by go_num, HN⟩
          case measure => simp [intOf]; omega
        | false =>
          have HPX := Lib.hid hpx
          rw [hpx] at HC
          clear hpx
          go_wp2_with fail
          rw [← hw2]
          clear hw2
          refine HC.out.mono ?_
          rintro e w3 ⟨rfl, hb3⟩
          obtain ⟨x1, x2, x3⟩ := HX.out
          obtain ⟨y1, y2, y3, y4⟩ := HB2.out
          have y5 := y1.trans (hb3.mono y1.size)
          have hbk3 := (hb3.block wr.heap.size y2).trans y3
          have d0 : w3.cell? ⟨wr.heap.size, 0, none⟩ = some (.int .i64 x.y) := by rw [cell_of_row w3 _ 0 _ _ (0, 0) hbk3]; rfl
          have d1 : w3.cell? ⟨wr.heap.size, 1, none⟩ = some (.int .i64 x.i) := by rw [cell_of_row w3 _ 1 _ _ (0, 0) hbk3]; rfl
          have d2 : w3.cell? ⟨wr.heap.size, 2, none⟩ = some (.int .i64 x.p) := by rw [cell_of_row w3 _ 2 _ _ (0, 0) hbk3]; rfl
          have d3 : w3.cell? ⟨wr.heap.size, 3, none⟩ = some (.int .i64 x.f) := by rw [cell_of_row w3 _ 3 _ _ (0, 0) hbk3]; rfl
          have d4 : w3.cell? ⟨wr.heap.size, 4, none⟩ = some (.int .i64 x.o) := by rw [cell_of_row w3 _ 4 _ _ (0, 0) hbk3]; rfl
          have d5 : w3.cell? ⟨wr.heap.size, 5, none⟩ = some (.bool x.ab) := by rw [cell_of_row w3 _ 5 _ _ (0, 0) hbk3]; rfl
          have d6 : w3.cell? ⟨wr.heap.size, 6, none⟩ = some (.int .i64 x.li) := by rw [cell_of_row w3 _ 6 _ _ (0, 0) hbk3]; rfl
          have d7 : w3.cell? ⟨wr.heap.size, 7, none⟩ = some (.int .i64 x.pr) := by rw [cell_of_row w3 _ 7 _ _ (0, 0) hbk3]; rfl
          have d8 : w3.cell? ⟨wr.heap.size, 8, none⟩ = some (.int .i64 x.en) := by rw [cell_of_row w3 _ 8 _ _ (0, 0) hbk3]; rfl
          have d9 : w3.cell? ⟨wr.heap.size, 9, none⟩ = some (.int .i64 x.ex) := by rw [cell_of_row w3 _ 9 _ _ (0, 0) hbk3]; rfl
          have d10 : w3.cell? ⟨wr.heap.size, 10, none⟩ = some (.int .i64 x.la) := by rw [cell_of_row w3 _ 10 _ _ (0, 0) hbk3]; rfl
          have d11 : w3.cell? ⟨wr.heap.size, 11, none⟩ = some (.int .i64 x.ca) := by rw [cell_of_row w3 _ 11 _ _ (0, 0) hbk3]; rfl
          have hD3 := x2.touch y5
          have hio : ∃ vs, RowNd w3 g n cap vs := by
            obtain ⟨vs3, z1, _⟩ := hD3
            exact ⟨vs3, z1⟩
          obtain ⟨vs3, hr3⟩ := hio
          have hl3 := hr3.len
          obtain ⟨v0, i0⟩ : ∃ u, w3.cell? ⟨g, i * 12, none⟩ = some u := ⟨_, hr3.cell (List.getElem?_eq_getElem (by omega))⟩
          have z0 := hr3.frozen (i * 12)
          obtain ⟨v1, i1⟩ : ∃ u, w3.cell? ⟨g, i * 12 + 1, none⟩ = some u := ⟨_, hr3.cell (List.getElem?_eq_getElem (by omega))⟩
          have z1 := hr3.frozen (i * 12 + 1)
          obtain ⟨v2, i2⟩ : ∃ u, w3.cell? ⟨g, i * 12 + 2, none⟩ = some u := ⟨_, hr3.cell (List.getElem?_eq_getElem (by omega))⟩
          have z2 := hr3.frozen (i * 12 + 2)
          obtain ⟨v3, i3⟩ : ∃ u, w3.cell? ⟨g, i * 12 + 3, none⟩ = some u := ⟨_, hr3.cell (List.getElem?_eq_getElem (by omega))⟩
          have z3 := hr3.frozen (i * 12 + 3)
          obtain ⟨v4, i4⟩ : ∃ u, w3.cell? ⟨g, i * 12 + 4, none⟩ = some u := ⟨_, hr3.cell (List.getElem?_eq_getElem (by omega))⟩
          have z4 := hr3.frozen (i * 12 + 4)
          obtain ⟨v5, i5⟩ : ∃ u, w3.cell? ⟨g, i * 12 + 5, none⟩ = some u := ⟨_, hr3.cell (List.getElem?_eq_getElem (by omega))⟩
          have z5 := hr3.frozen (i * 12 + 5)
          obtain ⟨v6, i6⟩ : ∃ u, w3.cell? ⟨g, i * 12 + 6, none⟩ = some u := ⟨_, hr3.cell (List.getElem?_eq_getElem (by omega))⟩
          have z6 := hr3.frozen (i * 12 + 6)
          obtain ⟨v7, i7⟩ : ∃ u, w3.cell? ⟨g, i * 12 + 7, none⟩ = some u := ⟨_, hr3.cell (List.getElem?_eq_getElem (by omega))⟩
          have z7 := hr3.frozen (i * 12 + 7)
          obtain ⟨v8, i8⟩ : ∃ u, w3.cell? ⟨g, i * 12 + 8, none⟩ = some u := ⟨_, hr3.cell (List.getElem?_eq_getElem (by omega))⟩
          have z8 := hr3.frozen (i * 12 + 8)
          obtain ⟨v9, i9⟩ : ∃ u, w3.cell? ⟨g, i * 12 + 9, none⟩ = some u := ⟨_, hr3.cell (List.getElem?_eq_getElem (by omega))⟩
          have z9 := hr3.frozen (i * 12 + 9)
          obtain ⟨v10, i10⟩ : ∃ u, w3.cell? ⟨g, i * 12 + 10, none⟩ = some u := ⟨_, hr3.cell (List.getElem?_eq_getElem (by omega))⟩
          have z10 := hr3.frozen (i * 12 + 10)
          obtain ⟨v11, i11⟩ : ∃ u, w3.cell? ⟨g, i * 12 + 11, none⟩ = some u := ⟨_, hr3.cell (List.getElem?_eq_getElem (by omega))⟩
          have z11 := hr3.frozen (i * 12 + 11)
          have hi64 : (i : Int) < (n : Int) := by omega
          have HN := Lib.hid (show DelN w ((((((((((((w3.setCell ⟨g, i * 12, none⟩ (.int .i64 x.y)).setCell ⟨g, i * 12 + 1, none⟩ (.int .i64 x.i)).setCell ⟨g, i * 12 + 2, none⟩ (.int .i64 x.p)).setCell ⟨g, i * 12 + 3, none⟩ (.int .i64 x.f)).setCell ⟨g, i * 12 + 4, none⟩ (.int .i64 x.o)).setCell ⟨g, i * 12 + 5, none⟩ (.bool x.ab)).setCell ⟨g, i * 12 + 6, none⟩ (.int .i64 x.li)).setCell ⟨g, i * 12 + 7, none⟩ (.int .i64 x.pr)).setCell ⟨g, i * 12 + 8, none⟩ (.int .i64 x.en)).setCell ⟨g, i * 12 + 9, none⟩ (.int .i64 x.ex)).setCell ⟨g, i * 12 + 10, none⟩ (.int .i64 x.la)).setCell ⟨g, i * 12 + 11, none⟩ (.int .i64 x.ca)) g n cap P l (j + 1) ∧ (stayN P l (j + 1)).length = i + 1 from
            ⟨hD3.move x1 HPX.out x3 hij hlt, by rw [stayN_succ x1, if_neg (by rw [HPX.out]; decide), List.length_append, x3]; rfl⟩)
          clear x1 x2 x3 y1 y2 y3 y4 y5 hb3 hbk3 hD3 hr3 hl3 c0 c1 c2 c3 c4 c5 c6 c7 c8 c9 c10 c11
          go_wp2
          go_roundw
          case rel => exact ⟨i + 1, j + 1, by omega, by omega, by go_num, by go_num, HN⟩
          case measure => simp [intOf]; omega
      · obtain rfl : j = n := by omega
        have hfil : stayN P l j = l.filter fun x => !P x := by unfold stayN; rw [List.take_of_length_le (by rw [HL.out]; exact Nat.le_refl _)]
        rw [hfil] at hsl
        obtain ⟨vs', r1, r2, r3, r4⟩ := hD
        rw [hfil] at r2
        obtain ⟨w4, hrun, ⟨vs4, q1, q2⟩, q3⟩ := r1.clear_ (k := cap - i) hij 0
        have HFIN := Lib.hid (show NdE.Own 50 w4 base (.slice (some ⟨g, 0, none⟩) (l.filter fun x => !P x).length cap) (l.filter fun x => !P x) ∧ Touch (fun k => k = g) w w4 from
          ⟨rowNd_own q1 rfl (by omega) HB.out (fun a x hx k hk => by
            have ha := (List.getElem?_eq_some_iff.1 hx).1
            rw [q2 _ (by omega)]
            exact r2 a x hx k hk), r4.trans q3⟩)
        have HSL := Lib.hid hsl
        have hij64 : (i : Int) < (j : Int) := by omega
        have hi0 : (0 : Int) ≤ (i : Int) := by omega
        clear hfil r1 r2 r3 r4 q1 q2 q3 hsl
        go_wp2
        go_ret
        exact ⟨congrArg (fun z => Ending.returned (Value.slice (some ⟨g, 0, none⟩) z cap)) HSL.out.symm, HFIN.out⟩
  · have hfil : (l.filter fun x => !P x) = l := by
      rw [List.filter_eq_self]
      intro a ha
      obtain ⟨k, hk, rfl⟩ := List.getElem_of_mem ha
      rw [hno k _ (List.getElem?_eq_getElem hk)]
      rfl
    have HFIN := Lib.hid (show NdE.Own 50 w1 base (.slice (some ⟨g, 0, none⟩) (l.filter fun x => !P x).length cap) (l.filter fun x => !P x) ∧ Touch (fun k => k = g) w w1 from by
      rw [hfil, HL.out]
      exact ⟨HG.out.below hb1, Touch.of_below hb1⟩)
    have HSL := Lib.hid (show (l.filter fun x => !P x).length = n by rw [hfil]; exact HL.out)
    clear hno hb1 hfil
    go_wp2
    go_ret
    exact ⟨congrArg (fun z => Ending.returned (Value.slice (some ⟨g, 0, none⟩) z cap)) HSL.out.symm, HFIN.out⟩
theorem delN_nil (w : World) (k : Nat) (fv : Value) : Calls Tryz.prog 56 #[.slice none 0 k, fv] w fun e w' => e = .returned (.slice none 0 k) ∧ w = w' := by
  have hI : Calls Tryz.prog 90 #[.slice none 0 k, fv] w fun e w' => e = .returned (.int .i64 (-1)) ∧ w = w' := by
    go_enter Tryz.func90, Tryz.ntmps90
    go_wp2_with fail
    go_loopw [8] (fun i wr => i = .int .i64 0 ∧ w = wr) (fun _ _ => 0)
    case atStart => exact ⟨rfl, rfl⟩
    case round =>
      obtain ⟨rfl, rfl⟩ := hrel
      go_wp2
      go_ret
      exact ⟨rfl, rfl⟩
  go_enter Tryz.func56, Tryz.ntmps56
  go_wp2_with fail
  refine hI.mono ?_
  rintro e w' ⟨rfl, rfl⟩
  go_wp2
  go_ret
  exact ⟨rfl, rfl⟩
end

section
variable {w w' : World} {A A' : Option Addr} {n m k B B' : Nat} {l l' : List Nd}
theorem below_drewNd {B : Nat} {w w' : World} (h : Below B w w') : ∀ n, Below B w (w'.drewN n) := fun n => ⟨h.os, h.tape, h.output, h.size, h.block⟩
set_option maxHeartbeats 1600000 in
theorem EqualNd_any (c d : Nat) (hr : NdE.R w B A n l) (hr' : NdE.R w B' A' m l') (hm : n ≤ maxLen) (hm' : m ≤ maxLen) (hB : B ≤ w.heap.size) (hB' : B' ≤ w.heap.size) :
    Calls Tryz.prog 25 #[.slice A n c, .slice A' m d] w fun e w' => e = .returned (.bool (decide (l = l'))) ∧ Below w.heap.size w w' := by
  unfold maxLen at hm hm'
  have hlen := hr.len
  have hlen' := hr'.len
  have HR := Lib.hid (And.intro hr hr')
  clear hr hr'
  by_cases hnm : n = m
  · subst hnm
    have hne : ((n : Int) != (n : Int)) = false := by simp
    go_enter Tryz.func25, Tryz.ntmps25
    go_wp2
    go_loopw [13] (fun i wr => ∃ k : Nat, k ≤ n ∧ i = .int .i64 k ∧ Hid (∀ j, j < k → l[j]? = l'[j]?) ∧ Below w.heap.size w wr) (fun i _ => n - (intOf i).toNat)
    case atStart => exact ⟨0, Nat.zero_le _, rfl, Lib.hid (fun j hj => absurd hj (by omega)), Below.refl _ _⟩
    case round =>
      obtain ⟨k, hk, rfl, hbef, hbw⟩ := hrel
      by_cases hlt : k < n
      · obtain ⟨x, hx⟩ : ∃ x, l[k]? = some x := ⟨_, List.getElem?_eq_getElem (by omega)⟩
        obtain ⟨y, hy⟩ : ∃ y, l'[k]? = some y := ⟨_, List.getElem?_eq_getElem (by omega)⟩
        obtain ⟨b, off, rfl, hb, hcell⟩ := HR.out.1.2.2 (by omega)
        obtain ⟨b', off', rfl, hb', hcell'⟩ := HR.out.2.2.2 (by omega)
        obtain ⟨c0, c1, c2, c3, c4, c5, c6, c7, c8, c9, c10, c11⟩ := ndAt ((hcell k x hx).keep hb (fun b o hbb => hbw.cell (p := ⟨b, o, none⟩) (Nat.lt_of_lt_of_le hbb hB)))
        obtain ⟨d0, d1, d2, d3, d4, d5, d6, d7, d8, d9, d10, d11⟩ := ndAt ((hcell' k y hy).keep hb' (fun b o hbb => hbw.cell (p := ⟨b, o, none⟩) (Nat.lt_of_lt_of_le hbb hB')))
        have HXY := Lib.hid (And.intro hx hy)
        have HBW := Lib.hid hbw
        clear hcell hcell' hx hy hbw
        have hlt' : (k : Int) < (n : Int) := by omega
        have hcmp := same_node x y
        have hK : NdE.K = 12 := rfl
        rw [hK] at c0 d0 c1 d1 c2 d2 c3 d3 c4 d4 c5 d5 c6 d6 c7 d7 c8 d8 c9 d9 c10 d10 c11 d11
        clear hK
        by_cases hv : x = y
        · have hn := Lib.hid (fun j (hj : j < k + 1) => show l[j]? = l'[j]? by
            rcases Nat.lt_or_ge j k with h | h
            · exact hbef.out j h
            · obtain rfl : j = k := by omega
              rw [HXY.out.1, HXY.out.2, hv])
          rw [decide_eq_true hv] at hcmp
          obtain ⟨x0, x1, x2, x3, x4, x5, x6, x7, x8, x9, x10, x11⟩ := x
          obtain ⟨y0, y1, y2, y3, y4, y5, y6, y7, y8, y9, y10, y11⟩ := y
          simp only [ndV] at c0 d0 c1 d1 c2 d2 c3 d3 c4 d4 c5 d5 c6 d6 c7 d7 c8 d8 c9 d9 c10 d10 c11 d11 hcmp
          clear hv
          go_wp2_with fail
          go_quiet (fail)
          go_wp2
          go_roundw
          case rel => exact ⟨k + 1, by omega, by go_num, hn, below_drewNd HBW.out _⟩
          case measure => simp [intOf]; omega
        · have hd := Lib.hid (show decide (l = l') = false by
            have : ¬ l = l' := fun e => hv (by
              have h1 := HXY.out.1
              rw [e, HXY.out.2] at h1
              exact (Option.some.inj h1).symm)
            simpa using this)
          rw [decide_eq_false hv] at hcmp
          obtain ⟨x0, x1, x2, x3, x4, x5, x6, x7, x8, x9, x10, x11⟩ := x
          obtain ⟨y0, y1, y2, y3, y4, y5, y6, y7, y8, y9, y10, y11⟩ := y
          simp only [ndV] at c0 d0 c1 d1 c2 d2 c3 d3 c4 d4 c5 d5 c6 d6 c7 d7 c8 d8 c9 d9 c10 d10 c11 d11 hcmp
          clear hv
          go_wp2_with fail
          go_quiet (fail)
          go_wp2
          go_ret
          rw [hd.out]
          exact ⟨rfl, below_drewNd HBW.out _⟩
      · obtain rfl : k = n := by omega
        have hd := Lib.hid (show decide (l = l') = true by
          have : l = l' := List.ext_getElem? fun j => by
            rcases Nat.lt_or_ge j k with h | h
            · exact hbef.out j h
            · rw [List.getElem?_eq_none (by omega), List.getElem?_eq_none (by omega)]
          simpa using this)
        go_wp2
        go_ret
        rw [hd.out]
        exact ⟨rfl, hbw⟩
  · have hne : ((n : Int) != (m : Int)) = true := by simp; omega
    have hd : decide (l = l') = false := by
      have : ¬ l = l' := fun e => hnm (by rw [← hlen, ← hlen', e])
      simpa using this
    rw [hd]
    clear hd hnm
    go_enter Tryz.func25, Tryz.ntmps25
    go_wp2
    go_ret
    exact ⟨rfl, Below.refl _ _⟩
end
end Go.Proofs.YtilhcchnlbdlhaaGreat
