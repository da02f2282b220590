/-
  The texts EqIntsB, MetaF, MetaG joined. Conditions: those that each part says at its head.
-/
import Derived.Test.YtinhdimalhfgkaaGreatDoorG2
import Derived.Test.YtinhdimalhfgkaaGreatDoorG27
import Derived.BigQuiet
import Derived.ChangeKeysEq
import Derived.Laws.Cover3
import Derived.Deep.MidRow
import Derived.Deep.RegionHeld3

/-
  slices.Equal on ints by its contract: whether they are the same. Nothing is written. No condition.
-/
namespace Go.Proofs.YtinhdimalhfgkaaGreatDoor
open Go.RowKit
set_option maxRecDepth 100000
set_option linter.unusedVariables false

theorem same_of {l m : List Int} (h : l.length = m.length) (he : ∀ j, j < l.length → l[j]?.getD 0 = m[j]?.getD 0) : l = m := by
  apply List.ext_getElem h
  intro j h1 h2
  have := he j h1
  rw [List.getElem?_eq_getElem h1, List.getElem?_eq_getElem h2] at this
  exact this

theorem belowI_drewN {B : Nat} {w w' : World} (h : Below B w w') : ∀ n, Below B w (w'.drewN n) := fun n => ⟨h.os, h.tape, h.output, h.size, h.block⟩

set_option maxHeartbeats 800000 in
theorem EqualInts_any {w : World} {B B' n m : Nat} {A A' : Option Addr} {l l' : List Int} (c d : Nat) (hr : RI w B A n l) (hr' : RI w B' A' m l') (hm : n ≤ maxLen) (hm' : m ≤ maxLen) (hB : B ≤ w.heap.size) (hB' : B' ≤ w.heap.size) :
    Calls Tryz.prog 182 #[.slice A n c, .slice A' m d] w fun e w' => e = .returned (.bool (decide (l = l'))) ∧ Below w.heap.size w w' := by
  unfold maxLen at hm hm'
  have hlen := hr.len
  have hlen' := hr'.len
  by_cases hnm : n = m
  · subst hnm
    have hne : ((n : Int) != (n : Int)) = false := by simp
    go_enter Tryz.func182, Tryz.ntmps182
    go_wp2
    go_loopw [13] (fun i wr => ∃ k : Nat, k ≤ n ∧ i = .int .i64 k ∧ Hid (∀ j, j < k → l[j]?.getD 0 = l'[j]?.getD 0) ∧ Below w.heap.size w wr) (fun i _ => n - (intOf i).toNat)
    case atStart => exact ⟨0, Nat.zero_le _, rfl, Lib.hid (fun j hj => absurd hj (by omega)), Below.refl _ _⟩
    case round =>
      obtain ⟨k, hk, rfl, hbef, hbw⟩ := hrel
      by_cases hlt : k < n
      · obtain ⟨b, off, rfl, hb, hcell⟩ := hr.2.2 (by omega)
        obtain ⟨b', off', rfl, hb', hcell'⟩ := hr'.2.2 (by omega)
        have hck := (hbw.cell (p := ⟨b, off + k, none⟩) (Nat.lt_of_lt_of_le hb hB)).trans (hcell k hlt)
        have hck' := (hbw.cell (p := ⟨b', off' + k, none⟩) (Nat.lt_of_lt_of_le hb' hB')).trans (hcell' k hlt)
        clear hcell hcell'
        have hlt' : (k : Int) < (n : Int) := by omega
        by_cases hv : l[k]?.getD 0 = l'[k]?.getD 0
        · have hn := Lib.hid (fun j (hj : j < k + 1) => show l[j]?.getD 0 = l'[j]?.getD 0 by
            rcases Nat.lt_or_ge j k with h | h
            · exact hbef.out j h
            · obtain rfl : j = k := by omega
              exact hv)
          have kv : (l[k]?.getD 0 != l'[k]?.getD 0) = false := by simp [hv]
          clear hv
          generalize l[k]?.getD 0 = u at hck kv
          generalize l'[k]?.getD 0 = u' at hck' kv
          go_wp2_with fail
          go_quiet (fail)
          go_wp2
          go_roundw
          case rel => exact ⟨k + 1, by omega, by go_num, hn, belowI_drewN hbw _⟩
          case measure => simp [intOf]; omega
        · have hd := Lib.hid (show decide (l = l') = false by
            have : ¬ l = l' := fun e => hv (by rw [e])
            simpa using this)
          have kv : (l[k]?.getD 0 != l'[k]?.getD 0) = true := by simpa using hv
          clear hv
          generalize l[k]?.getD 0 = u at hck kv
          generalize l'[k]?.getD 0 = u' at hck' kv
          go_wp2_with fail
          go_quiet (fail)
          go_wp2
          go_ret
          rw [hd.out]
          exact ⟨rfl, belowI_drewN hbw _⟩
      · obtain rfl : k = n := by omega
        have hd := Lib.hid (show decide (l = l') = true by
          have : l = l' := same_of (by omega) (fun j hj => hbef.out j (by omega))
          simpa using this)
        go_wp2
        go_ret
        rw [hd.out]
        exact ⟨rfl, hbw⟩
  · have hne : ((n : Int) != (m : Int)) = true := by simp; omega
    have hd : decide (l = l') = false := by
      have : ¬ l = l' := fun e => hnm (by rw [← hlen, ← hlen', e])
      simpa using this
    rw [hd]
    clear hd hnm
    go_enter Tryz.func182, Tryz.ntmps182
    go_wp2
    go_ret
    exact ⟨rfl, Below.refl _ _⟩

end Go.Proofs.YtinhdimalhfgkaaGreatDoor

/-
  Contracts of meta.Parse and meta.Same. Condition: lengths and numbers are ints.
-/
namespace Go.Proofs.YtinhdimalhfgkaaGreatDoor
open Go.RowKit
set_option maxRecDepth 100000
set_option linter.unusedVariables false

/-! ### arrays of whole numbers -/
theorem eq_items {P : Program} (w : World) (d : Nat) (e : TypeId) (k : IntKind) (he : P.underlying e = some (.int k)) (xs ys : List Int) : ∀ is : List Nat, (∀ i ∈ is, i < xs.length ∧ i < ys.length) →
    (Op.eqItems (d + 1) e 1 (xs.map (Value.int k)).toArray (ys.map (Value.int k)).toArray is).run P w = .ok (decide (∀ i ∈ is, xs[i]? = ys[i]?)) w
  | [], _ => by simp [Op.eqItems]
  | i :: is, h => by
    obtain ⟨h1, h2⟩ := h i (List.mem_cons_self ..)
    have hk : P.plainKey e = true := by simp [Program.plainKey, he]
    have p1 := run_part_plain (P := P) w hk (xs := (xs.map (Value.int k)).toArray) (off := i) (v := .int k xs[i]) (by simp [h1])
    have p2 := run_part_plain (P := P) w hk (xs := (ys.map (Value.int k)).toArray) (off := i) (v := .int k ys[i]) (by simp [h2])
    simp only [Op.eqItems, Nat.mul_one, Sem.run_bind, p1, p2, Result.andThen_ok, run_equalIn_int w d e k k xs[i] ys[i] he]
    have ih := eq_items w d e k he xs ys is (fun j hj => h j (List.mem_cons_of_mem _ hj))
    have g1 : xs[i]? = some xs[i] := List.getElem?_eq_getElem h1
    have g2 : ys[i]? = some ys[i] := List.getElem?_eq_getElem h2
    by_cases hxy : xs[i] = ys[i]
    · have hb : (xs[i] == ys[i]) = true := by simpa using hxy
      rw [hb]
      simp only [Bool.not_true, Bool.false_eq_true, if_false, ih]
      congr 2
      apply propext
      constructor
      · intro h' j hj
        rcases List.mem_cons.1 hj with rfl | hj
        · rw [g1, g2, hxy]
        · exact h' j hj
      · intro h' j hj
        exact h' j (List.mem_cons_of_mem _ hj)
    · have hb : (xs[i] == ys[i]) = false := by simpa using hxy
      rw [hb]
      simp only [Bool.not_false, if_true, Sem.run_pure]
      congr 1
      symm
      rw [decide_eq_false_iff_not]
      intro h'
      have := h' i (List.mem_cons_self ..)
      rw [g1, g2] at this
      exact hxy (Option.some.inj this)
theorem eq_array {P : Program} (w : World) (t e : TypeId) (k : IntKind) {i0 : TypeInfo} (n : Nat) (xs ys : List Int) (hu : P.underlying t = some (.array n e)) (he : P.underlying e = some (.int k)) (hi : P.info? e = some i0) (hc : P.cellsOf e = 1) (hx : xs.length = n) (hy : ys.length = n) (d : Nat) :
    (Op.equalIn (d + 2) t (.agg (xs.map (Value.int k)).toArray) (.agg (ys.map (Value.int k)).toArray)).run P w = .ok (decide (xs = ys)) w := by
  rw [run_equalIn_array w (d + 1) _ _ hu hi, hc, eq_items w d e k he xs ys _ (fun i hi => by
    have := List.mem_range.1 hi
    omega)]
  congr 1
  rw [decide_eq_decide]
  constructor
  · intro h
    apply List.ext_getElem?
    intro j
    rcases Nat.lt_or_ge j n with hj | hj
    · exact h j (List.mem_range.2 hj)
    · rw [List.getElem?_eq_none (by omega), List.getElem?_eq_none (by omega)]
  · rintro rfl i _
    rfl
theorem neq_array {P : Program} (w : World) (t e : TypeId) (k : IntKind) {i0 : TypeInfo} (n : Nat) (xs ys : List Int) (hu : P.underlying t = some (.array n e)) (he : P.underlying e = some (.int k)) (hi : P.info? e = some i0) (hc : P.cellsOf e = 1) (hx : xs.length = n) (hy : ys.length = n) :
    (binOp .neq t (.agg (xs.map (Value.int k)).toArray) (.agg (ys.map (Value.int k)).toArray)).run P w = .ok (.bool (!decide (xs = ys))) w := by
  rw [run_neq_struct, eq_array w t e k n xs ys hu he hi hc hx hy 9998]
  rfl
theorem eql_array {P : Program} (w : World) (t e : TypeId) (k : IntKind) {i0 : TypeInfo} (n : Nat) (xs ys : List Int) (hu : P.underlying t = some (.array n e)) (he : P.underlying e = some (.int k)) (hi : P.info? e = some i0) (hc : P.cellsOf e = 1) (hx : xs.length = n) (hy : ys.length = n) :
    (binOp .eql t (.agg (xs.map (Value.int k)).toArray) (.agg (ys.map (Value.int k)).toArray)).run P w = .ok (.bool (decide (xs = ys))) w := by
  rw [run_eql_struct, eq_array w t e k n xs ys hu he hi hc hx hy 9998]
  rfl

theorem MBox.five (w : World) (d f n c d' f' n' c' : Int) (v v' : Value) : MBox ((w.alloc (.cells #[.int .i64 d, .int .i64 f, .int .i64 n, .int .i64 c, v] 41)).alloc (.cells #[.int .i64 d', .int .i64 f', .int .i64 n', .int .i64 c', v'] 41)) w.heap.size d f n c v :=
  (MBox.new w d f n c v).below ((Below.refl _ _).alloc (Nat.le_refl _) _)

set_option maxHeartbeats 400000 in
theorem numbers_any (d f n c : Int) (v : Value) (w : World) : Calls Tryz.prog 181 #[.agg #[.int .i64 d, .int .i64 f, .int .i64 n, .int .i64 c, v]] w fun e w' => e = .returned (.agg #[.int .i64 d, .int .i64 f, .int .i64 n, .int .i64 c]) ∧ Below w.heap.size w w' := by
  have hX : Below w.heap.size w (w.alloc (.cells #[.int .i64 d, .int .i64 f, .int .i64 n, .int .i64 c, v] 41)) := (Below.refl _ _).alloc (Nat.le_refl _) _
  have HM := Lib.hid (MBox.new w d f n c v)
  go_enter Tryz.func181, Tryz.ntmps181
  have hb : ((w.alloc (.cells #[.int .i64 d, .int .i64 f, .int .i64 n, .int .i64 c, v] 41)).alloc (.cells #[.int .i64 d, .int .i64 f, .int .i64 n, .int .i64 c] 223)).heap[w.heap.size + 1]? = some (.cells #[.int .i64 d, .int .i64 f, .int .i64 n, .int .i64 c] 223 (0, 0)) := by
    have := heap_alloc_new (w.alloc (.cells #[.int .i64 d, .int .i64 f, .int .i64 n, .int .i64 c, v] 41)) (.cells #[.int .i64 d, .int .i64 f, .int .i64 n, .int .i64 c] 223)
    simpa using this
  have d0 : _ = some (Value.int .i64 d) := cell_of_row _ (w.heap.size + 1) 0 _ _ (0, 0) hb
  have d1 : _ = some (Value.int .i64 f) := cell_of_row _ (w.heap.size + 1) 1 _ _ (0, 0) hb
  have d2 : _ = some (Value.int .i64 n) := cell_of_row _ (w.heap.size + 1) 2 _ _ (0, 0) hb
  have d3 : _ = some (Value.int .i64 c) := cell_of_row _ (w.heap.size + 1) 3 _ _ (0, 0) hb
  have HX := Lib.hid (hX.alloc hX.size (.cells #[.int .i64 d, .int .i64 f, .int .i64 n, .int .i64 c] 223))
  clear hX hb
  go_wp2
  refine bodyPost_ret (v := .agg #[.int .i64 d, .int .i64 f, .int .i64 n, .int .i64 c]) (by
    simp [results, Tryz.results181, go_sem, d0, d1, d2, d3]) rfl ?_
  exact ⟨rfl, HX.out⟩

/-- Two Metas in variables' blocks. -/
def Boxes (w : World) (b : Nat) (x y : Int × Int × Int × Int) (u v : Value) : Prop := MBox w b x.1 x.2.1 x.2.2.1 x.2.2.2 u ∧ MBox w (b + 1) y.1 y.2.1 y.2.2.1 y.2.2.2 v
theorem Boxes.below {w w' : World} {b : Nat} {x y : Int × Int × Int × Int} {u v : Value} (h : Boxes w b x y u v) (hb : Below w.heap.size w w') : Boxes w' b x y u v := ⟨h.1.below hb, h.2.below hb⟩
theorem Boxes.cells {w : World} {b : Nat} {x y : Int × Int × Int × Int} {u v : Value} (h : Boxes w b x y u v) :
    w.cell? ⟨b, 0, none⟩ = some (.int .i64 x.1) ∧ w.cell? ⟨b, 1, none⟩ = some (.int .i64 x.2.1) ∧ w.cell? ⟨b, 2, none⟩ = some (.int .i64 x.2.2.1) ∧ w.cell? ⟨b, 3, none⟩ = some (.int .i64 x.2.2.2) ∧ w.cell? ⟨b, 4, none⟩ = some u ∧
    w.cell? ⟨b + 1, 0, none⟩ = some (.int .i64 y.1) ∧ w.cell? ⟨b + 1, 1, none⟩ = some (.int .i64 y.2.1) ∧ w.cell? ⟨b + 1, 2, none⟩ = some (.int .i64 y.2.2.1) ∧ w.cell? ⟨b + 1, 3, none⟩ = some (.int .i64 y.2.2.2) ∧ w.cell? ⟨b + 1, 4, none⟩ = some v := by
  obtain ⟨a0, a1, a2, a3, a4, _⟩ := h.1.cells
  obtain ⟨b0, b1, b2, b3, b4, _⟩ := h.2.cells
  exact ⟨a0, a1, a2, a3, a4, b0, b1, b2, b3, b4⟩

theorem info_int4 : (Tryz.prog.info? 3).map (·.size) = some 1 := by kernel_rfl
set_option maxHeartbeats 3200000 in
theorem same_any {w : World} {A A' : Option Addr} {k m cap cap' B : Nat} (d f n c d' f' n' c' : Int) {l l' : List Int} (hr : RI w B A k l) (hr' : RI w B A' m l') (hB : B ≤ w.heap.size) (hk : k ≤ maxLen) (hm : m ≤ maxLen) :
    Calls Tryz.prog 122 #[.agg #[.int .i64 d, .int .i64 f, .int .i64 n, .int .i64 c, .slice A k cap], .agg #[.int .i64 d', .int .i64 f', .int .i64 n', .int .i64 c', .slice A' m cap']] w fun e w' => e = .returned (.bool (sameB ⟨d, f, n, c, l⟩ ⟨d', f', n', c', l'⟩)) ∧ Below w.heap.size w w' := by
  obtain ⟨i0, hi, _⟩ : ∃ i0, Tryz.prog.info? 3 = some i0 ∧ True := by
    cases hq : Tryz.prog.info? 3 with
    | none => have := info_int4; rw [hq] at this; cases this
    | some i0 => exact ⟨i0, rfl, trivial⟩
  have qeq : ∀ W : World, (binOp .eql 223 (.agg #[.int .i64 d, .int .i64 f, .int .i64 n, .int .i64 c]) (.agg #[.int .i64 d', .int .i64 f', .int .i64 n', .int .i64 c'])).run Tryz.prog W = .ok (.bool (decide ([d, f, n, c] = [d', f', n', c']))) W := fun W => eql_array W 223 3 .i64 4 [d, f, n, c] [d', f', n', c'] Tryz.underlying223 Tryz.underlying3 hi (by kernel_rfl) rfl rfl
  have hX : Below w.heap.size w ((w.alloc (.cells #[.int .i64 d, .int .i64 f, .int .i64 n, .int .i64 c, .slice A k cap] 41)).alloc (.cells #[.int .i64 d', .int .i64 f', .int .i64 n', .int .i64 c', .slice A' m cap'] 41)) := ((Below.refl _ _).alloc (Nat.le_refl _) _).alloc (by simp) _
  have hbx : Boxes ((w.alloc (.cells #[.int .i64 d, .int .i64 f, .int .i64 n, .int .i64 c, .slice A k cap] 41)).alloc (.cells #[.int .i64 d', .int .i64 f', .int .i64 n', .int .i64 c', .slice A' m cap'] 41)).drew w.heap.size (d, f, n, c) (d', f', n', c') (.slice A k cap) (.slice A' m cap') := by
    refine ⟨MBox.five w d f n c d' f' n' c' _ _, ?_⟩
    have := heap_alloc_new (w.alloc (.cells #[.int .i64 d, .int .i64 f, .int .i64 n, .int .i64 c, .slice A k cap] 41)) (.cells #[.int .i64 d', .int .i64 f', .int .i64 n', .int .i64 c', .slice A' m cap'] 41)
    show (World.alloc _ _).heap[w.heap.size + 1]? = _
    simpa using this
  have hT := hX.drew
  have c5 := hbx.cells
  have HR := Lib.hid (fun (w1 : World) (hb : Below w.heap.size w w1) => (hr.below (hb.mono hB)))
  have HR' := Lib.hid (fun (w1 : World) (hb : Below w.heap.size w w1) => (hr'.below (hb.mono hB)))
  have hsame : sameB ⟨d, f, n, c, l⟩ ⟨d', f', n', c', l'⟩ = (decide ([d, f, n, c] = [d', f', n', c']) && decide (l = l')) := by
    unfold sameB
    by_cases a : d = d' <;> by_cases b : f = f' <;> by_cases e : n = n' <;> by_cases g : c = c' <;> simp [a, b, e, g]
  rw [hsame]
  clear hsame hr hr' hX
  cases hq : decide ([d, f, n, c] = [d', f', n', c']) with
  | false =>
    rw [hq] at qeq
    clear hq
    go_enter Tryz.func122, Tryz.ntmps122
    go_wp2_with fail
    obtain ⟨x0, x1, x2, x3, x4, x5, x6, x7, x8, x9⟩ := c5
    first
      | (go_region_with
          (go_at_call 181; refine (numbers_any _ _ _ _ _ _).mono ?_; rintro e wN ⟨rfl, hbN⟩; have hbx := hbx.below hbN; have hT := hT.trans (hbN.mono hT.size); obtain ⟨x0, x1, x2, x3, x4, x5, x6, x7, x8, x9⟩ := hbx.cells))
      | fail
    all_goals go_wp2
    all_goals go_ret
    all_goals exact ⟨rfl, hT⟩
  | true =>
    rw [hq] at qeq
    clear hq
    go_enter Tryz.func122, Tryz.ntmps122
    go_wp2_with fail
    go_region_held3 (fun w' => w'.cell? ⟨w.heap.size, 0, none⟩ = some (.int .i64 d) ∧ w'.cell? ⟨w.heap.size, 1, none⟩ = some (.int .i64 f) ∧ w'.cell? ⟨w.heap.size, 2, none⟩ = some (.int .i64 n) ∧ w'.cell? ⟨w.heap.size, 3, none⟩ = some (.int .i64 c) ∧ w'.cell? ⟨w.heap.size, 4, none⟩ = some (.slice A k cap) ∧ w'.cell? ⟨w.heap.size + 1, 0, none⟩ = some (.int .i64 d') ∧ w'.cell? ⟨w.heap.size + 1, 1, none⟩ = some (.int .i64 f') ∧ w'.cell? ⟨w.heap.size + 1, 2, none⟩ = some (.int .i64 n') ∧ w'.cell? ⟨w.heap.size + 1, 3, none⟩ = some (.int .i64 c') ∧ w'.cell? ⟨w.heap.size + 1, 4, none⟩ = some (.slice A' m cap'))
      (first | with_reducible exact c5 | exact c5)
      (first | (go_at_call 181; refine (numbers_any _ _ _ _ _ _).mono ?_; rintro e wN ⟨rfl, hbN⟩; have hbx := hbx.below hbN; have hT := hT.trans (hbN.mono hT.size); have c5 := hbx.cells) | (go_at_call 182; refine (EqualInts_any cap cap' (HR.out _ hT) (HR'.out _ hT) hk hm (Nat.le_trans hB hT.size) (Nat.le_trans hB hT.size)).mono ?_; rintro e wE ⟨rfl, hbE⟩; have hbx := hbx.below hbE; have hT := hT.trans (hbE.mono hT.size); have c5 := hbx.cells))
    all_goals go_wp2
    all_goals go_ret
    all_goals exact ⟨rfl, hT⟩

end Go.Proofs.YtinhdimalhfgkaaGreatDoor

/-
  Contract of meta.Parse. Condition: the length of a slice is an int.
-/
namespace Go.Proofs.YtinhdimalhfgkaaGreatDoor
open Go.RowKit
set_option maxRecDepth 100000
set_option linter.unusedVariables false

/-- Bytes as an array's cells. -/
theorem bytes_range {w : World} {B : Nat} {b off n : Nat} {l : List Int} (h : RB w B (some ⟨b, off, none⟩) n l) : w.rangeAt b off (l.map (Value.int .u8)) := fun j v hv => by
  obtain ⟨ad, e, hc⟩ := h.src j v hv
  cases e
  rw [add_none] at hc
  exact hc

theorem read_mv (data : List Int) : readM data (countM data) = ⟨at_ data 4 1, at_ data 6 4, at_ data 10 4, at_ data 14 4, cutL data 18 4 (countM data)⟩ := rfl

set_option maxHeartbeats 6400000 in
theorem parse_any {w : World} {B n c : Nat} {A : Option Addr} {data : List Int} (hr : RB w B A n data) (hc : n ≤ c) (hB : B ≤ w.heap.size) (hm : n ≤ maxLen) :
    Calls Tryz.prog 94 #[.slice A n c] w fun e w' => ∃ A' k' c', e = .returned (.tuple #[.agg #[.int .i64 (parseM data).1.d, .int .i64 (parseM data).1.f, .int .i64 (parseM data).1.n, .int .i64 (parseM data).1.c, .slice A' k' c'], .int .i64 (parseM data).2]) ∧ k' ≤ c' ∧ RI w' w'.heap.size A' k' (parseM data).1.l ∧ Below w.heap.size w w' := by
  unfold maxLen at hm
  have hlen := hr.len
  have hby := hr.bytes
  have HB0 := Lib.hid (MBox.new w 0 0 0 0 (.slice none 0 0))
  have hX : Below w.heap.size w (w.alloc (.cells #[.int .i64 0, .int .i64 0, .int .i64 0, .int .i64 0, .slice none 0 0] 41)) := (Below.refl _ _).alloc (Nat.le_refl _) _
  by_cases h240 : n = 240
  · subst h240
    have hsX : (w.alloc (.cells #[.int .i64 0, .int .i64 0, .int .i64 0, .int .i64 0, .slice none 0 0] 41)).heap.size = w.heap.size + 1 := by simp
    have HRD := Lib.hid (read_any (hr.below (hX.mono hB)) hc (Nat.le_trans hB hX.size))
    have HRX := Lib.hid (fun (w1 : World) (hb : Below w.heap.size w w1) => hr.below (hb.mono hB))
    have HX := Lib.hid hX
    have HBY := Lib.hid hby
    have HLEN := Lib.hid hlen
    clear hX hr hby hlen
    go_enter Tryz.func94, Tryz.ntmps94
    go_wp2_with fail
    refine HRD.out.mono ?_
    rintro e w1 ⟨g, rfl, hg, hi1, hb1⟩
    have hb01 := HX.out.trans (hb1.mono HX.out.size)
    have hmb1 := HB0.out.below hb1
    have hK := (at_one HBY.out HLEN.out).2
    have hri1 : RI w1 w1.heap.size (some ⟨g, 0, none⟩) (countM data) (cutL data 18 4 (countM data)) := hi1.ri (cutL_length _ _ _ _) (cut_bounds HBY.out _ _ _)
    have hX2 : Below w1.heap.size w1 (w1.alloc (.cells #[.int .i64 (at_ data 4 1), .int .i64 (at_ data 6 4), .int .i64 (at_ data 10 4), .int .i64 (at_ data 14 4), .slice (some ⟨g, 0, none⟩) (countM data) (countM data)] 41)) := (Below.refl _ _).alloc (Nat.le_refl _) _
    have HPT := Lib.hid (metaPut_any (w := w1.alloc (.cells #[.int .i64 (at_ data 4 1), .int .i64 (at_ data 6 4), .int .i64 (at_ data 10 4), .int .i64 (at_ data 14 4), .slice (some ⟨g, 0, none⟩) (countM data) (countM data)] 41)) (cap := countM data) (at_ data 4 1) (at_ data 6 4) (at_ data 10 4) (at_ data 14 4) ((hri1.below hX2).more hX2.size) (by unfold maxLen; omega) (at_bounds HBY.out _ _) (at_bounds HBY.out _ _) (at_bounds HBY.out _ _) (at_bounds HBY.out _ _))
    rw [← read_mv] at HPT
    have HK1 := Lib.hid (And.intro hb01 (And.intro hmb1 (And.intro hi1 hX2)))
    clear hb1 hb01 hmb1 hi1 hri1 hX2 HRD
    go_wp2_with fail
    refine HPT.out.mono ?_
    by_cases hmay : mayB (readM data (countM data)) = true
    · have hP : putM (readM data (countM data)) = (metaL (readM data (countM data)), 0) := by unfold putM; rw [if_pos hmay]
      rw [hP]
      rintro e w2 ⟨A2, n2, c2, rfl, hc2, hr2, hb2⟩
      have hl2 : (metaL (readM data (countM data))).length = 240 := metaL_length (by
        have := (may_few hmay).2.1.2
        omega)
      obtain rfl : n2 = 240 := by rw [← hr2.len]; exact hl2
      obtain ⟨ab, ao, rfl, hab, _⟩ := hr2.at_ (by decide)
      obtain ⟨hb01, hmb1, hi1, hX2⟩ := HK1.out
      have hb12 := hX2.trans (hb2.mono hX2.size)
      have hb02 := hb01.trans (hb12.mono hb01.size)
      have hrd2 := HRX.out w2 hb02
      obtain ⟨db, dof, rfl, hdb, _⟩ := hrd2.at_ (by decide)
      have q1 := bytes_range hr2
      have q2 := bytes_range hrd2
      have p1 : ∀ W : World, (Instr.arrayAt 203 (.slice (some ⟨ab, ao, none⟩) 240 c2)).run Tryz.prog W = .ok (.pointer (some ⟨ab, ao, none⟩)) W := fun W => run_arrayAt W 203 5 240 (some ⟨ab, ao, none⟩) 240 c2 Tryz.underlying203 (Nat.le_refl _)
      have p2 : ∀ W : World, (Instr.arrayAt 203 (.slice (some ⟨db, dof, none⟩) 240 c)).run Tryz.prog W = .ok (.pointer (some ⟨db, dof, none⟩)) W := fun W => run_arrayAt W 203 5 240 (some ⟨db, dof, none⟩) 240 c Tryz.underlying203 (Nat.le_refl _)
      obtain ⟨j0, hj, _⟩ : ∃ j0, Tryz.prog.info? 5 = some j0 ∧ True := by
        cases hq : Tryz.prog.info? 5 with
        | none => have := size_u8'; rw [hq] at this; cases this
        | some j0 => exact ⟨j0, rfl, trivial⟩
      have qn := fun W : World => neq_array (P := Tryz.prog) W 203 5 .u8 240 (metaL (readM data (countM data))) data Tryz.underlying203 Tryz.underlying5 hj (by kernel_rfl) hl2 HLEN.out
      generalize hplq : metaL (readM data (countM data)) = pl at *
      have HPL := Lib.hid hplq
      clear hplq
      have hu43 := Tryz.underlying203
      have hi43 : (Tryz.prog.info? 203).map (·.size) = some 240 := by kernel_rfl
      have hza : (Tryz.prog.info? 203).map (·.size) = some (pl.map (Value.int .u8)).length := by rw [List.length_map, hl2]; exact hi43
      have hzb : (Tryz.prog.info? 203).map (·.size) = some (data.map (Value.int .u8)).length := by rw [List.length_map, HLEN.out]; exact hi43
      clear hl2 hi43
      have hmbm := (MBox.new w1 (at_ data 4 1) (at_ data 6 4) (at_ data 10 4) (at_ data 14 4) (.slice (some ⟨g, 0, none⟩) (countM data) (countM data))).below hb2
      obtain ⟨m0, m1, m2, m3, m4, _⟩ := hmbm.cells
      have hmr := hmb1.below hb12
      have f0 := hmr.frozen 0
      have f1 := hmr.frozen 1
      have f2 := hmr.frozen 2
      have f3 := hmr.frozen 3
      have f4 := hmr.frozen 4
      obtain ⟨z0, z1, z2, z3, z4, _⟩ := hmr.cells
      have HI2 := Lib.hid (And.intro hmr (And.intro (hi1.keep (hb12.block _ hi1.lt)) (And.intro hb02 hmay)))
      have hg' : g ≠ w.heap.size := by have := hb01.size; rw [hsX] at hg; omega
      clear hmr hmbm hmb1 hi1 hX2 hb12 hb02 hb01 hmay hb2 hr2 hrd2 hP
      go_wp2_with fail
      refine wp_region_held_drew (S := (fun w' => w'.rangeAt ab ao (pl.map (Value.int .u8)) ∧ w'.rangeAt db dof (data.map (Value.int .u8)))) (by kernel_rfl) ⟨q1, q2⟩ (fun hHeld => ?_)
      refine wpAnyH_take (i := 0) (oi := { dst := some 18, op := .move (.tmp 6), type := _, pos := _, after := _, guard := _ }) (v := .int .i64 0) rfl (by kernel_rfl) (by kernel_rfl) (by kernel_rfl) (fun _ _ _ h => h) (Or.inl ⟨by rfl, fun w hSw => ?_⟩) (by assumption) ?_
      · go_simp
      simp only [Act.put, List.setIfInBounds_toArray, List.set_cons_zero, List.set_cons_succ]
      refine wpAnyH_take (i := 1) (oi := { dst := some 19, op := .binOp .neq 32 (.tmp 18) (.const (.int .i64 0)) 32, type := _, pos := _, after := _, guard := _ }) (v := .bool false) rfl (by kernel_rfl) (by kernel_rfl) (by kernel_rfl) (fun _ _ _ h => h) (Or.inl ⟨by rfl, fun w hSw => ?_⟩) (by assumption) ?_
      · go_simp
      simp only [Act.put, List.setIfInBounds_toArray, List.set_cons_zero, List.set_cons_succ]
      refine wpAnyH_take (i := 2) (oi := { dst := some 20, op := .move (.tmp 19), type := _, pos := _, after := _, guard := _ }) (v := .bool false) rfl (by kernel_rfl) (by kernel_rfl) (by kernel_rfl) (fun _ _ _ h => h) (Or.inl ⟨by rfl, fun w hSw => ?_⟩) (by assumption) ?_
      · go_simp
      simp only [Act.put, List.setIfInBounds_toArray, List.set_cons_zero, List.set_cons_succ]
      refine wpAnyH_take (i := 3) (oi := { dst := some 21, op := .move (.tmp 5), type := _, pos := _, after := _, guard := _ }) (v := .slice (some ⟨ab, ao, none⟩) 240 c2) rfl (by kernel_rfl) (by kernel_rfl) (by kernel_rfl) (fun _ _ _ h => h) (Or.inl ⟨by rfl, fun w hSw => ?_⟩) (by assumption) ?_
      · go_simp
      simp only [Act.put, List.setIfInBounds_toArray, List.set_cons_zero, List.set_cons_succ]
      refine wpAnyH_take (i := 4) (oi := { dst := some 22, op := .sliceToArrayPointer 203 (.tmp 21), type := _, pos := _, after := _, guard := _ }) (v := .pointer (some ⟨ab, ao, none⟩)) rfl (by kernel_rfl) (by kernel_rfl) (by kernel_rfl) (fun _ _ _ h => h) (Or.inl ⟨by rfl, fun w hSw => ?_⟩) (by assumption) ?_
      · go_simp
      simp only [Act.put, List.setIfInBounds_toArray, List.set_cons_zero, List.set_cons_succ]
      refine' wpAnyH_take (i := 5) (oi := { dst := some 23, op := .load 203 (.tmp 22), type := _, pos := _, after := _, guard := _ }) (v := _) rfl (by kernel_rfl) (by kernel_rfl) (by kernel_rfl) (fun _ _ _ h => h) (yieldsIf_load_mid (by rfl) _ _ rfl _ _ rfl (pl.map (Value.int .u8)) _ (fun w h => h.1) hu43 rfl hza) (by assumption) ?_
      simp only [Act.put, List.setIfInBounds_toArray, List.set_cons_zero, List.set_cons_succ]
      refine wpAnyH_take (i := 6) (oi := { dst := some 24, op := .move (.tmp 0), type := _, pos := _, after := _, guard := _ }) (v := .slice (some ⟨db, dof, none⟩) 240 c) rfl (by kernel_rfl) (by kernel_rfl) (by kernel_rfl) (fun _ _ _ h => h) (Or.inl ⟨by rfl, fun w hSw => ?_⟩) (by assumption) ?_
      · go_simp
      simp only [Act.put, List.setIfInBounds_toArray, List.set_cons_zero, List.set_cons_succ]
      refine wpAnyH_take (i := 7) (oi := { dst := some 25, op := .sliceToArrayPointer 203 (.tmp 24), type := _, pos := _, after := _, guard := _ }) (v := .pointer (some ⟨db, dof, none⟩)) rfl (by kernel_rfl) (by kernel_rfl) (by kernel_rfl) (fun _ _ _ h => h) (Or.inl ⟨by rfl, fun w hSw => ?_⟩) (by assumption) ?_
      · go_simp
      simp only [Act.put, List.setIfInBounds_toArray, List.set_cons_zero, List.set_cons_succ]
      refine' wpAnyH_take (i := 8) (oi := { dst := some 26, op := .load 203 (.tmp 25), type := _, pos := _, after := _, guard := _ }) (v := _) rfl (by kernel_rfl) (by kernel_rfl) (by kernel_rfl) (fun _ _ _ h => h) (yieldsIf_load_mid (by rfl) _ _ rfl _ _ rfl (data.map (Value.int .u8)) _ (fun w h => h.2) hu43 rfl hzb) (by assumption) ?_
      simp only [Act.put, List.setIfInBounds_toArray, List.set_cons_zero, List.set_cons_succ]
      refine wpAnyH_take (i := 9) (oi := { dst := some 27, op := .binOp .neq 203 (.tmp 23) (.tmp 26) 203, type := _, pos := _, after := _, guard := _ }) (v := .bool (!decide (pl = data))) rfl (by kernel_rfl) (by kernel_rfl) (by kernel_rfl) (fun _ _ _ h => h) (Or.inl ⟨by rfl, fun w hSw => ?_⟩) (by assumption) ?_
      · go_simp
      simp only [Act.put, List.setIfInBounds_toArray, List.set_cons_zero, List.set_cons_succ]
      refine wpAnyH_take (i := 10) (oi := { dst := some 28, op := .pick (.tmp 20) (.const (.bool true)) (.tmp 27), type := _, pos := _, after := _, guard := _ }) (v := .bool (!decide (pl = data))) rfl (by kernel_rfl) (by kernel_rfl) (by kernel_rfl) (fun _ _ _ h => h) (Or.inl ⟨by rfl, fun w hSw => ?_⟩) (by assumption) ?_
      · go_simp
      simp only [Act.put, List.setIfInBounds_toArray, List.set_cons_zero, List.set_cons_succ]
      refine wpAnyH_done (by kernel_rfl) ?_ _
      by_cases hpd : pl = data
      · have hkd : (!decide (pl = data)) = false := by simpa using hpd
        have hps : parseM data = (readM data (countM data), 0) := by
          unfold parseM
          rw [if_pos ⟨HLEN.out, HI2.out.2.2.2, by rw [HPL.out]; exact hpd⟩]
        have HPS := Lib.hid hps
        have HS := Lib.hid (show MBox (((((w2.setCell ⟨w.heap.size, 0, none⟩ (Value.int IntKind.i64 (at_ data 4 1))).setCell ⟨w.heap.size, 1, none⟩ (Value.int IntKind.i64 (at_ data 6 4))).setCell ⟨w.heap.size, 2, none⟩ (Value.int IntKind.i64 (at_ data 10 4))).setCell ⟨w.heap.size, 3, none⟩ (Value.int IntKind.i64 (at_ data 14 4))).setCell ⟨w.heap.size, 4, none⟩ (Value.slice (some ⟨g, 0, none⟩) (countM data) (countM data))).drew w.heap.size (at_ data 4 1) (at_ data 6 4) (at_ data 10 4) (at_ data 14 4) (.slice (some ⟨g, 0, none⟩) (countM data) (countM data)) ∧ IBlk (((((w2.setCell ⟨w.heap.size, 0, none⟩ (Value.int IntKind.i64 (at_ data 4 1))).setCell ⟨w.heap.size, 1, none⟩ (Value.int IntKind.i64 (at_ data 6 4))).setCell ⟨w.heap.size, 2, none⟩ (Value.int IntKind.i64 (at_ data 10 4))).setCell ⟨w.heap.size, 3, none⟩ (Value.int IntKind.i64 (at_ data 14 4))).setCell ⟨w.heap.size, 4, none⟩ (Value.slice (some ⟨g, 0, none⟩) (countM data) (countM data))).drew g (cutL data 18 4 (countM data)) ∧ Below w.heap.size w (((((w2.setCell ⟨w.heap.size, 0, none⟩ (Value.int IntKind.i64 (at_ data 4 1))).setCell ⟨w.heap.size, 1, none⟩ (Value.int IntKind.i64 (at_ data 6 4))).setCell ⟨w.heap.size, 2, none⟩ (Value.int IntKind.i64 (at_ data 10 4))).setCell ⟨w.heap.size, 3, none⟩ (Value.int IntKind.i64 (at_ data 14 4))).setCell ⟨w.heap.size, 4, none⟩ (Value.slice (some ⟨g, 0, none⟩) (countM data) (countM data))).drew from ⟨MBox.store (w := w2) HI2.out.1 _ _ _ _ _, IBlk.keep (w := w2) HI2.out.2.1 (block_five hg'), (below_five HI2.out.2.2.1 (Nat.le_refl _)).drew⟩)
        clear hpd hps
        rw [hkd]
        clear hkd
        go_wp2
        generalize hXX : (((((w2.setCell ⟨w.heap.size, 0, none⟩ (Value.int IntKind.i64 (at_ data 4 1))).setCell ⟨w.heap.size, 1, none⟩ (Value.int IntKind.i64 (at_ data 6 4))).setCell ⟨w.heap.size, 2, none⟩ (Value.int IntKind.i64 (at_ data 10 4))).setCell ⟨w.heap.size, 3, none⟩ (Value.int IntKind.i64 (at_ data 14 4))).setCell ⟨w.heap.size, 4, none⟩ (Value.slice (some ⟨g, 0, none⟩) (countM data) (countM data))).drew = X at *
        obtain ⟨d0, d1, d2, d3, d4, _⟩ := HS.out.1.cells
        go_wp2
        refine bodyPost_ret (v := .tuple #[.agg #[.int .i64 (at_ data 4 1), .int .i64 (at_ data 6 4), .int .i64 (at_ data 10 4), .int .i64 (at_ data 14 4), .slice (some ⟨g, 0, none⟩) (countM data) (countM data)], .int .i64 0]) (by
          simp [results, Tryz.results94, go_sem, d0, d1, d2, d3, d4]) rfl ?_
        rw [HPS.out]
        exact ⟨_, _, _, rfl, Nat.le_refl _, HS.out.2.1.ri (cutL_length _ _ _ _) (cut_bounds HBY.out _ _ _), HS.out.2.2⟩
      · have hkd : (!decide (pl = data)) = true := by simpa using hpd
        have hps : parseM data = (MV.zero, 4) := by
          unfold parseM
          rw [if_neg (fun h => hpd (by rw [← HPL.out]; exact h.2.2))]
        have HPS := Lib.hid hps
        have HS := Lib.hid (show MBox (((((w2.setCell ⟨w.heap.size, 0, none⟩ (Value.int IntKind.i64 0)).setCell ⟨w.heap.size, 1, none⟩ (Value.int IntKind.i64 0)).setCell ⟨w.heap.size, 2, none⟩ (Value.int IntKind.i64 0)).setCell ⟨w.heap.size, 3, none⟩ (Value.int IntKind.i64 0)).setCell ⟨w.heap.size, 4, none⟩ (Value.slice none 0 0)).drew w.heap.size 0 0 0 0 (.slice none 0 0) ∧ Below w.heap.size w (((((w2.setCell ⟨w.heap.size, 0, none⟩ (Value.int IntKind.i64 0)).setCell ⟨w.heap.size, 1, none⟩ (Value.int IntKind.i64 0)).setCell ⟨w.heap.size, 2, none⟩ (Value.int IntKind.i64 0)).setCell ⟨w.heap.size, 3, none⟩ (Value.int IntKind.i64 0)).setCell ⟨w.heap.size, 4, none⟩ (Value.slice none 0 0)).drew from ⟨MBox.store (w := w2) HI2.out.1 _ _ _ _ _, (below_five HI2.out.2.2.1 (Nat.le_refl _)).drew⟩)
        clear hpd hps
        rw [hkd]
        clear hkd
        go_wp2
        generalize hXX : (((((w2.setCell ⟨w.heap.size, 0, none⟩ (Value.int IntKind.i64 0)).setCell ⟨w.heap.size, 1, none⟩ (Value.int IntKind.i64 0)).setCell ⟨w.heap.size, 2, none⟩ (Value.int IntKind.i64 0)).setCell ⟨w.heap.size, 3, none⟩ (Value.int IntKind.i64 0)).setCell ⟨w.heap.size, 4, none⟩ (Value.slice none 0 0)).drew = X at *
        obtain ⟨d0, d1, d2, d3, d4, _⟩ := HS.out.1.cells
        go_wp2
        refine bodyPost_ret (v := .tuple #[.agg #[.int .i64 0, .int .i64 0, .int .i64 0, .int .i64 0, .slice none 0 0], .int .i64 4]) (by
          simp [results, Tryz.results94, go_sem, d0, d1, d2, d3, d4]) rfl ?_
        rw [HPS.out]
        exact ⟨none, 0, 0, rfl, Nat.le_refl _, RI.nil_, HS.out.2⟩
    · have hP : putM (readM data (countM data)) = ([], 1) := by unfold putM; rw [if_neg hmay]
      have HPS := Lib.hid (show parseM data = (MV.zero, 4) from by
        unfold parseM
        rw [if_neg (fun h => hmay h.2.1)])
      rw [hP]
      rintro e w2 ⟨A2, n2, c2, rfl, hc2, hr2, hb2⟩
      obtain ⟨hb01, hmb1, hi1, hX2⟩ := HK1.out
      have hb12 := hX2.trans (hb2.mono hX2.size)
      have hb02 := hb01.trans (hb12.mono hb01.size)
      have hmr := hmb1.below hb12
      have f0 := hmr.frozen 0
      have f1 := hmr.frozen 1
      have f2 := hmr.frozen 2
      have f3 := hmr.frozen 3
      have f4 := hmr.frozen 4
      obtain ⟨z0, z1, z2, z3, z4, _⟩ := hmr.cells
      have HS := Lib.hid (show MBox (((((w2.setCell ⟨w.heap.size, 0, none⟩ (Value.int IntKind.i64 0)).setCell ⟨w.heap.size, 1, none⟩ (Value.int IntKind.i64 0)).setCell ⟨w.heap.size, 2, none⟩ (Value.int IntKind.i64 0)).setCell ⟨w.heap.size, 3, none⟩ (Value.int IntKind.i64 0)).setCell ⟨w.heap.size, 4, none⟩ (Value.slice none 0 0)).drew w.heap.size 0 0 0 0 (.slice none 0 0) ∧ Below w.heap.size w (((((w2.setCell ⟨w.heap.size, 0, none⟩ (Value.int IntKind.i64 0)).setCell ⟨w.heap.size, 1, none⟩ (Value.int IntKind.i64 0)).setCell ⟨w.heap.size, 2, none⟩ (Value.int IntKind.i64 0)).setCell ⟨w.heap.size, 3, none⟩ (Value.int IntKind.i64 0)).setCell ⟨w.heap.size, 4, none⟩ (Value.slice none 0 0)).drew from ⟨MBox.store (w := w2) hmr _ _ _ _ _, (below_five hb02 (Nat.le_refl _)).drew⟩)
      clear hmr hmb1 hi1 hX2 hb12 hb02 hb01 hb2 hr2 hP hmay
      go_wp2_with fail
      first
        | go_region
        | fail
      go_wp2
      generalize hXX : (((((w2.setCell ⟨w.heap.size, 0, none⟩ (Value.int IntKind.i64 0)).setCell ⟨w.heap.size, 1, none⟩ (Value.int IntKind.i64 0)).setCell ⟨w.heap.size, 2, none⟩ (Value.int IntKind.i64 0)).setCell ⟨w.heap.size, 3, none⟩ (Value.int IntKind.i64 0)).setCell ⟨w.heap.size, 4, none⟩ (Value.slice none 0 0)).drew = X at *
      obtain ⟨d0, d1, d2, d3, d4, _⟩ := HS.out.1.cells
      go_wp2
      refine bodyPost_ret (v := .tuple #[.agg #[.int .i64 0, .int .i64 0, .int .i64 0, .int .i64 0, .slice none 0 0], .int .i64 4]) (by
        simp [results, Tryz.results94, go_sem, d0, d1, d2, d3, d4]) rfl ?_
      rw [HPS.out]
      exact ⟨none, 0, 0, rfl, Nat.le_refl _, RI.nil_, HS.out.2⟩
  · have hps : parseM data = (MV.zero, 4) := by
      unfold parseM
      rw [if_neg (fun h => h240 (by rw [← hlen]; exact h.1))]
    have HPS := Lib.hid hps
    have k1 : ((n : Int) != 240) = true := by simp; omega
    have HX := Lib.hid hX
    obtain ⟨z0, z1, z2, z3, z4, _⟩ := HB0.out.cells
    clear hps h240 hX hr hby hlen
    go_enter Tryz.func94, Tryz.ntmps94
    go_wp2
    refine bodyPost_ret (v := .tuple #[.agg #[.int .i64 0, .int .i64 0, .int .i64 0, .int .i64 0, .slice none 0 0], .int .i64 4]) (by
      simp [results, Tryz.results94, go_sem, z0, z1, z2, z3, z4]) rfl ?_
    rw [HPS.out]
    exact ⟨none, 0, 0, rfl, Nat.le_refl _, RI.nil_, HX.out⟩

end Go.Proofs.YtinhdimalhfgkaaGreatDoor
