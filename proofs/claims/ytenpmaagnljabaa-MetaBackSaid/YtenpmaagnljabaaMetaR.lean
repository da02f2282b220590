/-
  Contracts of the plain meta's may, Put, Same. Condition: lengths and numbers are ints.
-/
import Derived.Test.YtenpmaagnljabaaMetaF
import Derived.Lib.AppendZerosOnto
namespace Go.Proofs.Ytenpmaagnljabaa
open Go.RowKit
set_option maxRecDepth 100000
set_option linter.unusedVariables false

theorem own_at {w : World} {base e size m : Nat} {v : Value} {xs : List Value} (h : w.ownsRow base e size v m xs) : ∀ g, v.ownBlock = some g → base ≤ g ∧ g < w.heap.size := by
  intro g hg
  rcases h.2 with ⟨rfl, _⟩ | ⟨g', cap, cur, rfl, hb, hh, _⟩
  · simp [Value.ownBlock] at hg
  · simp [Value.ownBlock] at hg
    subst hg
    exact ⟨hb, (Array.getElem?_eq_some_iff.1 hh).1⟩
theorem own_stays {w w' : World} {base e size m : Nat} {v : Value} {xs : List Value} (h : w.ownsRow base e size v m xs) (hk : ∀ g, v.ownBlock = some g → w'.heap[g]? = w.heap[g]?) : w'.ownsRow base e size v m xs := by
  rcases h.2 with h' | ⟨g, cap, cur, rfl, hg, hb, h3⟩
  · exact ⟨h.1, .inl h'⟩
  · exact ⟨h.1, .inr ⟨g, cap, cur, rfl, hg, (hk g (by simp [Value.ownBlock])).trans hb, h3⟩⟩

theorem zero_cells (k : Nat) : (Builtin.zeroCells (Value.int .u8 0).cells k).toList = (List.replicate k (0 : Int)).map (Value.int .u8) := by
  rw [List.map_replicate]
  show ((Array.range (k * 1)).map fun i => #[Value.int .u8 0][i % 1]!).toList = _
  rw [Nat.mul_one, Array.toList_map, Array.toList_range]
  apply List.ext_getElem
  · simp
  · intro j h1 h2
    rw [List.getElem_map, List.getElem_replicate, Nat.mod_one]
    rfl

/-- append of noughts behind a row of bytes of the call's own. -/
theorem append_zeros {w : World} {base n k : Nat} {v : Value} {l : List Int} (hown : w.ownsRow base 5 1 v n (l.map (Value.int .u8))) (hn : 0 < n) (hk : 0 < k) (hs : n + k ≤ 1000) (hbase : base ≤ w.heap.size) (ty : TypeId) :
    ∃ v' w', (Builtin.append_ #[26, 3] ty #[v, .int .i64 (k : Int)]).run Try.prog w = .ok v' w' ∧ w'.ownsRow base 5 1 v' (n + k) ((l ++ List.replicate k 0).map (Value.int .u8)) ∧ w.grownBy w' v.ownBlock := by
  obtain ⟨i0, hi, hz0, hz1, hz2⟩ := info_parts info_u8
  have hlen : (l.map (Value.int .u8)).length = n := by simpa using hown.1
  have hzl : ((List.replicate k (0 : Int)).map (Value.int .u8)).length = k := by simp
  rcases hown.2 with ⟨_, h0⟩ | ⟨g, cap, cur, rfl, hbg, hg, hnc, hcm, hcs, htake⟩
  · omega
  · rw [Nat.mul_one] at hcs htake
    by_cases hroom : n + k ≤ cap
    · have hfit : n + 0 + ((Builtin.zeroCells (Value.int .u8 0).cells k).toList.length) ≤ cur.size := by rw [zero_cells, hzl]; omega
      have hst := run_storeCells_at Try.prog g n 5 (Builtin.zeroCells (Value.int .u8 0).cells k).toList 0 cur w hg hfit (by rw [zero_cells]; exact oneCell_bytes _)
      have hk0 : ¬ k = 0 := by omega
      have hw : IntKind.i64.wrap (k : Int) = k := by rw [IntKind.wrap_i64]; omega
      have hneg : ¬ ((k : Int) < 0) := by omega
      have h48i : ¬ (281474976710656 < (k : Int)) := by omega
      have hrun : (Builtin.append_ #[26, 3] ty #[.slice (some ⟨g, 0, none⟩) n cap, .int .i64 (k : Int)]).run Try.prog w = .ok (.slice (some ⟨g, 0, none⟩) (n + k) cap) (w.setRow g (cur.toList.take (n + 0) ++ (Builtin.zeroCells (Value.int .u8 0).cells k).toList ++ cur.toList.drop (n + 0 + (Builtin.zeroCells (Value.int .u8 0).cells k).toList.length)).toArray) := by
        simp [Builtin.append_, run_underlying Try.underlying26, run_underlying Try.underlying3, sizeOf, typeInfo, zeroValue, hi, hz0, hz1, hz2, asInt, asIntOf, hw, hneg, h48i, hk0, hroom, Addr.add_lit, hst]
      have hs0 : (cur.toList.take n).length = n := by rw [List.length_take, Array.length_toList]; omega
      refine ⟨_, _, hrun, ⟨by simp; have := hlen; simp at this; omega, .inr ⟨g, cap, _, rfl, hbg, setRow_heap w g cur _ 5 _ hg, hroom, hcm, ?_, ?_⟩⟩, ⟨rfl, rfl, rfl, by simp, fun j _ hj => setRow_other w g j _ (fun e => hj (by simp [Value.ownBlock, e]))⟩⟩
      · rw [List.size_toArray, List.length_append, List.length_append, zero_cells, hzl, Nat.add_zero, hs0, List.length_drop, Array.length_toList]
        omega
      · rw [zero_cells, Nat.add_zero, Nat.mul_one, htake, List.map_append]
        exact List.take_left' (by rw [List.length_append, hlen, hzl])
    · have holds : (Builtin.firstCells i0.size n (.slice (some ⟨g, 0, none⟩) n cap)).run Try.prog w.drew = .ok (l.map (Value.int .u8)).toArray w.drew := by
        have h1 := run_loadCells_list (P := Try.prog) w.drew ⟨g, 0, none⟩ (l.map (Value.int .u8)) (fun j u hj => (World.ownsRow.cells (g := g) hown rfl) j u hj)
        rw [hlen] at h1
        simp only [Builtin.firstCells, hz1, Nat.mul_one]
        exact h1
      have hrun := Lib.run_append_grow_zeros (P := Try.prog) w 26 3 ty 5 i0 (.int .u8 0) .i64 .i64 Try.underlying26 Try.underlying3 hi hz0 (some ⟨g, 0, none⟩) n cap (l.map (Value.int .u8)) holds k hk (by rw [hz1]; decide) (by omega) (by omega) (by rw [hz2]; omega) (by rw [hz2]; exact growslice_fits (by omega) (by omega))
      have hge := grownCap_ge w (n + k) cap 5
      have hcm2 : grownCap w (n + k) cap 5 ≤ maxLen := grownCap_le_maxLen w (n + k) cap 5 (by unfold maxLen; omega)
      refine ⟨_, _, hrun, ⟨by simp; have := hlen; simp at this; omega, .inr ⟨w.heap.size, _, _, rfl, hbase, heap_alloc_new w.drew _, hge, hcm2, ?_, ?_⟩⟩, ⟨rfl, rfl, rfl, by simp, fun j hj _ => heap_alloc_old w.drew _ hj⟩⟩
      · simp only [Array.size_append, List.size_toArray, size_zeroCells, hlen]
        show n + k * 1 + (grownCap w (n + k) cap 5 - (n + k)) * 1 = grownCap w (n + k) cap 5 * 1
        omega
      · simp only [Array.toList_append, List.append_assoc, zero_cells, Nat.mul_one, List.map_append]
        rw [← List.append_assoc]
        exact List.take_left' (by rw [List.length_append, hlen, hzl])

set_option maxHeartbeats 3200000 in
theorem refMay_any {w : World} {A : Option Addr} {k cap : Nat} (d f n c : Int) {l : List Int} (hr : RI w w.heap.size A k l) (hm : k ≤ maxLen) :
    Calls Try.prog 16 #[.agg #[.int .i64 d, .int .i64 f, .int .i64 n, .int .i64 c, .slice A k cap]] w fun e w' => e = .returned (.bool (mayB ⟨d, f, n, c, l⟩)) ∧ Below w.heap.size w w' := by
  unfold maxLen at hm
  have hlen := hr.len
  have hX : Below w.heap.size w (w.alloc (.cells #[.int .i64 d, .int .i64 f, .int .i64 n, .int .i64 c, .slice A k cap] 24)) := (Below.refl _ _).alloc (Nat.le_refl _) _
  have hmay : mayB ⟨d, f, n, c, l⟩ = (!decide (d < 0) && !decide (10 < d) && rightB f 4 && rightB n 4 && rightB c 4 && !decide ((k : Int) < 1) && !decide (20 < (k : Int)) && fitB l) := by
    unfold mayB
    show (decide (0 ≤ d) && decide (d ≤ 10) && decide (1 ≤ l.length) && decide (l.length ≤ 20) && fitB [f, n, c] && fitB l) = _
    rw [hlen]
    have e1 : fitB [f, n, c] = (rightB f 4 && (rightB n 4 && (rightB c 4 && true))) := rfl
    rw [e1]
    by_cases a : d < 0 <;> by_cases b : 10 < d <;> by_cases g : (k : Int) < 1 <;> by_cases h : 20 < (k : Int) <;> cases rightB f 4 <;> cases rightB n 4 <;> cases rightB c 4 <;> cases fitB l <;> simp [a, b, g, h] <;> omega
  rw [hmay]
  obtain ⟨c0, c1, c2, c3, c4, hbl⟩ := (MBox.new w d f n c (.slice A k cap)).cells
  have hrX := hr.below hX
  have HX := Lib.hid hX
  clear hmay hr hX
  generalize g1 : decide (d < 0) = b1
  generalize g2 : decide (10 < d) = b2
  generalize hx3 : rightB f 4 = b3
  generalize hx4 : rightB n 4 = b4
  generalize hx5 : rightB c 4 = b5
  generalize g6 : decide ((k : Int) < 1) = b6
  generalize g7 : decide (20 < (k : Int)) = b7
  have H3 := Lib.hid (fun w1 => hx3 ▸ refIn_any f w1)
  have H4 := Lib.hid (fun w1 => hx4 ▸ refIn_any n w1)
  have H5 := Lib.hid (fun w1 => hx5 ▸ refIn_any c w1)
  clear hx3 hx4 hx5
  rcases b1 with _ | _
  rotate_left
  · go_enter Try.func16, Try.ntmps16
    go_wp2
    go_ret
    exact ⟨rfl, HX.out⟩
  rcases b2 with _ | _
  rotate_left
  · go_enter Try.func16, Try.ntmps16
    go_wp2
    go_ret
    exact ⟨rfl, HX.out⟩
  rcases b3 with _ | _
  · go_enter Try.func16, Try.ntmps16
    go_wp2_with fail
    refine (H3.out _).mono ?_
    rintro e w' ⟨rfl, rfl⟩
    go_wp2
    go_ret
    exact ⟨rfl, HX.out⟩
  rcases b4 with _ | _
  · go_enter Try.func16, Try.ntmps16
    go_wp2_with fail
    refine (H3.out _).mono ?_
    rintro e w' ⟨rfl, rfl⟩
    go_wp2_with fail
    refine (H4.out _).mono ?_
    rintro e w' ⟨rfl, rfl⟩
    go_wp2
    go_ret
    exact ⟨rfl, HX.out⟩
  rcases b5 with _ | _
  · go_enter Try.func16, Try.ntmps16
    go_wp2_with fail
    refine (H3.out _).mono ?_
    rintro e w' ⟨rfl, rfl⟩
    go_wp2_with fail
    refine (H4.out _).mono ?_
    rintro e w' ⟨rfl, rfl⟩
    go_wp2_with fail
    refine (H5.out _).mono ?_
    rintro e w' ⟨rfl, rfl⟩
    go_wp2
    go_ret
    exact ⟨rfl, HX.out⟩
  rcases b6 with _ | _
  rotate_left
  · go_enter Try.func16, Try.ntmps16
    go_wp2_with fail
    refine (H3.out _).mono ?_
    rintro e w' ⟨rfl, rfl⟩
    go_wp2_with fail
    refine (H4.out _).mono ?_
    rintro e w' ⟨rfl, rfl⟩
    go_wp2_with fail
    refine (H5.out _).mono ?_
    rintro e w' ⟨rfl, rfl⟩
    go_wp2
    go_ret
    exact ⟨rfl, HX.out⟩
  rcases b7 with _ | _
  rotate_left
  · go_enter Try.func16, Try.ntmps16
    go_wp2_with fail
    refine (H3.out _).mono ?_
    rintro e w' ⟨rfl, rfl⟩
    go_wp2_with fail
    refine (H4.out _).mono ?_
    rintro e w' ⟨rfl, rfl⟩
    go_wp2_with fail
    refine (H5.out _).mono ?_
    rintro e w' ⟨rfl, rfl⟩
    go_wp2
    go_ret
    exact ⟨rfl, HX.out⟩
  go_enter Try.func16, Try.ntmps16
  go_wp2_with fail
  refine (H3.out _).mono ?_
  rintro e w' ⟨rfl, rfl⟩
  go_wp2_with fail
  refine (H4.out _).mono ?_
  rintro e w' ⟨rfl, rfl⟩
  go_wp2_with fail
  refine (H5.out _).mono ?_
  rintro e w' ⟨rfl, rfl⟩
  go_wp2_with fail
  go_loop [3] (fun i => ∃ j : Nat, j ≤ k ∧ i = .int .i64 j ∧ Hid (fitB (l.take j) = true)) (fun i => k - (intOf i).toNat)
  case atStart => exact ⟨0, Nat.zero_le _, rfl, Lib.hid rfl⟩
  case round =>
    obtain ⟨j, hj, rfl, hbef⟩ := hrel
    by_cases hlt : j < k
    · obtain ⟨bb, off, rfl, hb, hcell⟩ := hrX.2.2 (by omega)
      have hck := hcell j hlt
      have hlt' : (j : Int) < (k : Int) := by omega
      cases hv : rightB (l[j]?.getD 0) 4
      · have HV := Lib.hid (fun w1 => hv ▸ refIn_any (l[j]?.getD 0) w1)
        have HF := Lib.hid (fitB_not (by omega) hv)
        clear hv hcell
        generalize l[j]?.getD 0 = u at hck HV
        go_wp2_with fail
        refine (HV.out _).mono ?_
        rintro e w' ⟨rfl, rfl⟩
        go_wp2
        go_ret
        rw [HF.out]
        exact ⟨rfl, HX.out⟩
      · have HV := Lib.hid (fun w1 => hv ▸ refIn_any (l[j]?.getD 0) w1)
        have HF := Lib.hid (fitB_take hbef.out (by omega) hv)
        clear hv hcell
        generalize l[j]?.getD 0 = u at hck HV
        go_wp2_with fail
        refine (HV.out _).mono ?_
        rintro e w' ⟨rfl, rfl⟩
        go_wp2
        go_round
        case rel => exact ⟨j + 1, by omega, by go_num, HF⟩
        case measure => simp [intOf]; omega
    · obtain rfl : j = k := by omega
      have HF := Lib.hid (show fitB l = true by
        have := hbef.out
        rwa [List.take_of_length_le (by omega)] at this)
      go_wp2
      go_ret
      rw [HF.out]
      exact ⟨rfl, HX.out⟩

end Go.Proofs.Ytenpmaagnljabaa
