/-
  append of bytes, and of noughts, behind a row of bytes of the call's own, as equations; the plain bucket's Put by contract. Condition: pairs of few bytes; numbers are ints.
-/
import Derived.Test.YthpgcdfbngngjaaBkK
import Derived.Lib.AppendZerosOnto
import Derived.Maps.AppendAt
namespace Go.Proofs.Ythpgcdfbngngjaa
open Go.RowKit
set_option maxRecDepth 100000
set_option linter.unusedVariables false

theorem bkZero_cells (k : Nat) : (Builtin.zeroCells (Value.int .u8 0).cells k).toList = (List.replicate k (0 : Int)).map (Value.int .u8) := by
  rw [List.map_replicate]
  show ((Array.range (k * 1)).map fun i => #[Value.int .u8 0][i % 1]!).toList = _
  rw [Nat.mul_one, Array.toList_map, Array.toList_range]
  apply List.ext_getElem
  · simp
  · intro j h1 h2
    rw [List.getElem_map, List.getElem_replicate, Nat.mod_one]
    rfl

/-- append of noughts behind a row of bytes of the call's own. -/
theorem bkAppend_zeros {w : World} {base n k : Nat} {v : Value} {l : List Int} (hown : w.ownsRow base 5 1 v n (l.map (Value.int .u8))) (hn : 0 < n) (hk : 0 < k) (hs : n + k ≤ 1000) (hbase : base ≤ w.heap.size) (ty : TypeId) :
    ∃ v' w', (Builtin.append_ #[22, 3] ty #[v, .int .i64 (k : Int)]).run Try.prog w = .ok v' w' ∧ w'.ownsRow base 5 1 v' (n + k) ((l ++ List.replicate k 0).map (Value.int .u8)) ∧ w.grownBy w' v.ownBlock := by
  obtain ⟨i0, hi, hz0, hz1, hz2⟩ := info_parts info_u8
  have hlen : (l.map (Value.int .u8)).length = n := by simpa using hown.1
  have hzl : ((List.replicate k (0 : Int)).map (Value.int .u8)).length = k := by simp
  rcases hown.2 with ⟨_, h0⟩ | ⟨g, cap, cur, rfl, hbg, hg, hnc, hcm, hcs, htake⟩
  · omega
  · rw [Nat.mul_one] at hcs htake
    by_cases hroom : n + k ≤ cap
    · have hfit : n + 0 + ((Builtin.zeroCells (Value.int .u8 0).cells k).toList.length) ≤ cur.size := by rw [bkZero_cells, hzl]; omega
      have hst := run_storeCells_at Try.prog g n 5 (Builtin.zeroCells (Value.int .u8 0).cells k).toList 0 cur w hg hfit (by rw [bkZero_cells]; exact oneCell_bytes _)
      have hk0 : ¬ k = 0 := by omega
      have hw : IntKind.i64.wrap (k : Int) = k := by rw [IntKind.wrap_i64]; omega
      have hneg : ¬ ((k : Int) < 0) := by omega
      have h48i : ¬ (281474976710656 < (k : Int)) := by omega
      have hrun : (Builtin.append_ #[22, 3] ty #[.slice (some ⟨g, 0, none⟩) n cap, .int .i64 (k : Int)]).run Try.prog w = .ok (.slice (some ⟨g, 0, none⟩) (n + k) cap) (w.setRow g (cur.toList.take (n + 0) ++ (Builtin.zeroCells (Value.int .u8 0).cells k).toList ++ cur.toList.drop (n + 0 + (Builtin.zeroCells (Value.int .u8 0).cells k).toList.length)).toArray) := by
        simp [Builtin.append_, run_underlying Try.underlying22, run_underlying Try.underlying3, sizeOf, typeInfo, zeroValue, hi, hz0, hz1, hz2, asInt, asIntOf, hw, hneg, h48i, hk0, hroom, Addr.add_lit, hst]
      have hs0 : (cur.toList.take n).length = n := by rw [List.length_take, Array.length_toList]; omega
      refine ⟨_, _, hrun, ⟨by simp; have := hlen; simp at this; omega, .inr ⟨g, cap, _, rfl, hbg, setRow_heap w g cur _ 5 _ hg, hroom, hcm, ?_, ?_⟩⟩, ⟨rfl, rfl, rfl, by simp, fun j _ hj => setRow_other w g j _ (fun e => hj (by simp [Value.ownBlock, e]))⟩⟩
      · rw [List.size_toArray, List.length_append, List.length_append, bkZero_cells, hzl, Nat.add_zero, hs0, List.length_drop, Array.length_toList]
        omega
      · rw [bkZero_cells, Nat.add_zero, Nat.mul_one, htake, List.map_append]
        exact List.take_left' (by rw [List.length_append, hlen, hzl])
    · have holds : (Builtin.firstCells i0.size n (.slice (some ⟨g, 0, none⟩) n cap)).run Try.prog w.drew = .ok (l.map (Value.int .u8)).toArray w.drew := by
        have h1 := run_loadCells_list (P := Try.prog) w.drew ⟨g, 0, none⟩ (l.map (Value.int .u8)) (fun j u hj => (World.ownsRow.cells (g := g) hown rfl) j u hj)
        rw [hlen] at h1
        simp only [Builtin.firstCells, hz1, Nat.mul_one]
        exact h1
      have hrun := Lib.run_append_grow_zeros (P := Try.prog) w 22 3 ty 5 i0 (.int .u8 0) .i64 .i64 Try.underlying22 Try.underlying3 hi hz0 (some ⟨g, 0, none⟩) n cap (l.map (Value.int .u8)) holds k hk (by rw [hz1]; decide) (by omega) (by omega) (by rw [hz2]; omega) (by rw [hz2]; exact growslice_fits (by omega) (by omega))
      have hge := grownCap_ge w (n + k) cap 5
      have hcm2 : grownCap w (n + k) cap 5 ≤ maxLen := grownCap_le_maxLen w (n + k) cap 5 (by unfold maxLen; omega)
      refine ⟨_, _, hrun, ⟨by simp; have := hlen; simp at this; omega, .inr ⟨w.heap.size, _, _, rfl, hbase, heap_alloc_new w.drew _, hge, hcm2, ?_, ?_⟩⟩, ⟨rfl, rfl, rfl, by simp, fun j hj _ => heap_alloc_old w.drew _ hj⟩⟩
      · simp only [Array.size_append, List.size_toArray, size_zeroCells, hlen]
        show n + k * 1 + (grownCap w (n + k) cap 5 - (n + k)) * 1 = grownCap w (n + k) cap 5 * 1
        omega
      · simp only [Array.toList_append, List.append_assoc, bkZero_cells, Nat.mul_one, List.map_append]
        rw [← List.append_assoc]
        exact List.take_left' (by rw [List.length_append, hlen, hzl])
/-- append of no noughts. -/
theorem bkAppend_zero0 {w : World} {base n : Nat} {v : Value} {l : List Int} (hown : w.ownsRow base 5 1 v n (l.map (Value.int .u8))) (hn : 0 < n) (ty : TypeId) :
    (Builtin.append_ #[22, 3] ty #[v, .int .i64 0]).run Try.prog w = .ok v w := by
  obtain ⟨i0, hi, hz0, hz1, hz2⟩ := info_parts info_u8
  rcases hown.2 with ⟨_, h0⟩ | ⟨g, cap, cur, rfl, hbg, hg, hnc, hcm, hcs, htake⟩
  · omega
  · have hw : IntKind.i64.wrap 0 = 0 := by rw [IntKind.wrap_i64]; rfl
    simp [Builtin.append_, run_underlying Try.underlying22, run_underlying Try.underlying3, sizeOf, typeInfo, zeroValue, hi, hz0, hz2, asInt, asIntOf, hw, hnc, storeCells]

/-- append of bytes, as an equation. -/
theorem bkAppend_run {w : World} {base n B m c : Nat} {v : Value} {A : Option Addr} {xs l : List Int} (hown : w.ownsRow base 5 1 v n (xs.map (Value.int .u8))) (hr : RB w B A m l) (h63 : n + m ≤ 140737488355328) (hbase : base ≤ w.heap.size) (ty : TypeId) :
    ∃ v' w', (Builtin.append_ #[22, 22] ty #[v, .slice A m c]).run Try.prog w = .ok v' w' ∧ w'.ownsRow base 5 1 v' (n + m) ((xs ++ l).map (Value.int .u8)) ∧ w.grownBy w' v.ownBlock ∧ (v'.ownBlock = v.ownBlock ∨ v'.ownBlock = some w.heap.size) ∧ Below base w w' := by
  obtain ⟨i0, hi, hz0, hz1, hz2⟩ := info_parts info_u8
  rcases A with _ | ad
  · have hm : m = 0 := by
      rcases Nat.eq_zero_or_pos m with h0 | h0
      · exact h0
      · obtain ⟨b, off, e, _⟩ := hr.at_ h0; cases e
    subst hm
    have hl : l = [] := List.eq_nil_of_length_eq_zero hr.len
    subst hl
    exact ⟨v, w, run_append_none (P := Try.prog) (w := w) base 22 ty 5 i0 1 Try.underlying22 hi v n _ hown c, by simpa using hown, World.grownBy.refl w _, .inl rfl, Below.refl _ _⟩
  · obtain ⟨v', w', hrun, h1, h2, _, h3⟩ := run_append_own_at (P := Try.prog) w base 22 ty 5 i0 (.int .u8 0) 1 1 Try.underlying22 hi hz0 hz1 hz2 rfl (by decide) v n _ hown ad m c (l.map (Value.int .u8)) (by simp [hr.len]) (fun j u hj => by
      obtain ⟨ad', e, hc⟩ := hr.src j u hj
      cases e
      exact hc) (oneCell_bytes l) (by unfold maxLen; omega) (by omega) hbase
    exact ⟨v', w', hrun, by simpa using h1, h2, h3, (Below.refl base w).grown h2 hbase (own_ge hown)⟩

/-- append, its run known, as a step of a region that draws. -/
theorem step_append_run {P : Program} {ops : Array Oper} {o : Oper} {a : Act} {w : World} {K : Act → World → Prop} {Q : Exit → Act → World → Prop} {E : Prop} (hgd : o.guard = none) (s x : Operand) (t tn : TypeId)
    (ho : o.op = .call { callee := .builtin .append, args := #[s, x], argTypes := #[t, tn] }) (v u : Value) (hs : a.eval s = v) (hx : a.eval x = u) {v' : Value} {w' : World}
    (hrun : (Builtin.append_ #[t, tn] o.type #[v, u]).run P w = .ok v' w') (h : K (a.put o.dst v') w') :
    if Region.wanted o (yielded ops a.tmps) = true then Oper.wp P o a w K Q else E := by
  have hw : Region.wanted o (yielded ops a.tmps) = true := by simp [Region.wanted, hgd]
  rw [if_pos hw]
  exact Lib.wp_append_run w s x t tn ho v u hs hx _ _ hrun h

theorem pageBk_eq {b : BV} (hm : mayBk b = true) : [(66 : Int), b.d] ++ putB b.x 4 ++ putB (b.ps.length : Int) 2 = bkHeadL b := by
  obtain ⟨_, h2, _⟩ := mayBk_few hm
  unfold bkHeadL
  rw [putB_one (by omega)]
  simp

/-- A round of the plain Put: the pair's variable, its lengths in new memory, and three appends. -/
theorem bkRef_round {w0 wr : World} {B N n c kn kc vn vc : Nat} {v : Value} {ka va A : Option Addr} {d x : Int} {F K V : List Int}
    (hown : wr.ownsRow (w0.heap.size + 1) 5 1 v N (F.map (Value.int .u8))) (hN : N + (2 + kn + vn) ≤ 240) (hbx : BkBox wr w0.heap.size d x A n c) (hb : Below w0.heap.size w0 wr) (hB : B ≤ w0.heap.size)
    (h2 : RB wr B ka kn K) (h4 : RB wr B va vn V) (hk : kn < 256) (hv : vn < 256) (ty1 ty2 ty3 : TypeId) :
    ∃ v9 w9 v10 w10 v11 w11, (Builtin.append_ #[22, 22] ty1 #[v, .slice (some ⟨wr.heap.size + 1, 0, none⟩) 2 2]).run Try.prog ((wr.alloc (.cells #[.slice ka kn kc, .slice va vn vc] 48 (0, 0))).alloc (.cells #[.int .u8 (kn : Int), .int .u8 (vn : Int)] 5 (0, 0))) = .ok v9 w9 ∧
      (Builtin.append_ #[22, 22] ty2 #[v9, .slice ka kn kc]).run Try.prog w9.drew = .ok v10 w10 ∧
      (Builtin.append_ #[22, 22] ty3 #[v10, .slice va vn vc]).run Try.prog w10 = .ok v11 w11 ∧
      PBox w9 wr.heap.size (.slice ka kn kc) (.slice va vn vc) ∧ PBox w10 wr.heap.size (.slice ka kn kc) (.slice va vn vc) ∧ PBox w11 wr.heap.size (.slice ka kn kc) (.slice va vn vc) ∧
      w11.ownsRow (w0.heap.size + 1) 5 1 v11 (N + (2 + kn + vn)) ((F ++ pairL (K, V)).map (Value.int .u8)) ∧ BkBox w11 w0.heap.size d x A n c ∧ Below w0.heap.size w0 w11 := by
  have hX1 : Below wr.heap.size wr (wr.alloc (.cells #[.slice ka kn kc, .slice va vn vc] 48 (0, 0))) := (Below.refl _ _).alloc (Nat.le_refl _) _
  have hX2 : Below wr.heap.size wr ((wr.alloc (.cells #[.slice ka kn kc, .slice va vn vc] 48 (0, 0))).alloc (.cells #[.int .u8 (kn : Int), .int .u8 (vn : Int)] 5 (0, 0))) := hX1.alloc hX1.size _
  have hsX1 : (wr.alloc (.cells #[.slice ka kn kc, .slice va vn vc] 48 (0, 0))).heap.size = wr.heap.size + 1 := by simp
  have hsX2 : ((wr.alloc (.cells #[.slice ka kn kc, .slice va vn vc] 48 (0, 0))).alloc (.cells #[.int .u8 (kn : Int), .int .u8 (vn : Int)] 5 (0, 0))).heap.size = wr.heap.size + 2 := by simp
  have hlit := RB.lit (wr.alloc (.cells #[.slice ka kn kc, .slice va vn vc] 48 (0, 0))) 5 [(kn : Int), (vn : Int)] #[.int .u8 (kn : Int), .int .u8 (vn : Int)] rfl (fun z hz => by
    simp at hz
    rcases hz with rfl | rfl
    · omega
    · omega)
  rw [hsX1] at hlit
  have hpb := (PBox.new wr (.slice ka kn kc) (.slice va vn vc)).below ((Below.refl _ _).alloc (Nat.le_refl _) (.cells #[.int .u8 (kn : Int), .int .u8 (vn : Int)] 5 (0, 0)))
  have hbl := hbx.cells.2.2.2
  have hs0 := hb.size
  generalize ((wr.alloc (.cells #[.slice ka kn kc, .slice va vn vc] 48 (0, 0))).alloc (.cells #[.int .u8 (kn : Int), .int .u8 (vn : Int)] 5 (0, 0))) = X at *
  have hownX := own_later hown hX2
  obtain ⟨v9, w9, r9, o9, g9, e9, b9⟩ := bkAppend_run (c := 2) hownX hlit (by show N + 2 ≤ _; omega) (by omega) ty1
  have q9 : v9.ownBlock ≠ some wr.heap.size := by
    intro h
    rcases e9 with e | e
    · have := (bkOwnAt hown wr.heap.size (e.symm.trans h)).2; omega
    · rw [h] at e; injection e with e; omega
  have p9 : PBox w9 wr.heap.size (.slice ka kn kc) (.slice va vn vc) := (g9.block _ hpb.lt (fun e => by have := (bkOwnAt hown wr.heap.size e.symm).2; omega)).trans hpb
  have bw9 : Below B wr w9 := (hX2.mono (by omega)).trans (b9.mono (by omega))
  have s9 := g9.size
  have o9d : w9.drew.ownsRow (w0.heap.size + 1) 5 1 v9 (N + 2) ((F ++ [(kn : Int), (vn : Int)]).map (Value.int .u8)) := o9
  have sd : w9.drew.heap.size = w9.heap.size := rfl
  obtain ⟨v10, w10, r10, o10, g10, e10, b10⟩ := bkAppend_run (c := kc) o9d (h2.below bw9).drew (by omega) (by omega) ty2
  have q10 : v10.ownBlock ≠ some wr.heap.size := by
    intro h
    rcases e10 with e | e
    · exact q9 (e.symm.trans h)
    · rw [h] at e; injection e with e; omega
  have p10 : PBox w10 wr.heap.size (.slice ka kn kc) (.slice va vn vc) := (g10.block _ (by rw [sd]; exact p9.lt) (fun e => q9 e.symm)).trans p9.drew
  have s10 := g10.size
  have bw10 : Below B wr w10 := bw9.drew.trans (b10.mono (by omega))
  obtain ⟨v11, w11, r11, o11, g11, e11, b11⟩ := bkAppend_run (c := vc) o10 (h4.below bw10) (by omega) (by omega) ty3
  have p11 : PBox w11 wr.heap.size (.slice ka kn kc) (.slice va vn vc) := (g11.block _ p10.lt (fun e => q10 e.symm)).trans p10
  have bX : Below (w0.heap.size + 1) wr w11 := (((hX2.mono (by omega)).trans b9).drew.trans b10).trans b11
  refine ⟨v9, w9, v10, w10, v11, w11, r9, r10, r11, p9, p10, p11, ?_, (bX.block _ (Nat.lt_succ_self _)).trans hbx, hb.trans (bX.mono (by omega))⟩
  have e1 : N + 2 + kn + vn = N + (2 + kn + vn) := by omega
  have e2 : F ++ [(kn : Int), (vn : Int)] ++ K ++ V = F ++ pairL (K, V) := by
    unfold pairL
    rw [h2.len, h4.len]
    simp
  rw [e1, e2] at o11
  exact o11
end Go.Proofs.Ythpgcdfbngngjaa
