/-
  The texts ExtJ joined. Conditions: those that each part says at its head.
-/
import Derived.Test.YtinhdimalhfgkaaGreatDoorG22
import Derived.Lib.SliceRun
import Derived.ArgAppend

/-
  The library's Clone and Delete over pairs, by contract, for a row of a call's own; some cells of a block stored at once. Condition: fewer than 2^32 pairs.
-/
namespace Go.Proofs.YtinhdimalhfgkaaGreatDoor
open Go.RowKit
set_option maxRecDepth 100000
set_option linter.unusedVariables false

/-! ### some cells of a block -/
def putAt (cs : Array Value) (o : Nat) : List Value → Array Value | [] => cs | v :: vs => putAt (cs.setIfInBounds o v) (o + 1) vs
theorem putAt_size : ∀ (vs : List Value) (cs : Array Value) (o : Nat), (putAt cs o vs).size = cs.size
  | [], _, _ => rfl
  | v :: vs, cs, o => by rw [putAt, putAt_size]; simp
theorem putAt_get : ∀ (vs : List Value) (cs : Array Value) (o k : Nat), o + vs.length ≤ cs.size → (putAt cs o vs)[k]? = if o ≤ k ∧ k < o + vs.length then vs[k - o]? else cs[k]?
  | [], cs, o, k, _ => by rw [putAt, if_neg (by rw [List.length_nil]; omega)]
  | v :: vs, cs, o, k, h => by
    rw [List.length_cons] at h
    rw [putAt, putAt_get vs _ (o + 1) k (by simp; omega)]
    by_cases h1 : o + 1 ≤ k ∧ k < o + 1 + vs.length
    · rw [if_pos h1, if_pos (by rw [List.length_cons]; omega), show k - o = (k - (o + 1)) + 1 by omega, List.getElem?_cons_succ]
    · rw [if_neg h1]
      by_cases h2 : k = o
      · subst h2
        rw [if_pos (by rw [List.length_cons]; omega), Nat.sub_self, List.getElem?_cons_zero, Array.getElem?_setIfInBounds_self_of_lt (by omega)]
      · rw [if_neg (by rw [List.length_cons]; omega), Array.getElem?_setIfInBounds_ne (Ne.symm h2)]
theorem blk_setCells {b : Nat} {T : TypeId} : ∀ (vs : List Value) (o : Nat) (w : World) (cs : Array Value), w.heap[b]? = some (.cells cs T (0, 0)) → (w.setCells b o vs).heap[b]? = some (.cells (putAt cs o vs) T (0, 0)) ∧ (w.setCells b o vs).heap.size = w.heap.size ∧ ∀ k, k ≠ b → (w.setCells b o vs).heap[k]? = w.heap[k]?
  | [], o, w, cs, h => ⟨h, rfl, fun _ _ => rfl⟩
  | v :: vs, o, w, cs, h => by
    have h1 := heap_setCell_same w b o cs T v h
    obtain ⟨q1, q2, q3⟩ := blk_setCells vs (o + 1) _ _ h1
    exact ⟨q1, q2.trans (by simp [World.setCell]), fun k hk => (q3 k hk).trans (Below.heap_setCell w ⟨b, o, none⟩ v k (fun e => hk e))⟩

theorem below_cells {B b : Nat} (hb : B ≤ b) : ∀ (vs : List Value) (o : Nat) {a w : World}, Below B a w → Below B a (w.setCells b o vs)
  | [], _, _, _, h => h
  | v :: vs, o, _, _, h => below_cells hb vs (o + 1) (h.setCell (p := ⟨b, o, none⟩) hb v)

/-! ### a row of pairs of a call's own -/
/-- The cells of pairs. -/
def PCells (w : World) (G : Nat → Prop) (vs : List Value) (ps : List KV) : Prop := vs.length = ps.length * 2 ∧ ∀ (j : Nat) (y : KV), ps[j]? = some y → ∃ (ka : Option Addr) (kn kc : Nat) (va : Option Addr) (vn vc : Nat), vs[j * 2]? = some (.slice ka kn kc) ∧ vs[j * 2 + 1]? = some (.slice va vn vc) ∧ BIn w G ka kn y.1 ∧ (kn ≤ kc ∧ kn ≤ maxLen) ∧ BIn w G va vn y.2 ∧ (vn ≤ vc ∧ vn ≤ maxLen)
theorem PCells.below {w w' : World} {G : Nat → Prop} {vs : List Value} {ps : List KV} (h : PCells w G vs ps) (hb : Below w.heap.size w w') : PCells w' G vs ps := by
  refine ⟨h.1, fun j y hy => ?_⟩
  obtain ⟨ka, kn, kc, va, vn, vc, c0, c1, r1, b1, r2, b2⟩ := h.2 j y hy
  exact ⟨ka, kn, kc, va, vn, vc, c0, c1, r1.below hb, b1, r2.below hb, b2⟩
theorem PCells.grow {w w' : World} {G G' : Nat → Prop} {vs : List Value} {ps : List KV} (h : PCells w G vs ps) (hs : w.heap.size ≤ w'.heap.size) (hk : ∀ k, k < w.heap.size → ¬ G k → w'.heap[k]? = w.heap[k]?) (hG : ∀ k, k < w.heap.size → ¬ G k → ¬ G' k) : PCells w' G' vs ps := by
  refine ⟨h.1, fun j y hy => ?_⟩
  obtain ⟨ka, kn, kc, va, vn, vc, c0, c1, r1, b1, r2, b2⟩ := h.2 j y hy
  exact ⟨ka, kn, kc, va, vn, vc, c0, c1, r1.grow hs hk hG, b1, r2.grow hs hk hG, b2⟩
theorem PCells.one {w : World} {G : Nat → Prop} {vs : List Value} {ps : List KV} (h : PCells w G vs ps) : ∀ u ∈ vs, u.oneCell' = true := fun u hu => by
  obtain ⟨k, hk, rfl⟩ := List.getElem_of_mem hu
  obtain ⟨y, hy⟩ : ∃ y, ps[k / 2]? = some y := ⟨_, List.getElem?_eq_getElem (by have := h.1; omega)⟩
  obtain ⟨ka, kn, kc, va, vn, vc, c0, c1, _⟩ := h.2 _ y hy
  rcases Nat.mod_two_eq_zero_or_one k with e | e
  · rw [show k / 2 * 2 = k by omega, List.getElem?_eq_getElem hk] at c0
    injection c0 with c0
    rw [c0]; rfl
  · rw [show k / 2 * 2 + 1 = k by omega, List.getElem?_eq_getElem hk] at c1
    injection c1 with c1
    rw [c1]; rfl
/-- What lies there. -/
theorem PIn.olds {w : World} {G : Nat → Prop} {A : Option Addr} {n : Nat} {ps : List KV} (h : PIn w G A n ps) (hn : 0 < n) : ∃ vs ad, PCells w G vs ps ∧ A = some ad ∧ ∀ (j : Nat) (u : Value), vs[j]? = some u → w.cell? (ad.add j) = some u := by
  obtain ⟨hl, hp⟩ := h
  obtain ⟨b', off, rfl, hb', hgb, hall⟩ := hp hn
  have hcl : ∀ j, j < n * 2 → ∃ u, w.cell? ⟨b', off + j, none⟩ = some u := fun j hj => by
    obtain ⟨y, hy⟩ : ∃ y, ps[j / 2]? = some y := ⟨_, List.getElem?_eq_getElem (by omega)⟩
    obtain ⟨_, _, _, _, _, _, c0, c1, _⟩ := hall _ y hy
    rcases Nat.mod_two_eq_zero_or_one j with e | e
    · exact ⟨_, by rw [show off + j = off + j / 2 * 2 by omega]; exact c0⟩
    · exact ⟨_, by rw [show off + j = off + j / 2 * 2 + 1 by omega]; exact c1⟩
  have hget : ∀ j, j < n * 2 → ((List.range (n * 2)).map fun j => (w.cell? ⟨b', off + j, none⟩).getD (.bool false))[j]? = w.cell? ⟨b', off + j, none⟩ := fun j hj => by
    obtain ⟨u, hu⟩ := hcl j hj
    rw [List.getElem?_map, List.getElem?_range hj, Option.map_some, hu, Option.getD_some]
  refine ⟨(List.range (n * 2)).map fun j => (w.cell? ⟨b', off + j, none⟩).getD (.bool false), _, ⟨by simp [hl], fun j y hy => ?_⟩, rfl, fun j v hv => ?_⟩
  · obtain ⟨ka, kn, kc, va, vn, vc, c0, c1, r⟩ := hall j y hy
    have hj : j < n := by rw [← hl]; exact (List.getElem?_eq_some_iff.1 hy).1
    exact ⟨ka, kn, kc, va, vn, vc, by rw [hget _ (by omega)]; exact c0, by rw [hget _ (by omega), ← Nat.add_assoc]; exact c1, r⟩
  · have hj : j < n * 2 := by
      have := (List.getElem?_eq_some_iff.1 hv).1
      simpa using this
    rw [hget j hj] at hv
    rw [add_none]
    exact hv
/-- Pairs in a block of a call's own, from its beginning. -/
theorem PCells.pin {w : World} {G : Nat → Prop} {vs : List Value} {ps : List KV} {g : Nat} {cs : Array Value} (h : PCells w G vs ps) (hg : w.heap[g]? = some (.cells cs 95 (0, 0))) (hgG : ¬ G g) (hc : ∀ (k : Nat) (u : Value), vs[k]? = some u → cs[k]? = some u) : PIn w G (some ⟨g, 0, none⟩) ps.length ps := by
  refine ⟨rfl, fun _ => ⟨g, 0, rfl, (Array.getElem?_eq_some_iff.1 hg).1, hgG, fun j y hy => ?_⟩⟩
  obtain ⟨ka, kn, kc, va, vn, vc, c0, c1, r⟩ := h.2 j y hy
  exact ⟨ka, kn, kc, va, vn, vc, by rw [Nat.zero_add, cell_of_row w g _ cs _ (0, 0) hg]; exact hc _ _ c0, by rw [Nat.zero_add, cell_of_row w g _ cs _ (0, 0) hg]; exact hc _ _ c1, r⟩

set_option maxHeartbeats 1600000 in
theorem cloneP_any {w : World} {G : Nat → Prop} {A : Option Addr} {n c : Nat} {ps : List KV} (h : Stays w G A n ps) (hn0 : 0 < n) (hn : n ≤ 4294967296) :
    Calls Tryz.prog 179 #[.slice A n c] w fun e w' => ∃ g c' vs cs, e = .returned (.slice (some ⟨g, 0, none⟩) n c') ∧ n ≤ c' ∧ w.heap.size ≤ g ∧ w'.heap[g]? = some (.cells cs 95 (0, 0)) ∧ PCells w' G vs ps ∧ (∀ (k : Nat) (u : Value), vs[k]? = some u → cs[k]? = some u) ∧ Below w.heap.size w w' := by
  have q22 : ∀ (w : World) (a : Option Addr) (n c n' c' : Nat), (binOp .eql 31 (.slice a n c) (.slice none n' c')).run Tryz.prog w = .ok (.bool a.isNone) w := fun w a n c n' c' => Lib.run_eql_slice_nil w _ _ a n c n' c' Tryz.underlying31
  obtain ⟨i0, hi, hz0, hz1, hz2⟩ := info_parts info_pairX
  obtain ⟨vs, ad, hvs, rfl, hcell⟩ := h.pin.olds hn0
  have hl : ps.length = n := h.now.len
  have hX : Below w.heap.size w (w.alloc (.cells #[] 95)) := (Below.refl _ _).alloc (Nat.le_refl _) _
  have hrun := run_append_grow_src (P := Tryz.prog) (w := w.alloc (.cells #[] 95)) 31 31 31 95 i0 _ Tryz.underlying31 hi hz0 (some ⟨w.heap.size, 0, none⟩) 0 0 [] (run_firstCells_some (P := Tryz.prog) _ i0.size 0 ⟨w.heap.size, 0, none⟩ 0 0 [] (by simp) (fun j v h => by cases h)) (.slice (some ad) n c) n vs (Src.ofSlice _ Tryz.underlying31 ad n c vs (by rw [hz1, hvs.1, hl]) (fun j u hj => by
    have := hcell j u hj
    exact (hX.cell (World.block_lt_of_cell? _ _ this)).trans this) hvs.one) (by omega) (by omega) (by rw [hz2]; exact growslice_fits (by omega) (by omega))
  have hge := grownCap_ge (w.alloc (.cells #[] 95)) (0 + n) 0 95
  generalize grownCap (w.alloc (.cells #[] 95)) (0 + n) 0 95 = cap at hrun hge
  generalize hz : Builtin.zeroCells (Value.agg #[.slice none 0 0, .slice none 0 0]).cells (cap - (0 + n)) = zs at hrun
  simp only [Nat.zero_add, List.nil_append] at hrun hge
  have hblk := heap_alloc_new (w.alloc (.cells #[] 95)).drew (.cells (vs.toArray ++ zs) 95)
  have hs1 : (w.alloc (.cells #[] 95)).drew.heap.size = w.heap.size + 1 := by simp
  have hs1' : (w.alloc (.cells #[] 95)).heap.size = w.heap.size + 1 := by simp
  rw [hs1] at hblk
  rw [hs1'] at hrun
  have hb2 : Below w.heap.size w ((w.alloc (.cells #[] 95)).drew.alloc (.cells (vs.toArray ++ zs) 95)) := hX.drew.alloc hX.size _
  have HRUN := Lib.hid hrun
  have HEND := Lib.hid (And.intro hblk (And.intro (hvs.below hb2) (And.intro (show ∀ (k : Nat) (u : Value), vs[k]? = some u → (vs.toArray ++ zs)[k]? = some u from fun k u hu => by
    have := (List.getElem?_eq_some_iff.1 hu).1
    rw [Array.getElem?_append_left (by simpa using this)]
    simpa using hu) hb2)))
  clear hvs hcell hX hblk hs1 hs1' hb2 hrun h hl
  go_enter Tryz.func179, Tryz.ntmps179
  go_wp2_with (at_builtin; refine Lib.wpList_append_run _ rfl _ _ _ _ rfl _ _ rfl rfl _ _ HRUN.out ?_)
  go_ret
  exact ⟨_, _, _, _, rfl, hge, Nat.le_succ _, HEND.out.1, HEND.out.2.1, HEND.out.2.2.1, HEND.out.2.2.2⟩

/-- clear of one pair. -/
theorem clear_one {w : World} {b o c : Nat} {cs : Array Value} (h : w.heap[b]? = some (.cells cs 95 (0, 0))) (ho : o + 2 ≤ cs.size) (ty : TypeId) : (Builtin.clear_ #[31] ty #[.slice (some ⟨b, o, none⟩) 1 c]).run Tryz.prog w = .ok (.tuple #[]) (w.setCells b o [.slice none 0 0, .slice none 0 0]) := by
  obtain ⟨i0, hi, hz0, hz1, hz2⟩ := info_parts info_pairX
  have hc : ∀ j, j < 2 → (w.cell? ⟨b, o + j, none⟩).isSome = true := fun j hj => by
    rw [cell_of_row w b (o + j) cs _ (0, 0) h, Array.getElem?_eq_getElem (by omega)]
    rfl
  have hf : ∀ j, w.frozen? ⟨b, o + j, none⟩ = false := fun j => by simp [World.frozen?, h]
  have hst := run_storeCells_cells (P := Tryz.prog) b o [.slice none 0 0, .slice none 0 0] 0 w (by simpa using hc) (fun j _ => hf _) (by intro v hv; simp at hv; rw [hv]; rfl)
  simp only [Nat.add_zero] at hst
  have hzv : ∀ w : World, (zeroValue 95).run Tryz.prog w = .ok (.agg #[.slice none 0 0, .slice none 0 0]) w := fun w => by
    simp [zeroValue, typeInfo, hi, hz0]
  have hl : (List.map (fun i => [Value.slice none 0 0, Value.slice none 0 0][i % 2]?.getD default) (List.range 2)) = [Value.slice none 0 0, Value.slice none 0 0] := rfl
  simp [Builtin.clear_, run_underlying Tryz.underlying31, hzv, Builtin.zeroCells, Value.cells]
  rw [hl, hst]
  rfl

set_option maxHeartbeats 1600000 in
theorem deleteP_any {w : World} {G : Nat → Prop} {m c g i : Nat} {ps : List KV} {vs : List Value} {cs : Array Value} (hvs : PCells w G vs ps) (hg : w.heap[g]? = some (.cells cs 95 (0, 0))) (hcs : ∀ (k : Nat) (u : Value), vs[k]? = some u → cs[k]? = some u) (hl : ps.length = m + 1) (hi : i ≤ m) (hc : m + 1 ≤ c) (hG : G g) (hm : m ≤ 4294967296) :
    Calls Tryz.prog 178 #[.slice (some ⟨g, 0, none⟩) (m + 1) c, .int .i64 (i : Int), .int .i64 ((i + 1 : Nat) : Int)] w fun e w' => ∃ vs' cs', e = .returned (.slice (some ⟨g, 0, none⟩) m c) ∧ w'.heap[g]? = some (.cells cs' 95 (0, 0)) ∧ PCells w' G vs' (ps.eraseIdx i) ∧ (∀ (k : Nat) (u : Value), vs'[k]? = some u → cs'[k]? = some u) ∧ w'.heap.size = w.heap.size ∧ (∀ k, k ≠ g → w'.heap[k]? = w.heap[k]?) ∧ Below g w w' := by
  obtain ⟨i0, hi0, hz0, hz1, hz2⟩ := info_parts info_pairX
  have hvl : vs.length = (m + 1) * 2 := by rw [hvs.1, hl]
  have hcl : vs.length ≤ cs.size := by
    rcases Nat.eq_zero_or_pos vs.length with h0 | h0
    · omega
    · have := hcs (vs.length - 1) _ (List.getElem?_eq_getElem (by omega))
      have := (Array.getElem?_eq_some_iff.1 this).1
      omega
  obtain ⟨news, hnews⟩ : ∃ news, news = vs.drop ((i + 1) * 2) := ⟨_, rfl⟩
  have hnl : news.length = (m - i) * 2 := by rw [hnews, List.length_drop]; omega
  have hsrc : ∀ (j : Nat) (u : Value), news[j]? = some u → w.drew.cell? (Addr.add ⟨g, (i + 1) * 2, none⟩ j) = some u := fun j u hj => by
    rw [hnews, List.getElem?_drop] at hj
    rw [add_none]
    show w.cell? _ = _
    rw [cell_of_row w g _ cs _ (0, 0) hg]
    exact hcs _ _ hj
  have hroom : ∀ (A : Addr) (cc : Nat), (0 < m - i → A = ⟨g, (i + 1) * 2, none⟩) → ∀ ty, (Builtin.append_ #[31, 31] ty #[.slice (some ⟨g, 0, none⟩) i c, .slice (some A) (m - i) cc]).run Tryz.prog w.drew = .ok (.slice (some ⟨g, 0, none⟩) m c) (w.drew.setCells g (0 + i * i0.size) news) := fun A cc hA ty => by
    have := run_append_room_cells (P := Tryz.prog) (w := w.drew) 31 ty 95 i0 Tryz.underlying31 hi0 g 0 i c A (m - i) cc news (by rw [hz1, hnl]) (fun j u hj => by
      have h0 : 0 < m - i := by
        have := (List.getElem?_eq_some_iff.1 hj).1
        omega
      rw [hA h0]
      exact hsrc j u hj) (fun u hu => hvs.one u (by rw [hnews] at hu; exact List.mem_of_mem_drop hu)) (by omega) (fun j hj => by
      show (w.cell? _).isSome = true
      rw [cell_of_row w g _ cs _ (0, 0) hg, Array.getElem?_eq_getElem (by rw [hz1]; omega)]
      rfl) (fun j hj => by
      show w.frozen? _ = false
      simp [World.frozen?, hg])
    rw [show i + (m - i) = m by omega] at this
    exact this
  have hg' : w.drew.heap[g]? = some (.cells cs 95 (0, 0)) := hg
  obtain ⟨b1, b2, b3⟩ := blk_setCells news (0 + i * i0.size) w.drew cs hg'
  have hsz1 : (putAt cs (0 + i * i0.size) news).size = cs.size := putAt_size _ _ _
  have hclr := clear_one (o := m * 2) (c := c - m) b1 (by rw [hsz1]; omega) 0
  obtain ⟨d1, d2, d3⟩ := blk_setCells [.slice none 0 0, .slice none 0 0] (m * 2) _ _ b1
  have HFIN := Lib.hid (show ∃ vs' cs', ((w.drew.setCells g (0 + i * i0.size) news).setCells g (m * 2) [.slice none 0 0, .slice none 0 0]).heap[g]? = some (.cells cs' 95 (0, 0)) ∧ PCells ((w.drew.setCells g (0 + i * i0.size) news).setCells g (m * 2) [.slice none 0 0, .slice none 0 0]) G vs' (ps.eraseIdx i) ∧ (∀ (k : Nat) (u : Value), vs'[k]? = some u → cs'[k]? = some u) ∧ ((w.drew.setCells g (0 + i * i0.size) news).setCells g (m * 2) [.slice none 0 0, .slice none 0 0]).heap.size = w.heap.size ∧ (∀ k, k ≠ g → ((w.drew.setCells g (0 + i * i0.size) news).setCells g (m * 2) [.slice none 0 0, .slice none 0 0]).heap[k]? = w.heap[k]?) ∧ Below g w ((w.drew.setCells g (0 + i * i0.size) news).setCells g (m * 2) [.slice none 0 0, .slice none 0 0]) from by
    have hk : ∀ k, k ≠ g → ((w.drew.setCells g (0 + i * i0.size) news).setCells g (m * 2) [.slice none 0 0, .slice none 0 0]).heap[k]? = w.heap[k]? := fun k hk => (d3 k hk).trans (b3 k hk)
    have hs : ((w.drew.setCells g (0 + i * i0.size) news).setCells g (m * 2) [.slice none 0 0, .slice none 0 0]).heap.size = w.heap.size := d2.trans b2
    have hgr : ∀ {A : Option Addr} {n : Nat} {l : List Int}, BIn w G A n l → BIn ((w.drew.setCells g (0 + i * i0.size) news).setCells g (m * 2) [.slice none 0 0, .slice none 0 0]) G A n l := fun h => h.grow (by rw [hs]; exact Nat.le_refl _) (fun k _ hkG => hk k (fun e => hkG (by rw [e]; exact hG))) (fun _ _ h => h)
    refine ⟨vs.take (i * 2) ++ news, _, d1, ⟨?_, fun j y hy => ?_⟩, fun k u hu => ?_, hs, hk, below_cells (Nat.le_refl g) _ _ (below_cells (Nat.le_refl g) _ _ ((Below.refl g w).drew))⟩
    · rw [List.length_append, List.length_take, hnl, List.length_eraseIdx, if_pos (by omega)]
      omega
    · rw [List.getElem?_eraseIdx] at hy
      by_cases hj : j < i
      · rw [if_pos hj] at hy
        obtain ⟨ka, kn, kc, va, vn, vc, c0, c1, r1, q1, r2, q2⟩ := hvs.2 j y hy
        have hlt : (vs.take (i * 2)).length = i * 2 := by rw [List.length_take]; omega
        exact ⟨ka, kn, kc, va, vn, vc, by rw [List.getElem?_append_left (by omega), List.getElem?_take, if_pos (by omega)]; exact c0, by rw [List.getElem?_append_left (by omega), List.getElem?_take, if_pos (by omega)]; exact c1, hgr r1, q1, hgr r2, q2⟩
      · rw [if_neg hj] at hy
        obtain ⟨ka, kn, kc, va, vn, vc, c0, c1, r1, q1, r2, q2⟩ := hvs.2 (j + 1) y hy
        have hlt : (vs.take (i * 2)).length = i * 2 := by rw [List.length_take]; omega
        refine ⟨ka, kn, kc, va, vn, vc, ?_, ?_, hgr r1, q1, hgr r2, q2⟩
        · rw [List.getElem?_append_right (by omega), hlt, hnews, List.getElem?_drop, show (i + 1) * 2 + (j * 2 - i * 2) = (j + 1) * 2 by omega]; exact c0
        · rw [List.getElem?_append_right (by omega), hlt, hnews, List.getElem?_drop, show (i + 1) * 2 + (j * 2 + 1 - i * 2) = (j + 1) * 2 + 1 by omega]; exact c1
    · have hklt := (List.getElem?_eq_some_iff.1 hu).1
      rw [List.length_append, List.length_take, hnl] at hklt
      rw [putAt_get _ _ _ _ (by rw [hsz1]; simp; omega), if_neg (by simp; omega), putAt_get _ _ _ _ (by rw [hz1, hnl]; omega)]
      have hlt : (vs.take (i * 2)).length = i * 2 := by rw [List.length_take]; omega
      rw [hz1]
      by_cases hk2 : 0 + i * 2 ≤ k ∧ k < 0 + i * 2 + news.length
      · rw [if_pos hk2]
        rw [List.getElem?_append_right (by omega), hlt] at hu
        rw [show k - (0 + i * 2) = k - i * 2 by omega]
        exact hu
      · rw [if_neg hk2]
        rw [List.getElem?_append_left (by omega), List.getElem?_take, if_pos (by omega)] at hu
        exact hcs k u hu)
  have HRUN := Lib.hid hroom
  have HCLR := Lib.hid hclr
  have k1 : ¬ c = i := by omega
  have k3 : i ≤ c := by omega
  have k4 : (0 : Int) ≤ (i : Int) + 1 := by omega
  have k5 : ¬ c = m := by omega
  generalize w.drew.setCells g (0 + i * i0.size) news = W1 at *
  generalize W1.setCells g (m * 2) [.slice none 0 0, .slice none 0 0] = W2 at *
  clear hvs hg hcs hl hvl hcl hnews hnl hsrc hroom hg' b1 b2 b3 hsz1 hclr d1 d2 d3 hi0 hz0 hz1 hz2
  by_cases k2 : c = i + 1
  · have k6 : m = i := by omega
    subst k6
    subst k2
    go_enter Tryz.func178, Tryz.ntmps178
    have k7 : (m : Int) ≤ (m : Int) + 1 := by omega
    have HRUN0 := Lib.hid (HRUN.out ⟨g, 0, none⟩ 0 (fun h => absurd h (by omega)) 31)
    rw [Nat.sub_self] at HRUN0
    have hcl := HCLR.out
    rw [show m + 1 - m = 1 by omega] at hcl
    clear HRUN HCLR
    go_wp2_with fail
    go_region_law (refine step_run_append rfl (.tmp 22) (.tmp 25) _ _ rfl _ _ (by rfl) (by rfl) HRUN0.out ?_)
    all_goals go_wp2
    all_goals go_ret
    all_goals
      obtain ⟨vs', cs', q1, q2, q3, q4, q5, q6⟩ := HFIN.out
      exact ⟨vs', cs', rfl, q1, q2, q3, q4, q5, q6⟩
  · go_enter Tryz.func178, Tryz.ntmps178
    go_wp2_with fail
    go_region_law (refine step_run_append rfl (.tmp 22) (.tmp 25) _ _ rfl _ _ (by rfl) (by rfl) (HRUN.out _ _ (fun _ => rfl) _) ?_)
    have hcl := HCLR.out
    all_goals go_wp2
    all_goals go_ret
    all_goals
      obtain ⟨vs', cs', q1, q2, q3, q4, q5, q6⟩ := HFIN.out
      exact ⟨vs', cs', rfl, q1, q2, q3, q4, q5, q6⟩

end Go.Proofs.YtinhdimalhfgkaaGreatDoor
