/-
  The walk of KeysOrder: it returns true; how three numbers in an array came in. No condition beyond those that the statement itself says.
-/
import Derived.Test.YtocejddighjieaaKeyD
import Derived.OpenShut
import Derived.Deep.RegionHeld3
import Derived.WideShapes
namespace Go.Proofs.Ytocejddighjieaa
open Go.RowKit
set_option maxRecDepth 100000
set_option linter.unusedVariables false

/-- Three numbers of 32 bits. -/
def In32 (x y z : Int) : Prop := (0 ≤ x ∧ x < 4294967296) ∧ (0 ≤ y ∧ y < 4294967296) ∧ (0 ≤ z ∧ z < 4294967296)
theorem In32.all {x y z : Int} (h : In32 x y z) : ∀ v ∈ [x, y, z], 0 ≤ v ∧ v < 4294967296 := fun v hv => by
  simp only [List.mem_cons, List.not_mem_nil, or_false] at hv
  rcases hv with rfl | rfl | rfl
  · exact h.1
  · exact h.2.1
  · exact h.2.2
theorem In32.ints {x y z : Int} (h : In32 x y z) : ∀ v ∈ [x, y, z], -9223372036854775808 ≤ v ∧ v ≤ 9223372036854775807 := fun v hv => by have := h.all v hv; omega
theorem okWide_array_ {P : Program} {w : World} {r : Reach} {base : Nat} {t : TypeId} {v : Value} {n : Nat} {e : TypeId} (ht : P.underlying t = some (.array n e)) (h : Value.okWide P w r base t v) : ∃ cs, v = .agg cs ∧ cs.size = P.cellsOf t := by
  simp only [Value.okWide, ht] at h
  obtain ⟨cs, h1, h2, _⟩ := h
  exact ⟨cs, h1, h2⟩
theorem cellsOfU3 : Try.prog.cellsOf 41 = 3 := by kernel_rfl
theorem cellsOfU : Try.prog.cellsOf 40 = 1 := by kernel_rfl
theorem u32_in {n : Int} (h : (Lit.int .u32 n).wf = true) : 0 ≤ n ∧ n < 4294967296 := by
  simp [Lit.wf, IntKind.min, IntKind.max, IntKind.signed, IntKind.bits] at h
  omega
open Go.ChangeShapes Go.WideShapes in
theorem open_u3 {H : Type} {enc : TypeId × Value → H} {w : World} {fuel : Nat} {cs : List Value} {x : DataW H × List MemPlace} (h : DataW.trod enc Try.prog w 0 (fun _ => true) true fuel 41 cs = some x) (hcl : cs.length = 3) :
    ∃ a b c, cs = [.int .u32 a, .int .u32 b, .int .u32 c] ∧ In32 a b c := by
  obtain ⟨ys, n', hn', hy, hlen, hyl, hf⟩ := DataW.trod_array Try.underlying41 h
  match cs, hcl with
  | [c0, c1, c2], _ =>
    match ys, hyl with
    | [y0, y1, y2], _ =>
      have f0 := hf 0 (by decide)
      have f1 := hf 1 (by decide)
      have f2 := hf 2 (by decide)
      rw [cellsOfU] at f0 f1 f2
      simp only [Nat.mul_one, List.drop_zero, List.take_succ_cons, List.take_zero, List.drop_succ_cons, List.getElem?_cons_zero, List.getElem?_cons_succ] at f0 f1 f2
      obtain ⟨n0, e0, _, w0⟩ := DataW.trod_int Try.underlying40 f0
      obtain ⟨n1, e1, _, w1⟩ := DataW.trod_int Try.underlying40 f1
      obtain ⟨n2, e2, _, w2⟩ := DataW.trod_int Try.underlying40 f2
      simp only [List.cons.injEq, and_true] at e0 e1 e2
      subst e0 e1 e2
      exact ⟨n0, n1, n2, rfl, u32_in w0, u32_in w1, u32_in w2⟩

theorem two_rows (w : World) (e : TypeId) (l m : List Int) (cs ds : Array Value) (hcs : cs = (l.map (Value.int .i64)).toArray) (hds : ds = (m.map (Value.int .i64)).toArray) (hl : ∀ x ∈ l, -9223372036854775808 ≤ x ∧ x ≤ 9223372036854775807) (hm : ∀ x ∈ m, -9223372036854775808 ≤ x ∧ x ≤ 9223372036854775807) :
    RI ((w.alloc (.cells cs e)).alloc (.cells ds e)).drew ((w.alloc (.cells cs e)).alloc (.cells ds e)).drew.heap.size (some ⟨w.heap.size, 0, none⟩) l.length l ∧
    RI ((w.alloc (.cells cs e)).alloc (.cells ds e)).drew ((w.alloc (.cells cs e)).alloc (.cells ds e)).drew.heap.size (some ⟨w.heap.size + 1, 0, none⟩) m.length m ∧
    Below w.heap.size w ((w.alloc (.cells cs e)).alloc (.cells ds e)).drew := by
  have hb1 : Below w.heap.size w (w.alloc (.cells cs e)) := (Below.refl _ _).alloc (Nat.le_refl _) _
  have hs1 : (w.alloc (.cells cs e)).heap.size = w.heap.size + 1 := by simp
  have hs2 : ((w.alloc (.cells cs e)).alloc (.cells ds e)).drew.heap.size = w.heap.size + 2 := by simp
  have h1 := ints_lit w e l cs hcs hl
  have h2 := ints_lit (w.alloc (.cells cs e)) e m ds hds hm
  have hb2 : Below (w.alloc (.cells cs e)).heap.size (w.alloc (.cells cs e)) ((w.alloc (.cells cs e)).alloc (.cells ds e)).drew := ((Below.refl _ _).alloc (Nat.le_refl _) _).drew
  rw [hs2]
  rw [hs1] at h2 hb2
  refine ⟨(h1.below hb2).more (by omega), (h2.keep fun _ _ _ => rfl), (hb1.trans (hb2.mono (by omega)))⟩

set_option maxHeartbeats 1600000 in
theorem keysOrder_rest (t : Int) (xs ys : List Int) (w : World) (ht : 0 ≤ t ∧ t < 256) (g1 g2 : Nat) (hx : RI w w.heap.size (some ⟨g1, 0, none⟩) 3 xs) (hy : RI w w.heap.size (some ⟨g2, 0, none⟩) 3 ys) (hxs : ∀ v ∈ xs, 0 ≤ v ∧ v < 4294967296) (hys : ∀ v ∈ ys, 0 ≤ v ∧ v < 4294967296) :
    (∀ wx, Below w.heap.size w wx → Calls Try.prog 18 #[.int .u8 t, .slice (some ⟨g1, 0, none⟩) 3 3] wx fun e w' => ∃ A c, e = .returned (.slice A 13 c) ∧ 13 ≤ c ∧ RB w' w'.heap.size A 13 (keyL t xs) ∧ Below w.heap.size w w' ∧ Below wx.heap.size wx w') ∧
    (∀ wx, Below w.heap.size w wx → Calls Try.prog 18 #[.int .u8 t, .slice (some ⟨g2, 0, none⟩) 3 3] wx fun e w' => ∃ A c, e = .returned (.slice A 13 c) ∧ 13 ≤ c ∧ RB w' w'.heap.size A 13 (keyL t ys) ∧ Below w.heap.size w w' ∧ Below wx.heap.size wx w') ∧
    (∀ wx A c, RB wx wx.heap.size A 13 (keyL t xs) → 13 ≤ c → Calls Try.prog 16 #[.slice A 13 c] wx fun e w' => ∃ A' c', e = .returned (.tuple #[.int .u8 t, .slice A' 3 c', .bool true]) ∧ RI w' w'.heap.size A' 3 xs ∧ Below wx.heap.size wx w') ∧
    (∀ wx A c, Below w.heap.size w wx → RI wx wx.heap.size A 3 xs → Calls Try.prog 14 #[.slice A 3 c, .slice (some ⟨g1, 0, none⟩) 3 3] wx fun e w' => e = .returned (.bool true) ∧ Below wx.heap.size wx w') ∧
    (∀ wx A B c d k, RB wx wx.heap.size A 13 (keyL t xs) → RB wx k B 13 (keyL t ys) → Calls Try.prog 20 #[.slice A 13 c, .slice B 13 d] wx fun e w' => e = .returned (.int .i64 (cmpI xs ys)) ∧ wx = w') ∧
    (∀ wx, Below w.heap.size w wx → Calls Try.prog 21 #[.slice (some ⟨g1, 0, none⟩) 3 3, .slice (some ⟨g2, 0, none⟩) 3 3] wx fun e w' => e = .returned (.int .i64 (cmpI xs ys)) ∧ wx = w') := by
  have key : ∀ (g : Nat) (zs : List Int), RI w w.heap.size (some ⟨g, 0, none⟩) 3 zs → ∀ wx, Below w.heap.size w wx → Calls Try.prog 18 #[.int .u8 t, .slice (some ⟨g, 0, none⟩) 3 3] wx fun e w' => ∃ A c, e = .returned (.slice A 13 c) ∧ 13 ≤ c ∧ RB w' w'.heap.size A 13 (keyL t zs) ∧ Below w.heap.size w w' ∧ Below wx.heap.size wx w' := fun g zs hz wx hb => by
    refine (kKey_any t _ 3 3 _ zs wx ht (hz.below hb) hb.size (Nat.le_refl _) (by decide)).mono ?_
    rintro e w' ⟨v, rfl, ho⟩
    obtain ⟨A, c, rfl, hc, hr⟩ := ho.read (tagL_bytes ht _)
    have hl : (keyL t zs).length = 13 := by unfold keyL; rw [tagL_length, List.length_map, List.length_take, hz.len]; rfl
    rw [hl] at hr hc
    exact ⟨A, c, by rw [hl], hc, hr, hb.trans (ho.2.mono hb.size), ho.2⟩
  refine ⟨key g1 xs hx, key g2 ys hy, fun wx A c hr hc => ?_, fun wx A c hb hr => ?_, fun wx A B c d k hr hr' => ?_, fun wx hb => ?_⟩
  · refine (kSplit_any A 13 c _ _ wx hr (Nat.le_refl _) hc (by decide)).mono ?_
    rw [show splitK (keyL t xs) = (xs, t, true) from by unfold splitK; rw [split_key hxs (by rw [hx.len]; omega)]]
    rintro e w' ⟨A', k', c', rfl, _, _, hr', hb'⟩
    obtain rfl : k' = 3 := by rw [← hr'.len]; exact hx.len
    exact ⟨A', c', rfl, hr', hb'⟩
  · have := EqualInts_any c 3 hr (hx.below hb) (by decide) (by decide) (Nat.le_refl _) hb.size
    rw [decide_eq_true (rfl : xs = xs)] at this
    exact this
  · have := bcmp_any c d hr hr'
    rw [cmpT_key ht hxs hys (by rw [hx.len]; omega) (by rw [hy.len]; omega)] at this
    exact this
  · exact cmpInts_any 3 3 (hx.below hb) (hy.below hb) (by decide)

set_option maxHeartbeats 1600000 in
theorem keysOrder_walk (t x0 x1 x2 y0 y1 y2 : Int) (w : World) (ht : 0 ≤ t ∧ t < 256) (hx : In32 x0 x1 x2) (hy : In32 y0 y1 y2) :
    Calls Try.prog 7 #[.int .u8 t, .agg #[.int .u32 x0, .int .u32 x1, .int .u32 x2], .agg #[.int .u32 y0, .int .u32 y1, .int .u32 y2]] w fun e w' => e = .returned (.bool true) ∧ Below w.heap.size w w' := by
  have HX := Lib.hid hx
  have HY := Lib.hid hy
  have v0 : IntKind.i64.wrap x0 = x0 := by obtain ⟨⟨_, _⟩, _⟩ := hx; rw [IntKind.wrap_i64]; first | (unfold wrap64; omega) | omega
  have v1 : IntKind.i64.wrap x1 = x1 := by obtain ⟨_, ⟨_, _⟩, _⟩ := hx; rw [IntKind.wrap_i64]; first | (unfold wrap64; omega) | omega
  have v2 : IntKind.i64.wrap x2 = x2 := by obtain ⟨_, _, ⟨_, _⟩⟩ := hx; rw [IntKind.wrap_i64]; first | (unfold wrap64; omega) | omega
  have u0 : IntKind.i64.wrap y0 = y0 := by obtain ⟨⟨_, _⟩, _⟩ := hy; rw [IntKind.wrap_i64]; first | (unfold wrap64; omega) | omega
  have u1 : IntKind.i64.wrap y1 = y1 := by obtain ⟨_, ⟨_, _⟩, _⟩ := hy; rw [IntKind.wrap_i64]; first | (unfold wrap64; omega) | omega
  have u2 : IntKind.i64.wrap y2 = y2 := by obtain ⟨_, _, ⟨_, _⟩⟩ := hy; rw [IntKind.wrap_i64]; first | (unfold wrap64; omega) | omega
  clear hx hy
  go_enter Try.func7, Try.ntmps7
  go_wp2_with fail
  obtain ⟨w1, hw1⟩ : ∃ w1, w1 = ((w.alloc (.cells #[.int .u32 x0, .int .u32 x1, .int .u32 x2] 41)).alloc (.cells #[.int .u32 y0, .int .u32 y1, .int .u32 y2] 41)) := ⟨_, rfl⟩
  have hb1 : Below w.heap.size w w1 := by rw [hw1]; exact ((Below.refl _ _).alloc (Nat.le_refl _) _).alloc (by simp) _
  have HC : Hid (∀ W, Below w1.heap.size w1 W → W.cell? ⟨w.heap.size, 0, none⟩ = some (.int .u32 x0) ∧ W.cell? ⟨w.heap.size, 1, none⟩ = some (.int .u32 x1) ∧ W.cell? ⟨w.heap.size, 2, none⟩ = some (.int .u32 x2) ∧ W.cell? ⟨w.heap.size + 1, 0, none⟩ = some (.int .u32 y0) ∧ W.cell? ⟨w.heap.size + 1, 1, none⟩ = some (.int .u32 y1) ∧ W.cell? ⟨w.heap.size + 1, 2, none⟩ = some (.int .u32 y2)) := Lib.hid fun W hW => by
    have hs : w1.heap.size = w.heap.size + 2 := by rw [hw1]; simp
    have g0 : w1.heap[w.heap.size]? = some (.cells #[.int .u32 x0, .int .u32 x1, .int .u32 x2] 41 (0, 0)) := by
      rw [hw1]
      have := heap_alloc_new w (.cells #[.int .u32 x0, .int .u32 x1, .int .u32 x2] 41)
      rw [← this]
      exact Array.getElem?_push_lt (by simp) |>.trans (Array.getElem?_eq_getElem (by simp)).symm
    have g1 : w1.heap[w.heap.size + 1]? = some (.cells #[.int .u32 y0, .int .u32 y1, .int .u32 y2] 41 (0, 0)) := by
      rw [hw1]
      have := heap_alloc_new (w.alloc (.cells #[.int .u32 x0, .int .u32 x1, .int .u32 x2] 41)) (.cells #[.int .u32 y0, .int .u32 y1, .int .u32 y2] 41)
      simpa using this
    have f0 := (hW.block _ (by omega)).trans g0
    have f1 := (hW.block _ (by omega)).trans g1
    refine ⟨?_, ?_, ?_, ?_, ?_, ?_⟩
    · rw [cell_of_row W _ 0 _ _ (0, 0) f0]; rfl
    · rw [cell_of_row W _ 1 _ _ (0, 0) f0]; rfl
    · rw [cell_of_row W _ 2 _ _ (0, 0) f0]; rfl
    · rw [cell_of_row W _ 0 _ _ (0, 0) f1]; rfl
    · rw [cell_of_row W _ 1 _ _ (0, 0) f1]; rfl
    · rw [cell_of_row W _ 2 _ _ (0, 0) f1]; rfl
  rw [← hw1]
  clear hw1
  have HA := Lib.hid (two_rows w1 3 [x0, x1, x2] [y0, y1, y2] #[.int .i64 x0, .int .i64 x1, .int .i64 x2] #[.int .i64 y0, .int .i64 y1, .int .i64 y2] rfl rfl HX.out.ints HY.out.ints)
  have HBo := Lib.hid (two_rows w1 3 [y0, y1, y2] [x0, x1, x2] #[.int .i64 y0, .int .i64 y1, .int .i64 y2] #[.int .i64 x0, .int .i64 x1, .int .i64 x2] rfl rfl HY.out.ints HX.out.ints)
  go_region_held3 (fun W => W.cell? ⟨w.heap.size, 0, none⟩ = some (.int .u32 x0) ∧ W.cell? ⟨w.heap.size, 1, none⟩ = some (.int .u32 x1) ∧ W.cell? ⟨w.heap.size, 2, none⟩ = some (.int .u32 x2) ∧ W.cell? ⟨w.heap.size + 1, 0, none⟩ = some (.int .u32 y0) ∧ W.cell? ⟨w.heap.size + 1, 1, none⟩ = some (.int .u32 y1) ∧ W.cell? ⟨w.heap.size + 1, 2, none⟩ = some (.int .u32 y2))
    (first | exact HC.out _ ((Below.refl _ _).drew) | exact HC.out _ (((Below.refl _ _).alloc (Nat.le_refl _) _).drew) | exact HC.out _ ((((Below.refl _ _).alloc (Nat.le_refl _) _).alloc (by simp) _).drew)) (first | fail)
  all_goals first
    | (obtain ⟨hx, hy, hb2⟩ := HA.out
       obtain ⟨w2, hw2⟩ : ∃ w2, w2 = ((w1.alloc (.cells #[.int .i64 x0, .int .i64 x1, .int .i64 x2] 3)).alloc (.cells #[.int .i64 y0, .int .i64 y1, .int .i64 y2] 3)).drew := ⟨_, rfl⟩
       rw [← hw2] at hx hy hb2 ⊢
       clear hw2 HA HBo
       obtain ⟨g1, hg1⟩ : ∃ g1, g1 = w1.heap.size := ⟨_, rfl⟩
       obtain ⟨g2, hg2⟩ : ∃ g2, g2 = w1.heap.size + 1 := ⟨_, rfl⟩
       rw [← hg2] at hy ⊢
       rw [← hg1] at hx ⊢
       clear hg1 hg2)
    | (obtain ⟨hy, hx, hb2⟩ := HBo.out
       obtain ⟨w2, hw2⟩ : ∃ w2, w2 = ((w1.alloc (.cells #[.int .i64 y0, .int .i64 y1, .int .i64 y2] 3)).alloc (.cells #[.int .i64 x0, .int .i64 x1, .int .i64 x2] 3)).drew := ⟨_, rfl⟩
       rw [← hw2] at hx hy hb2 ⊢
       clear hw2 HA HBo
       obtain ⟨g2, hg2⟩ : ∃ g2, g2 = w1.heap.size := ⟨_, rfl⟩
       obtain ⟨g1, hg1⟩ : ∃ g1, g1 = w1.heap.size + 1 := ⟨_, rfl⟩
       rw [← hg1] at hx ⊢
       rw [← hg2] at hy ⊢
       clear hg1 hg2)
  all_goals
    have HB2 := Lib.hid (hb1.trans (hb2.mono hb1.size))
    have H := Lib.hid (keysOrder_rest t [x0, x1, x2] [y0, y1, y2] w2 ht _ _ hx hy HX.out.all HY.out.all)
    clear hx hy hb2
    clear v0 v1 v2 u0 u1 u2
    go_wp2_with fail
    refine (H.out.1 _ (Below.refl _ _)).mono ?_
    rintro e w3 ⟨A3, c3, rfl, hc3, hr3, hb3, _⟩
    go_wp2_with fail
    refine (H.out.2.2.1 _ A3 c3 hr3 hc3).mono ?_
    rintro e w4 ⟨A4, c4, rfl, hr4, hb4⟩
    have hb4' := hb3.trans (hb4.mono hb3.size)
    have HE := Lib.hid (H.out.2.2.2.1 w4 A4 c4 hb4' hr4)
    clear hr3 hr4
    go_wp2_with fail
    refine HE.out.mono ?_
    rintro e w5 ⟨rfl, hb5⟩
    have hb5' := hb4'.trans (hb5.mono hb4'.size)
    go_wp2_with fail
    refine (H.out.1 _ hb5').mono ?_
    rintro e w6 ⟨A6, c6, rfl, hc6, hr6, hb6, _⟩
    go_wp2_with fail
    refine (H.out.2.1 _ hb6).mono ?_
    rintro e w7 ⟨A7, c7, rfl, hc7, hr7, hb7, hb67⟩
    have HC := Lib.hid (H.out.2.2.2.2.1 w7 A6 A7 c6 c7 _ ((hr6.below hb67).more hb67.size) hr7)
    have HD := Lib.hid (H.out.2.2.2.2.2 w7 hb7)
    have HB7 := Lib.hid hb7
    clear hr6 hr7 hb3 hb4 hb4' hb5 hb5' hb6 hb67 hb7
    generalize cmpI [x0, x1, x2] [y0, y1, y2] = r at HC HD
    go_wp2_with fail
    refine HC.out.mono ?_
    rintro e w8 ⟨rfl, rfl⟩
    go_wp2_with fail
    refine HD.out.mono ?_
    rintro e w8 ⟨rfl, rfl⟩
    go_wp2_with fail
    refine (kAwake_any _).mono ?_
    rintro e w9 ⟨rfl, hb9⟩
    have HB9 := Lib.hid (HB7.out.trans (hb9.mono HB7.out.size))
    clear hb9
    go_wp2
    go_ret
    exact ⟨rfl, HB2.out.trans (HB9.out.mono HB2.out.size)⟩

end Go.Proofs.Ytocejddighjieaa
