/-
  Contract of cmd.Encode: a command's bytes in a row of the call's own, or ErrArg. Conditions: the command's numbers are ints; name and lines are short.
-/
import Derived.Test.YtombdkebjbhacaaCmdK
import Derived.Test.YtombdkebjbhacaaLinA
namespace Go.Proofs.Ytombdkebjbhacaa
open Go.RowKit
set_option maxRecDepth 100000
set_option linter.unusedVariables false

/-- A command's cells; the lines' slice is u. -/
def cmL (x : Cm) (u : Value) : List Value := [.int .i64 x.k, .int .i64 x.y, .int .i64 x.n, .int .i64 x.f, .int .i64 x.o, .int .i64 x.d, .int .i64 x.p, .int .i64 x.c, .int .i64 x.i, .int .i64 x.a, .bool x.ab, .string x.nm, u]
def cmC (x : Cm) (u : Value) : Array Value := #[.int .i64 x.k, .int .i64 x.y, .int .i64 x.n, .int .i64 x.f, .int .i64 x.o, .int .i64 x.d, .int .i64 x.p, .int .i64 x.c, .int .i64 x.i, .int .i64 x.a, .bool x.ab, .string x.nm, u]
/-- A block that holds a command. -/
def CmAt (w : World) (b : Nat) (x : Cm) (u : Value) : Prop := w.heap[b]? = some (.cells (cmC x u) 24 (0, 0))
section
variable {w w' : World} {b : Nat} {x : Cm} {u : Value}
theorem CmAt.lt (h : CmAt w b x u) : b < w.heap.size := (Array.getElem?_eq_some_iff.1 h).1
theorem CmAt.cells (h : CmAt w b x u) : w.cell? ⟨b, 0, none⟩ = some (.int .i64 x.k) ∧ w.cell? ⟨b, 1, none⟩ = some (.int .i64 x.y) ∧ w.cell? ⟨b, 2, none⟩ = some (.int .i64 x.n) ∧ w.cell? ⟨b, 3, none⟩ = some (.int .i64 x.f) ∧ w.cell? ⟨b, 4, none⟩ = some (.int .i64 x.o) ∧ w.cell? ⟨b, 5, none⟩ = some (.int .i64 x.d) ∧ w.cell? ⟨b, 6, none⟩ = some (.int .i64 x.p) ∧ w.cell? ⟨b, 7, none⟩ = some (.int .i64 x.c) ∧ w.cell? ⟨b, 8, none⟩ = some (.int .i64 x.i) ∧ w.cell? ⟨b, 9, none⟩ = some (.int .i64 x.a) ∧ w.cell? ⟨b, 10, none⟩ = some (.bool x.ab) ∧ w.cell? ⟨b, 11, none⟩ = some (.string x.nm) ∧ w.cell? ⟨b, 12, none⟩ = some u :=
  ⟨cell_of_row w b 0 _ _ (0, 0) h, cell_of_row w b 1 _ _ (0, 0) h, cell_of_row w b 2 _ _ (0, 0) h, cell_of_row w b 3 _ _ (0, 0) h, cell_of_row w b 4 _ _ (0, 0) h, cell_of_row w b 5 _ _ (0, 0) h, cell_of_row w b 6 _ _ (0, 0) h, cell_of_row w b 7 _ _ (0, 0) h, cell_of_row w b 8 _ _ (0, 0) h, cell_of_row w b 9 _ _ (0, 0) h, cell_of_row w b 10 _ _ (0, 0) h, cell_of_row w b 11 _ _ (0, 0) h, cell_of_row w b 12 _ _ (0, 0) h⟩
theorem CmAt.keep (h : CmAt w b x u) (hk : w'.heap[b]? = w.heap[b]?) : CmAt w' b x u := hk.trans h
end

/-- A command while it is written: from w0 on, its block is the first new one, the writing's the second. -/
structure EncSt (w0 W : World) (x : Cm) (u : Value) (v : Value) (l : List Int) (z : Bool) : Prop where
  wr : WrAt W (w0.heap.size + 1) v l z
  cm : CmAt W w0.heap.size x u
  bel : Below w0.heap.size w0 W
section
variable {w0 W W' : World} {x : Cm} {u v v' : Value} {l m : List Int} {z y : Bool}
theorem EncSt.turn (h : EncSt w0 W x u v l z) (hw : WrAt W' (w0.heap.size + 1) v' m y) (ht : Touch (WrF (w0.heap.size + 1) v) W W') : EncSt w0 W' x u v' m y := by
  have hne : ∀ k, WrF (w0.heap.size + 1) v k → w0.heap.size + 1 ≤ k := fun k hk => by
    rcases hk with rfl | hk
    · exact Nat.le_refl _
    · exact Nat.le_of_succ_le (row_lt h.wr.own k hk).1
  refine ⟨hw, h.cm.keep (ht.block _ h.cm.lt (fun e => by have := hne _ e; omega)), h.bel.trans ⟨ht.os, ht.tape, ht.output, ht.size, fun k hk => ht.block k (Nat.lt_of_lt_of_le hk h.bel.size) (fun e => by have := hne _ e; omega)⟩⟩
theorem EncSt.below (h : EncSt w0 W x u v l z) (hb : Below W.heap.size W W') : EncSt w0 W' x u v l z :=
  h.turn (h.wr.below hb) (Touch.of_below hb)
/-- A call of lay, as the writing stands. -/
theorem lay_st (h : EncSt w0 W x u v l z) (ns : List Int) (s : Int) (hns : ∀ x ∈ ns, B64 x) (hn : ns.length ≤ 100) (hl : l.length ≤ 1000000) :
    Calls Try.prog 21 #[.pointer (some ⟨w0.heap.size + 1, 0, none⟩), .int .i64 s, .slice (some ⟨W.heap.size, 0, none⟩) ns.length ns.length] (W.alloc (.cells (ns.map (Value.int .i64)).toArray 3)) fun e w' => e = .returned (.tuple #[]) ∧ ∃ v', EncSt w0 w' x u v' (l ++ layL s ns) (z || !allR s ns) ∧ Touch (WrF (w0.heap.size + 1) v) W w' := by
  refine (lay_any h.wr ns s hns hn hl).mono ?_
  rintro e w' ⟨rfl, v', h', t', _⟩
  exact ⟨rfl, v', h.turn h' t', t'⟩
end
theorem one_ok {a : Int} (h : B64 a) : ∀ y ∈ [a], B64 y := fun y hy => by rw [List.mem_singleton.1 hy]; exact h
theorem n6_ok {x : Cm} (h : CmOk x) : ∀ y ∈ n6 x, B64 y := fun y hy => by
  obtain ⟨h1, h2, h3, h4, h5, h6, h7, _⟩ := h
  unfold n6 at hy
  simp only [List.mem_cons, List.not_mem_nil, or_false] at hy
  rcases hy with rfl | rfl | rfl | rfl | rfl | rfl <;> assumption
theorem ln3_ok {x : Ln} (h : LnOk x) : ∀ y ∈ ln3 x, B64 y := fun y hy => by
  obtain ⟨h1, h2, h3, h4⟩ := h
  unfold ln3 at hy
  simp only [List.mem_cons, List.not_mem_nil, or_false] at hy
  rcases hy with rfl | rfl | rfl <;> assumption
theorem two_ok {a b : Int} (h : B64 a) (g : B64 b) : ∀ y ∈ [a, b], B64 y := fun y hy => by
  simp only [List.mem_cons, List.not_mem_nil, or_false] at hy
  rcases hy with rfl | rfl <;> assumption
theorem ext_len {l : List Int} {m : Nat} (h : l.length ≤ m) (s : Int) (ns : List Int) : (l ++ layL s ns).length ≤ m + 8 * ns.length := by
  have := layL_len s ns
  rw [List.length_append]
  omega
set_option maxHeartbeats 3200000 in
theorem encode_any (x : Cm) (hx : CmOk x) (A : Option Addr) (n c B : Nat) (w : World) (hr : RL w B A n x.ls) (hB : B ≤ w.heap.size) (hc : n ≤ c) (hn : n ≤ 1000) (hs : x.nm.size ≤ 1000) :
    Calls Try.prog 8 #[.agg (cmC x (.slice A n c))] w fun e w' => Below w.heap.size w w' ∧ ∃ v, e = .returned (.tuple #[v, .int .i64 (if mayC x = true then 0 else 1)]) ∧ w'.ownsRow w.heap.size 5 1 v (if mayC x = true then encL x else []).length ((if mayC x = true then encL x else []).map (Value.int .u8)) := by
  have hnl := hr.len
  obtain ⟨w1, hw1⟩ : ∃ w1, w1 = w.alloc (.cells (cmC x (.slice A n c)) 24) := ⟨_, rfl⟩
  have b1 : Below w.heap.size w w1 := by rw [hw1]; exact (Below.refl _ _).alloc (Nat.le_refl _) _
  have s1 : w1.heap.size = w.heap.size + 1 := by rw [hw1]; simp
  have m1 : CmAt w1 w.heap.size x (.slice A n c) := by rw [hw1]; exact heap_alloc_new w _
  have S0 := Lib.hid (show EncSt w (w1.alloc (.cells #[.slice none 0 0, .bool (!knownB x.k)] 45)) x (.slice A n c) (.slice none 0 0) [] (!knownB x.k) from by
    have b2 : Below (w.heap.size + 1) w1 (w1.alloc (.cells #[.slice none 0 0, .bool (!knownB x.k)] 45)) := (Below.refl _ _).alloc (by omega) _
    refine ⟨⟨?_, World.ownsRow_nil _ _ _ _, AllBytes.nil⟩, ?_, b1.trans (b2.mono (by omega))⟩
    · have := heap_alloc_new w1 (.cells #[.slice none 0 0, .bool (!knownB x.k)] 45)
      rwa [s1] at this
    · exact (b2.block _ (by omega)).trans m1)
  have HX := Lib.hid hx
  have HR := Lib.hid hr
  have k0 : (w.alloc (.cells (cmC x (.slice A n c)) 24)).cell? ⟨w.heap.size, 0, none⟩ = some (.int .i64 x.k) := by
    rw [← hw1]; exact m1.cells.1
  have E0 : ([] : List Int).length ≤ 0 := Nat.le_refl _
  clear hx hr b1 m1
  go_enter Try.func8, Try.ntmps8
  go_wp2_with fail
  rw [← hw1] at k0 ⊢
  clear hw1
  refine (known_any _ _).mono ?_
  rintro e w' ⟨rfl, rfl⟩
  obtain ⟨c0, c1, c2, c3, c4, c5, c6, c7, c8, c9, c10, c11, c12⟩ := S0.out.cm.cells
  go_wp2_with fail
  obtain ⟨W0, hW0⟩ : ∃ W0, W0 = w1.alloc (.cells #[.slice none 0 0, .bool (!knownB x.k)] 45) := ⟨_, rfl⟩
  have z0 : w.heap.size + 1 + 1 = W0.heap.size := by rw [hW0]; simp [s1]
  rw [← hW0] at S0 ⊢
  rw [z0]
  clear hW0 z0 c0 c1 c2 c3 c4 c5 c6 c7 c8 c9 c10 c11 c12
  refine (lay_st S0.out [x.k] 1 (one_ok HX.out.1) (show 1 ≤ 100 by decide) (by have := E0; omega)).mono ?_
  rintro e W1 ⟨rfl, v1, s1, _⟩
  have S1 := Lib.hid s1
  have E1 : _ ≤ 8 := ext_len E0 1 [x.k]
  obtain ⟨c0, c1, c2, c3, c4, c5, c6, c7, c8, c9, c10, c11, c12⟩ := s1.cm.cells
  obtain ⟨d0, d1⟩ := s1.wr.cells
  clear s1 S0
  go_wp2_with fail
  refine (lay_st S1.out (n6 x) 2 (n6_ok HX.out) (show 6 ≤ 100 by decide) (by have := E1; omega)).mono ?_
  rintro e W2 ⟨rfl, v2, s2, _⟩
  have S2 := Lib.hid s2
  have E2 : _ ≤ 56 := ext_len E1 2 (n6 x)
  obtain ⟨c0, c1, c2, c3, c4, c5, c6, c7, c8, c9, c10, c11, c12⟩ := s2.cm.cells
  obtain ⟨d0, d1⟩ := s2.wr.cells
  clear s2 S1
  go_wp2_with fail
  refine (lay_st S2.out [x.c] 4 (one_ok HX.out.2.2.2.2.2.2.2.1) (show 1 ≤ 100 by decide) (by have := E2; omega)).mono ?_
  rintro e W3 ⟨rfl, v3, s3, _⟩
  have S3 := Lib.hid s3
  have E3 : _ ≤ 64 := ext_len E2 4 [x.c]
  obtain ⟨c0, c1, c2, c3, c4, c5, c6, c7, c8, c9, c10, c11, c12⟩ := s3.cm.cells
  obtain ⟨d0, d1⟩ := s3.wr.cells
  clear s3 S2
  go_wp2_with fail
  refine (lay_st S3.out [x.i] 1 (one_ok HX.out.2.2.2.2.2.2.2.2.1) (show 1 ≤ 100 by decide) (by have := E3; omega)).mono ?_
  rintro e W4 ⟨rfl, v4, s4, _⟩
  have S4 := Lib.hid s4
  have E4 : _ ≤ 72 := ext_len E3 1 [x.i]
  obtain ⟨c0, c1, c2, c3, c4, c5, c6, c7, c8, c9, c10, c11, c12⟩ := s4.cm.cells
  obtain ⟨d0, d1⟩ := s4.wr.cells
  clear s4 S3
  go_wp2_with fail
  refine (lay_st S4.out [x.a] 8 (one_ok HX.out.2.2.2.2.2.2.2.2.2.1) (show 1 ≤ 100 by decide) (by have := E4; omega)).mono ?_
  rintro e W5 ⟨rfl, v5, s5, _⟩
  have S5 := Lib.hid s5
  have E5 : _ ≤ 80 := ext_len E4 8 [x.a]
  obtain ⟨c0, c1, c2, c3, c4, c5, c6, c7, c8, c9, c10, c11, c12⟩ := s5.cm.cells
  obtain ⟨d0, d1⟩ := s5.wr.cells
  clear s5 S4
  go_wp2_with fail
  have hlt5 : w.heap.size < W5.drew.heap.size := S5.out.cm.lt
  have S5d := Lib.hid (S5.out.below ((Below.refl _ _).drew))
  have HAB := Lib.hid (show B64 (ab1 x.ab) ∧ B64 (x.nm.size : Int) from ⟨by unfold ab1 B64; split <;> omega, by unfold B64; omega⟩)
  clear S5
  have tok1 : True := trivial
  go_region_held3 (fun W => W.cell? ⟨w.heap.size, 10, none⟩ = some (.bool x.ab) ∧ W.cell? ⟨w.heap.size, 11, none⟩ = some (.string x.nm))
    (first | exact ⟨c10, c11⟩ | exact ⟨(World.cell?_alloc_lt W5.drew _ ⟨w.heap.size, 10, none⟩ hlt5).trans c10, (World.cell?_alloc_lt W5.drew _ ⟨w.heap.size, 11, none⟩ hlt5).trans c11⟩ | exact ⟨k10, k11⟩)
    (first
      | (have _t := tok1; clear tok1; go_at_call 22; refine (bit_any _ _).mono ?_; rintro e w' ⟨rfl, rfl⟩)
      | (go_at_call 21; refine (lay_st S5d.out [ab1 x.ab, (x.nm.size : Int)] 1 (two_ok HAB.out.1 HAB.out.2) (show 2 ≤ 100 by decide) (by have := E5; omega)).mono ?_; rintro e W6 ⟨rfl, v6, s6, _⟩; have S6 := Lib.hid s6; have E6 : _ ≤ 96 := ext_len E5 1 [ab1 x.ab, (x.nm.size : Int)]; have k10 := s6.cm.cells.2.2.2.2.2.2.2.2.2.2.1; have k11 := s6.cm.cells.2.2.2.2.2.2.2.2.2.2.2.1))
  clear c0 c1 c2 c3 c4 c5 c6 c7 c8 c9 c10 c11 c12 d0 d1 k0 k10 k11 s6 hlt5 S5d HAB
  go_wp2_with fail
  obtain ⟨l6, z6, hl6, hz6, S6'⟩ : ∃ l6 z6, l6 = [] ++ layL 1 [x.k] ++ layL 2 (n6 x) ++ layL 4 [x.c] ++ layL 1 [x.i] ++ layL 8 [x.a] ++ layL 1 [ab1 x.ab, (x.nm.size : Int)] ∧ z6 = (!knownB x.k || !allR 1 [x.k] || !allR 2 (n6 x) || !allR 4 [x.c] || !allR 1 [x.i] || !allR 8 [x.a] || !allR 1 [ab1 x.ab, (x.nm.size : Int)]) ∧ Hid (EncSt w W6 x (.slice A n c) v6 l6 z6) := ⟨_, _, rfl, rfl, S6⟩
  clear S6
  have S6 := S6'
  clear S6'
  rw [← hl6] at E6
  have HL6 := Lib.hid (And.intro hl6 hz6)
  clear hl6 hz6
  obtain ⟨A7, c7, w7, hrun, hg7, hw7, ht7⟩ := str_step S6.out.wr x.nm (by omega) 28
  have hS7 := S6.out.turn hw7 ht7
  have S7 := Lib.hid hS7
  have c11 := S6.out.cm.cells.2.2.2.2.2.2.2.2.2.2.2.1
  have d0 := S6.out.wr.cells.1
  have e0 := (World.cell?_of_block (a := ⟨w.heap.size + 1, 0, none⟩) hg7).trans d0
  have e11 : w7.cell? ⟨w.heap.size, 11, none⟩ = some (.string x.nm) := by
    have := hS7.cm.cells.2.2.2.2.2.2.2.2.2.2.2.1
    rwa [World.cell?_setCell_other w7 ⟨w.heap.size + 1, 0, none⟩ ⟨w.heap.size, 11, none⟩ _ (fun e => by simp at e)] at this
  have f0 : w7.frozen? ⟨w.heap.size + 1, 0, none⟩ = false := by simp [World.frozen?, hg7.trans S6.out.wr.blk]
  have HRUN := Lib.hid hrun
  have E7 : (l6 ++ sb x.nm).length ≤ 1100 := by
    rw [List.length_append, sb_length]; omega
  clear hrun hg7 hw7 ht7 S6 E0 E1 E2 E3 E4 E5 E6
  go_region_law (refine step_append_run (by rfl) (.tmp 61) (.tmp 63) _ _ (by rfl) _ _ (by rfl) (by rfl) HRUN.out ?_)
  all_goals
    obtain ⟨W7, v7, hW7, S7'⟩ : ∃ W7 v7, W7 = w7.setCell ⟨w.heap.size + 1, 0, none⟩ (.slice A7 (l6.length + x.nm.size) c7) ∧ Hid (EncSt w W7 x (.slice A n c) v7 (l6 ++ sb x.nm) z6) := ⟨_, _, rfl, S7⟩
    clear S7
    have S7 := S7'
    rw [← hW7]
    clear hW7 S7' e0 f0 HRUN d0 c11 e11 hS7
    have c12 := S7.out.cm.cells.2.2.2.2.2.2.2.2.2.2.2.2
    go_wp2_with fail
    refine (lay_st S7.out [(n : Int)] 1 (one_ok (by unfold B64; omega)) (show 1 ≤ 100 by decide) (by omega)).mono ?_
    rintro e W8 ⟨rfl, v8, s8, _⟩
    have S8 := Lib.hid s8
    have E8 : _ ≤ 1108 := ext_len E7 1 [(n : Int)]
    have c12 := s8.cm.cells.2.2.2.2.2.2.2.2.2.2.2.2
    obtain ⟨l8, z8, hl8, hz8, S8'⟩ : ∃ l8 z8, l8 = l6 ++ sb x.nm ++ layL 1 [(n : Int)] ∧ z8 = (z6 || !allR 1 [(n : Int)]) ∧ Hid (EncSt w W8 x (.slice A n c) v8 l8 z8) := ⟨_, _, rfl, rfl, S8⟩
    rw [← hl8] at E8
    have HL8 := Lib.hid (And.intro hl8 hz8)
    clear hl8 hz8
    clear S7 s8 S8 E7
    go_wp2_with fail
    go_loopw [76] (fun i wr => ∃ j : Nat, j ≤ n ∧ i = .int .i64 j ∧ Hid (∃ v, EncSt w wr x (.slice A n c) v (l8 ++ linesL (x.ls.take j)) (z8 || wrongL (x.ls.take j)))) (fun i _ => n - (intOf i).toNat)
    case atStart => exact ⟨0, Nat.zero_le _, rfl, Lib.hid ⟨v8, by simpa [linesL, wrongL] using S8'.out⟩⟩
    case round =>
      obtain ⟨j, hj, rfl, hla⟩ := hrel
      by_cases hlt : j < n
      · obtain ⟨y, hy⟩ : ∃ y, x.ls[j]? = some y := ⟨_, List.getElem?_eq_getElem (by omega)⟩
        have hyok : LnOk y := HR.out.ok y (List.mem_of_getElem? hy)
        obtain ⟨v, s⟩ := hla.out
        obtain ⟨b, off, rfl, hb, hcell⟩ := HR.out.2.2 (by omega)
        obtain ⟨q0, q1, q2, q3⟩ := (hcell j y hy).keep hb (fun b o hbb => s.bel.cell (p := ⟨b, o, none⟩) (Nat.lt_of_lt_of_le hbb hB))
        clear hcell
        have HST := Lib.hid (And.intro (linesL_step x.ls j y hy) (wrongL_step x.ls j y hy))
        have EJ := Lib.hid (show (l8 ++ linesL (x.ls.take j)).length ≤ 40000 by
          have := linesL_len (x.ls.take j)
          rw [List.length_append]
          rw [List.length_take] at this
          omega)
        have HY := Lib.hid hyok
        obtain ⟨yf, yo, yn, ya⟩ := y
        simp only at q0 q1 q2 q3
        have hltn : (j : Int) < (n : Int) := by omega
        have hbl : ∀ k, k = wr.heap.size → ¬ WrF (w.heap.size + 1) v k := fun k hk e => by have := s.wr.lts _ e; omega
        have S := Lib.hid s
        have HBL := Lib.hid hbl
        clear hla hy hyok s hbl
        go_wp2_with fail
        obtain ⟨W9, hW9⟩ : ∃ W9, W9 = wr.alloc (.cells #[.int .i64 yf, .int .i64 yo, .int .i64 yn, .int .i64 ya] 42) := ⟨_, rfl⟩
        have z9 : wr.heap.size + 1 = W9.heap.size := by rw [hW9]; simp
        have m9 : W9.heap[wr.heap.size]? = some (.cells #[.int .i64 yf, .int .i64 yo, .int .i64 yn, .int .i64 ya] 42 (0, 0)) := by rw [hW9]; exact heap_alloc_new wr _
        have S9 := Lib.hid (S.out.below (show Below wr.heap.size wr W9 by rw [hW9]; exact (Below.refl _ _).alloc (Nat.le_refl _) _))
        rw [← hW9, z9]
        refine (lay_st S9.out (ln3 ⟨yf, yo, yn, ya⟩) 2 (ln3_ok HY.out) (show 3 ≤ 100 by decide) (by have := EJ.out; omega)).mono ?_
        rintro e W10 ⟨rfl, v10, s10, t10⟩
        have S10 := Lib.hid s10
        have m10 := (t10.block wr.heap.size (by omega) (HBL.out _ rfl)).trans m9
        have q3' := cell_of_row W10 wr.heap.size 3 _ _ (0, 0) m10
        clear s10 t10 m9 m10 q0 q1 q2 q3 hW9
        have E10 := Lib.hid (show _ ≤ 40024 from ext_len EJ.out 2 (ln3 ⟨yf, yo, yn, ya⟩))
        go_wp2_with fail
        refine (lay_st S10.out [ya] 8 (one_ok HY.out.2.2.2) (show 1 ≤ 100 by decide) (by have := E10.out; omega)).mono ?_
        rintro e W11 ⟨rfl, v11, s11, _⟩
        have HE := Lib.hid (show ∃ v, EncSt w W11 x (.slice (some ⟨b, off, none⟩) n c) v (l8 ++ linesL (x.ls.take (j + 1))) (z8 || wrongL (x.ls.take (j + 1))) from ⟨v11, by
          rw [HST.out.1, HST.out.2, ← Bool.or_assoc, ← Bool.or_assoc, ← List.append_assoc, ← List.append_assoc]
          exact s11⟩)
        clear s11 S10 S9 S q3'
        go_wp2_with fail
        go_roundw
        case rel => exact ⟨j + 1, by omega, by go_num, HE⟩
        case measure => simp [intOf]; omega
      · obtain rfl : j = n := by omega
        obtain ⟨v, s⟩ := hla.out
        rw [List.take_of_length_le (by omega)] at s
        have hZ : (z8 || wrongL x.ls) = !mayC x := by
          rw [← wrong_may, HL8.out.2, HL6.out.2, ← hnl]; rfl
        have hL : l8 ++ linesL x.ls = encL x := by
          rw [HL8.out.1, HL6.out.1, ← hnl]
          unfold encL
          rw [List.nil_append]
        rw [hZ, hL] at s
        have d1 := s.wr.cells.2
        have d0 := s.wr.cells.1
        have HO := Lib.hid (own_base_le s.wr.own (show w.heap.size ≤ w.heap.size + 1 + 1 by omega))
        have HB' := Lib.hid s.bel
        have hlt' : ¬ ((j : Int) < (j : Int)) := by omega
        clear hla s hZ hL
        cases hm : mayC x with
        | true =>
          rw [hm] at d1
          simp only [Bool.not_true] at d1
          go_wp2_with fail
          go_ret2
          exact ⟨HB'.out, _, rfl, HO.out⟩
        | false =>
          rw [hm] at d1
          simp only [Bool.not_false] at d1
          go_wp2_with fail
          go_ret2
          exact ⟨HB'.out, _, rfl, World.ownsRow_nil _ _ _ _⟩
end Go.Proofs.Ytombdkebjbhacaa
