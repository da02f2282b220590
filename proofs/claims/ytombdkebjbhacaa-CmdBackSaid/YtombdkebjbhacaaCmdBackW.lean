/-
  Contract of the statement CmdBack's walk: what was encoded is decoded, and what is decoded has just these bytes. Conditions: the arguments lie in memory.
-/
import Derived.Test.YtombdkebjbhacaaCmdV
import Derived.Test.YtombdkebjbhacaaCmdT
namespace Go.Proofs.Ytombdkebjbhacaa
open Go.RowKit Go.Maps
set_option maxRecDepth 100000
set_option linter.unusedVariables false

theorem encL_len (x : Cm) : (encL x).length ≤ 200 + x.nm.size + 32 * x.ls.length := by
  unfold encL
  simp only [List.length_append, sb_length]
  have h1 : (layL 1 [x.k]).length ≤ 8 := layL_len 1 [x.k]
  have h2 : (layL 2 (n6 x)).length ≤ 48 := layL_len 2 (n6 x)
  have h3 : (layL 4 [x.c]).length ≤ 8 := layL_len 4 [x.c]
  have h4 : (layL 1 [x.i]).length ≤ 8 := layL_len 1 [x.i]
  have h5 : (layL 8 [x.a]).length ≤ 8 := layL_len 8 [x.a]
  have h6 : (layL 1 [ab1 x.ab, (x.nm.size : Int)]).length ≤ 16 := layL_len 1 [ab1 x.ab, (x.nm.size : Int)]
  have h7 : (layL 1 [(x.ls.length : Int)]).length ≤ 8 := layL_len 1 [(x.ls.length : Int)]
  have h8 := linesL_len x.ls
  omega
theorem decP_cases (b : List Int) (hb : AllBytes b) : (∃ X, decP b = (X, 0) ∧ CmOk X ∧ mayC X = true ∧ encL X = b ∧ X.ls.length ≤ 255 ∧ X.nm.size ≤ 255) ∨ decP b = (cm0, 14) := by
  unfold decP
  split
  · rename_i h
    exact .inl ⟨_, rfl, readP_ok b hb, h.1, h.2, (readP_lens b hb).1, (readP_lens b hb).2⟩
  · exact .inr rfl
theorem one_cms {w : World} {b : Nat} {x : Cm} {A : Option Addr} {c : Nat} (h : CmAt w b x (.slice A x.ls.length c)) : CmsAt w b [(x, A, c)] := fun i y A' c' hi k v hk => by
  have h0 : i = 0 := by
    have := (List.getElem?_eq_some_iff.1 hi).1
    have : i < 1 := this
    omega
  subst h0
  obtain ⟨rfl, rfl, rfl⟩ : x = y ∧ A = A' ∧ c = c' := by simpa using hi
  rw [Nat.zero_mul, Nat.zero_add, cell_of_row w b k _ _ (0, 0) h, ← hk]
  unfold cmC cmL
  simp
set_option maxHeartbeats 6400000 in
theorem cmdBack_any (x : Cm) (hx : CmOk x) {A A' : Option Addr} {B B' m : Nat} (c0 c' : Nat) (b : List Int) (w : World) (hr : RL w B A x.ls.length x.ls) (hB : B ≤ w.heap.size) (hc : x.ls.length ≤ c0) (hb : RB w B' A' m b) (hB' : B' ≤ w.heap.size) (hc' : m ≤ c') :
    Calls Try.prog 5 #[.agg (cmC x (.slice A x.ls.length c0)), .slice A' m c'] w fun e w' => e = .returned (.bool true) ∧ Below w.heap.size w w' := by
  obtain ⟨w1, hw1⟩ : ∃ w1, w1 = w.alloc (.cells (cmC x (.slice A x.ls.length c0)) 24) := ⟨_, rfl⟩
  have b1 : Below w.heap.size w w1 := by rw [hw1]; exact (Below.refl _ _).alloc (Nat.le_refl _) _
  have s1 : w1.heap.size = w.heap.size + 1 := by rw [hw1]; simp
  have m1 : CmAt w1 w.heap.size x (.slice A x.ls.length c0) := by rw [hw1]; exact heap_alloc_new w _
  obtain ⟨w2, hw2⟩ : ∃ w2, w2 = w1.alloc (.cells (cmC x (.slice A x.ls.length c0)) 24) := ⟨_, rfl⟩
  have b2 : Below w1.heap.size w1 w2 := by rw [hw2]; exact (Below.refl _ _).alloc (Nat.le_refl _) _
  have m2 : CmAt w2 w1.heap.size x (.slice A x.ls.length c0) := by rw [hw2]; exact heap_alloc_new w1 _
  have HCM := Lib.hid (cmds_any w2 w1.heap.size [(x, A, c0)] 1 rfl (by decide) m2.lt (one_cms m2))
  have n1 : CmAt w2 w.heap.size x (.slice A x.ls.length c0) := m1.keep (b2.block _ (by omega))
  have N1 := Lib.hid n1
  have B2 := Lib.hid (b1.trans (b2.mono b1.size))
  have e1 := m1.cells
  rw [hw1] at e1
  obtain ⟨e0, e1, e2, e3, e4, e5, e6, e7, e8, e9, e10, e11, e12⟩ := e1
  rw [s1] at HCM
  have HW : Hid (w2 = (w.alloc (.cells (cmC x (.slice A x.ls.length c0)) 24)).alloc (.cells (cmC x (.slice A x.ls.length c0)) 24)) := Lib.hid (by rw [hw2, hw1])
  clear hw1 hw2 b1 b2 m1 m2 n1 s1
  have hL : ([(x, A, c0)].any fun p => longC p.1) = longC x := by simp
  rw [hL] at HCM
  clear hL
  have HAW := Lib.hid awake36_any
  cases hl : longC x with
  | true =>
    rw [hl] at HCM
    simp only [Bool.not_true] at HCM
    go_enter Try.func5, Try.ntmps5
    unfold cmC at *
    go_wp2_with fail
    rw [← HW.out]
    refine HCM.out.mono ?_
    rintro e w3 ⟨rfl, b3⟩
    have B3 := Lib.hid (B2.out.trans (b3.mono B2.out.size))
    go_wp2_with fail
    refine (HAW.out w3).mono ?_
    rintro e w4 ⟨rfl, b4⟩
    go_wp2_with fail
    go_ret
    exact ⟨rfl, B3.out.trans (b4.mono B3.out.size)⟩
  | false =>
    rw [hl] at HCM
    simp only [Bool.not_false] at HCM
    have hls : x.nm.size ≤ 100 ∧ x.ls.length ≤ 20 := by
      unfold longC at hl
      simp only [Bool.or_eq_false_iff, decide_eq_false_iff_not] at hl
      omega
    by_cases hm2 : 2000 < m
    · have hm2' : (2000 : Int) < (m : Int) := by omega
      go_enter Try.func5, Try.ntmps5
      unfold cmC at *
      go_wp2_with fail
      rw [← HW.out]
      refine HCM.out.mono ?_
      rintro e w3 ⟨rfl, b3⟩
      have B3 := Lib.hid (B2.out.trans (b3.mono B2.out.size))
      go_wp2_with fail
      refine (HAW.out w3).mono ?_
      rintro e w4 ⟨rfl, b4⟩
      go_wp2_with fail
      go_ret
      exact ⟨rfl, B3.out.trans (b4.mono B3.out.size)⟩
    · have hm2' : ¬ (2000 : Int) < (m : Int) := by omega
      go_enter Try.func5, Try.ntmps5
      rw [show cmC x (.slice A x.ls.length c0) = #[.int .i64 x.k, .int .i64 x.y, .int .i64 x.n, .int .i64 x.f, .int .i64 x.o, .int .i64 x.d, .int .i64 x.p, .int .i64 x.c, .int .i64 x.i, .int .i64 x.a, .bool x.ab, .string x.nm, .slice A x.ls.length c0] from rfl]
      go_wp2_with fail
      rw [show (w.alloc (.cells #[.int .i64 x.k, .int .i64 x.y, .int .i64 x.n, .int .i64 x.f, .int .i64 x.o, .int .i64 x.d, .int .i64 x.p, .int .i64 x.c, .int .i64 x.i, .int .i64 x.a, .bool x.ab, .string x.nm, .slice A x.ls.length c0] 24)).alloc (.cells #[.int .i64 x.k, .int .i64 x.y, .int .i64 x.n, .int .i64 x.f, .int .i64 x.o, .int .i64 x.d, .int .i64 x.p, .int .i64 x.c, .int .i64 x.i, .int .i64 x.a, .bool x.ab, .string x.nm, .slice A x.ls.length c0] 24) = w2 from HW.out.symm]
      refine HCM.out.mono ?_
      rintro e w3 ⟨rfl, b3⟩
      have B3 := Lib.hid (B2.out.trans (b3.mono B2.out.size))
      have n3 : CmAt w3 w.heap.size x (.slice A x.ls.length c0) := N1.out.keep (b3.block _ N1.out.lt)
      have N3 := Lib.hid n3
      obtain ⟨f0, f1, f2, f3, f4, f5, f6, f7, f8, f9, f10, f11, f12⟩ := n3.cells
      have HEN := Lib.hid (encode_any x hx A x.ls.length c0 B w3 (hr.below (B3.out.mono hB)) (by have := B3.out.size; omega) hc (by omega) (by omega))
      clear n3 e0 e1 e2 e3 e4 e5 e6 e7 e8 e9 e10 e11 e12 HCM HW b3 N1
      cases hmay : mayC x with
      | true =>
        rw [if_pos hmay, if_pos hmay] at HEN
        go_wp2_with fail
        refine HEN.out.mono ?_
        rintro e w4 ⟨b4, v4, rfl, o4⟩
        obtain ⟨A4, c4, rfl, hc4, r4⟩ := read_own o4 (encL_bytes x)
        have B4 := Lib.hid (B3.out.trans (b4.mono B3.out.size))
        have hl4 : (encL x).length ≤ 1000000 := by
          have := encL_len x
          omega
        have HDE := Lib.hid (decode_any r4 (Nat.le_refl _) hc4 hl4)
        rw [dec_enc x hx hmay] at HDE
        have N4 := Lib.hid (N3.out.keep (b4.block _ N3.out.lt))
        clear o4 r4 HEN f0 f1 f2 f3 f4 f5 f6 f7 f8 f9 f10 f11 f12 N3
        go_wp2_with fail
        refine HDE.out.mono ?_
        rintro e w5 ⟨b5, u5, rfl, o5⟩
        simp only at o5 ⊢
        obtain ⟨A5, c5, rfl, hc5⟩ := o5.shape
        obtain ⟨w6, hw6⟩ : ∃ w6, w6 = w5.alloc (.cells (cmC x (.slice A5 x.ls.length c5)) 24) := ⟨_, rfl⟩
        have b6 : Below w5.heap.size w5 w6 := by rw [hw6]; exact (Below.refl _ _).alloc (Nat.le_refl _) _
        have m6 : CmAt w6 w5.heap.size x (.slice A5 x.ls.length c5) := by rw [hw6]; exact heap_alloc_new w5 _
        have n6 : CmAt w6 w.heap.size x (.slice A x.ls.length c0) := N4.out.keep ((b6.block _ (Nat.lt_of_lt_of_le N4.out.lt b5.size)).trans (b5.block _ N4.out.lt))
        have B6 := Lib.hid ((B4.out.trans (b5.mono B4.out.size)).trans (b6.mono (Nat.le_trans B4.out.size b5.size)))
        have r6 := (o5.read hx.2.2.2.2.2.2.2.2.2.2).2.2.below b6
        have HSM := Lib.hid (sameSelf_any x w6 c0 c5 (hr.below (B6.out.mono hB)) r6 (by unfold maxLen; omega) (by unfold maxLen; omega) (by have := B6.out.size; omega) b6.size)
        have p6 := m6.cells
        have q6 := n6.cells
        rw [hw6] at p6 q6
        unfold cmC at p6 q6
        obtain ⟨g0, g1, g2, g3, g4, g5, g6, g7, g8, g9, g10, g11, g12⟩ := p6
        obtain ⟨h0, h1, h2, h3, h4, h5, h6, h7, h8, h9, h10, h11, h12⟩ := q6
        have HW6 := Lib.hid hw6
        clear hw6 b6 m6 n6 o5 r6 HDE N4 b5
        rw [show cmC x (.slice A5 x.ls.length c5) = #[.int .i64 x.k, .int .i64 x.y, .int .i64 x.n, .int .i64 x.f, .int .i64 x.o, .int .i64 x.d, .int .i64 x.p, .int .i64 x.c, .int .i64 x.i, .int .i64 x.a, .bool x.ab, .string x.nm, .slice A5 x.ls.length c5] from rfl]
        go_wp2_with fail
        rw [show w5.alloc (.cells #[.int .i64 x.k, .int .i64 x.y, .int .i64 x.n, .int .i64 x.f, .int .i64 x.o, .int .i64 x.d, .int .i64 x.p, .int .i64 x.c, .int .i64 x.i, .int .i64 x.a, .bool x.ab, .string x.nm, .slice A5 x.ls.length c5] 24) = w6 from HW6.out.symm]
        refine HSM.out.mono ?_
        rintro e w7 ⟨rfl, b7⟩
        have B7 := Lib.hid (B6.out.trans (b7.mono B6.out.size))
        clear HSM HW6 g0 g1 g2 g3 g4 g5 g6 g7 g8 g9 g10 g11 g12 h0 h1 h2 h3 h4 h5 h6 h7 h8 h9 h10 h11 h12
        go_wp2_with fail
        refine (decode_any (hb.below ((B7).out.mono hB')) (by have := (B7).out.size; omega) hc' (by omega)).mono ?_
        rintro e V1 ⟨v1b, u1, rfl, o1⟩
        obtain ⟨A1, d1, rfl, hd1⟩ := o1.shape
        rcases decP_cases b hb.bytes with ⟨X, hD, hXok, hXm, hXe, hXl, hXn⟩ | hD
        · rw [hD] at o1 hd1 ⊢
          simp only at o1 hd1 ⊢
          obtain ⟨V2, hV2⟩ : ∃ V2, V2 = V1.alloc (.cells (cmC X (.slice A1 X.ls.length d1)) 24) := ⟨_, rfl⟩
          have v2b : Below V1.heap.size V1 V2 := by rw [hV2]; exact (Below.refl _ _).alloc (Nat.le_refl _) _
          have n2 : CmAt V2 V1.heap.size X (.slice A1 X.ls.length d1) := by rw [hV2]; exact heap_alloc_new V1 _
          have BV := Lib.hid (((B7).out.trans (v1b.mono (B7).out.size)).trans (v2b.mono (Nat.le_trans (B7).out.size v1b.size)))
          have rl2 := ((o1.read hXok.2.2.2.2.2.2.2.2.2.2).2.2.below v2b)
          have HEN := Lib.hid (encode_any X hXok A1 _ d1 V1.heap.size V2 rl2 v2b.size hd1 (by omega) (by omega))
          rw [if_pos hXm, if_pos hXm, hXe] at HEN
          have n2c := n2.cells
          rw [hV2] at n2c
          unfold cmC at n2c HEN hV2 ⊢
          obtain ⟨g0, g1, g2, g3, g4, g5, g6, g7, g8, g9, g10, g11, g12⟩ := n2c
          clear n2 hD o1 rl2
          go_wp2_with fail
          rw [← hV2]
          refine HEN.out.mono ?_
          rintro e V3 ⟨v3b, v3, rfl, o3⟩
          obtain ⟨A3, c3, rfl, hc3, r3⟩ := read_own o3 hb.bytes
          have BW := Lib.hid (BV.out.trans (v3b.mono BV.out.size))
          have HQ := Lib.hid (Equal_any c3 c' r3 (hb.below (BW.out.mono hB')))
          rw [decide_eq_true (rfl : b = b)] at HQ
          have HAW := Lib.hid (awake36_any V3)
          clear o3 r3 hV2 HEN g0 g1 g2 g3 g4 g5 g6 g7 g8 g9 g10 g11 g12
          go_wp2_with (first
            | (go_at_call 10; refine HQ.out.mono ?_; rintro e w' ⟨rfl, rfl⟩)
            | (go_at_call 7; refine HAW.out.mono ?_; rintro e V4 ⟨rfl, v4b⟩))
          go_ret
          exact ⟨rfl, BW.out.trans (v4b.mono BW.out.size)⟩
        · rw [hD] at o1 hd1 ⊢
          simp only at o1 hd1 ⊢
          obtain ⟨V2, hV2⟩ : ∃ V2, V2 = V1.alloc (.cells (cmC cm0 (.slice A1 cm0.ls.length d1)) 24) := ⟨_, rfl⟩
          have v2b : Below V1.heap.size V1 V2 := by rw [hV2]; exact (Below.refl _ _).alloc (Nat.le_refl _) _
          have n2 : CmAt V2 V1.heap.size cm0 (.slice A1 cm0.ls.length d1) := by rw [hV2]; exact heap_alloc_new V1 _
          have BV := Lib.hid (((B7).out.trans (v1b.mono (B7).out.size)).trans (v2b.mono (Nat.le_trans (B7).out.size v1b.size)))
          have HSM := Lib.hid (sameSelf_any cm0 V2 (A := A1) (A' := none) (n := 0) (m := 0) (B := 0) (B' := 0) d1 0 RL.nil_ RL.nil_ (by decide) (by decide) (Nat.zero_le _) (Nat.zero_le _))
          have n2c := n2.cells
          rw [hV2] at n2c
          unfold cmC at n2c HSM hV2 ⊢
          obtain ⟨g0, g1, g2, g3, g4, g5, g6, g7, g8, g9, g10, g11, g12⟩ := n2c
          simp only [cm0, List.length_nil] at g0 g1 g2 g3 g4 g5 g6 g7 g8 g9 g10 g11 g12 HSM hV2 ⊢
          clear n2 hD o1
          go_wp2_with fail
          rw [← hV2]
          refine HSM.out.mono ?_
          rintro e V3 ⟨rfl, v3b⟩
          have BW := Lib.hid (BV.out.trans (v3b.mono BV.out.size))
          have HAW := Lib.hid (awake36_any V3)
          clear hV2 HSM g0 g1 g2 g3 g4 g5 g6 g7 g8 g9 g10 g11 g12
          go_wp2_with fail
          refine HAW.out.mono ?_
          rintro e V4 ⟨rfl, v4b⟩
          go_wp2_with fail
          go_ret
          exact ⟨rfl, BW.out.trans (v4b.mono BW.out.size)⟩
      | false =>
        rw [if_neg (by rw [hmay]; decide), if_neg (by rw [hmay]; decide)] at HEN
        go_wp2_with fail
        refine HEN.out.mono ?_
        rintro e w4 ⟨b4, v4, rfl, o4⟩
        have B7 := Lib.hid (B3.out.trans (b4.mono B3.out.size))
        obtain ⟨A4, c4, rfl, hc4⟩ := own_shape o4
        clear o4 HEN f0 f1 f2 f3 f4 f5 f6 f7 f8 f9 f10 f11 f12 N3
        go_wp2_with fail
        refine (decode_any (hb.below ((B7).out.mono hB')) (by have := (B7).out.size; omega) hc' (by omega)).mono ?_
        rintro e V1 ⟨v1b, u1, rfl, o1⟩
        obtain ⟨A1, d1, rfl, hd1⟩ := o1.shape
        rcases decP_cases b hb.bytes with ⟨X, hD, hXok, hXm, hXe, hXl, hXn⟩ | hD
        · rw [hD] at o1 hd1 ⊢
          simp only at o1 hd1 ⊢
          obtain ⟨V2, hV2⟩ : ∃ V2, V2 = V1.alloc (.cells (cmC X (.slice A1 X.ls.length d1)) 24) := ⟨_, rfl⟩
          have v2b : Below V1.heap.size V1 V2 := by rw [hV2]; exact (Below.refl _ _).alloc (Nat.le_refl _) _
          have n2 : CmAt V2 V1.heap.size X (.slice A1 X.ls.length d1) := by rw [hV2]; exact heap_alloc_new V1 _
          have BV := Lib.hid (((B7).out.trans (v1b.mono (B7).out.size)).trans (v2b.mono (Nat.le_trans (B7).out.size v1b.size)))
          have rl2 := ((o1.read hXok.2.2.2.2.2.2.2.2.2.2).2.2.below v2b)
          have HEN := Lib.hid (encode_any X hXok A1 _ d1 V1.heap.size V2 rl2 v2b.size hd1 (by omega) (by omega))
          rw [if_pos hXm, if_pos hXm, hXe] at HEN
          have n2c := n2.cells
          rw [hV2] at n2c
          unfold cmC at n2c HEN hV2 ⊢
          obtain ⟨g0, g1, g2, g3, g4, g5, g6, g7, g8, g9, g10, g11, g12⟩ := n2c
          clear n2 hD o1 rl2
          go_wp2_with fail
          rw [← hV2]
          refine HEN.out.mono ?_
          rintro e V3 ⟨v3b, v3, rfl, o3⟩
          obtain ⟨A3, c3, rfl, hc3, r3⟩ := read_own o3 hb.bytes
          have BW := Lib.hid (BV.out.trans (v3b.mono BV.out.size))
          have HQ := Lib.hid (Equal_any c3 c' r3 (hb.below (BW.out.mono hB')))
          rw [decide_eq_true (rfl : b = b)] at HQ
          have HAW := Lib.hid (awake36_any V3)
          clear o3 r3 hV2 HEN g0 g1 g2 g3 g4 g5 g6 g7 g8 g9 g10 g11 g12
          go_wp2_with (first
            | (go_at_call 10; refine HQ.out.mono ?_; rintro e w' ⟨rfl, rfl⟩)
            | (go_at_call 7; refine HAW.out.mono ?_; rintro e V4 ⟨rfl, v4b⟩))
          go_ret
          exact ⟨rfl, BW.out.trans (v4b.mono BW.out.size)⟩
        · rw [hD] at o1 hd1 ⊢
          simp only at o1 hd1 ⊢
          obtain ⟨V2, hV2⟩ : ∃ V2, V2 = V1.alloc (.cells (cmC cm0 (.slice A1 cm0.ls.length d1)) 24) := ⟨_, rfl⟩
          have v2b : Below V1.heap.size V1 V2 := by rw [hV2]; exact (Below.refl _ _).alloc (Nat.le_refl _) _
          have n2 : CmAt V2 V1.heap.size cm0 (.slice A1 cm0.ls.length d1) := by rw [hV2]; exact heap_alloc_new V1 _
          have BV := Lib.hid (((B7).out.trans (v1b.mono (B7).out.size)).trans (v2b.mono (Nat.le_trans (B7).out.size v1b.size)))
          have HSM := Lib.hid (sameSelf_any cm0 V2 (A := A1) (A' := none) (n := 0) (m := 0) (B := 0) (B' := 0) d1 0 RL.nil_ RL.nil_ (by decide) (by decide) (Nat.zero_le _) (Nat.zero_le _))
          have n2c := n2.cells
          rw [hV2] at n2c
          unfold cmC at n2c HSM hV2 ⊢
          obtain ⟨g0, g1, g2, g3, g4, g5, g6, g7, g8, g9, g10, g11, g12⟩ := n2c
          simp only [cm0, List.length_nil] at g0 g1 g2 g3 g4 g5 g6 g7 g8 g9 g10 g11 g12 HSM hV2 ⊢
          clear n2 hD o1
          go_wp2_with fail
          rw [← hV2]
          refine HSM.out.mono ?_
          rintro e V3 ⟨rfl, v3b⟩
          have BW := Lib.hid (BV.out.trans (v3b.mono BV.out.size))
          have HAW := Lib.hid (awake36_any V3)
          clear hV2 HSM g0 g1 g2 g3 g4 g5 g6 g7 g8 g9 g10 g11 g12
          go_wp2_with fail
          refine HAW.out.mono ?_
          rintro e V4 ⟨rfl, v4b⟩
          go_wp2_with fail
          go_ret
          exact ⟨rfl, BW.out.trans (v4b.mono BW.out.size)⟩
end Go.Proofs.Ytombdkebjbhacaa
