/-
  Contracts of bucket.Same and of the statements' own same: whether two buckets are the same, field by field. They make memory, and write nothing that was there. No condition beyond sizes.
-/
import Derived.Test.YthpgcdfbngngjaaBkJ
namespace Go.Proofs.Ythpgcdfbngngjaa
open Go.RowKit
set_option maxRecDepth 100000
set_option linter.unusedVariables false

theorem pairs_same {ps qs : List KV} {n : Nat} (h1 : ps.length = n) (h2 : qs.length = n) (h : ∀ (m : Nat) (x y : KV), m < n → ps[m]? = some x → qs[m]? = some y → x = y) : ps = qs := by
  apply List.ext_getElem (by omega)
  intro i h3 h4
  exact h i _ _ (by omega) (List.getElem?_eq_getElem h3) (List.getElem?_eq_getElem h4)

set_option maxHeartbeats 800000 in
theorem bkPairS_any {w : World} {B kn kc vn vc kn' kc' vn' vc' : Nat} {ka va ka' va' : Option Addr} {k v k' v' : List Int} (h1 : RB w B ka kn k) (h2 : RB w B va vn v) (h1' : RB w B ka' kn' k') (h2' : RB w B va' vn' v') (hB : B ≤ w.heap.size) :
    Calls Try.prog 37 #[.agg #[.slice ka kn kc, .slice va vn vc], .agg #[.slice ka' kn' kc', .slice va' vn' vc']] w fun e w' => e = .returned (.bool (decide ((k, v) = (k', v')))) ∧ Below w.heap.size w w' := by
  have hX : Below w.heap.size w ((w.alloc (.cells #[.slice ka kn kc, .slice va vn vc] 48 (0, 0))).alloc (.cells #[.slice ka' kn' kc', .slice va' vn' vc'] 48 (0, 0))) := ((Below.refl _ _).alloc (Nat.le_refl _) _).alloc (by simp) _
  obtain ⟨x0, x1⟩ := ((PBox.new w (.slice ka kn kc) (.slice va vn vc)).below ((Below.refl _ _).alloc (Nat.le_refl _) (.cells #[.slice ka' kn' kc', .slice va' vn' vc'] 48 (0, 0)))).cells
  have hy := PBox.new (w.alloc (.cells #[.slice ka kn kc, .slice va vn vc] 48 (0, 0))) (.slice ka' kn' kc') (.slice va' vn' vc')
  rw [show (w.alloc (.cells #[.slice ka kn kc, .slice va vn vc] 48 (0, 0))).heap.size = w.heap.size + 1 by simp] at hy
  obtain ⟨y0, y1⟩ := hy.cells
  have H1 := Lib.hid (Equal_any kc kc' (h1.below (hX.mono hB)) (h1'.below (hX.mono hB)))
  have H2 := Lib.hid (Equal_any vc vc' (h2.below (hX.mono hB)) (h2'.below (hX.mono hB)))
  have HX := Lib.hid hX
  clear hX hy h1 h2 h1' h2'
  by_cases e1 : k = k'
  · rw [decide_eq_true e1] at H1
    have hd : decide ((k, v) = (k', v')) = decide (v = v') := by simp [e1]
    rw [hd]
    clear hd e1
    go_enter Try.func37, Try.ntmps37
    go_wp2_with fail
    refine H1.out.mono ?_
    rintro e w' ⟨rfl, rfl⟩
    go_wp2_with fail
    refine H2.out.mono ?_
    rintro e w' ⟨rfl, rfl⟩
    clear x0 x1 y0 y1
    go_wp2
    go_ret
    exact ⟨rfl, HX.out⟩
  · rw [decide_eq_false e1] at H1
    have hd : decide ((k, v) = (k', v')) = false := by simp [e1]
    rw [hd]
    clear hd e1
    go_enter Try.func37, Try.ntmps37
    go_wp2_with fail
    refine H1.out.mono ?_
    rintro e w' ⟨rfl, rfl⟩
    clear x0 x1 y0 y1
    go_wp2
    go_ret
    exact ⟨rfl, HX.out⟩

set_option maxHeartbeats 1600000 in
theorem bkEqualS_any {w : World} {B n m : Nat} {A A' : Option Addr} {ps qs : List KV} (c c' : Nat) (hr : RPairs w B A n ps) (hr' : RPairs w B A' m qs) (hB : B ≤ w.heap.size) (hn : n ≤ maxLen) (hm : m ≤ maxLen) :
    Calls Try.prog 36 #[.slice A n c, .slice A' m c', .func (.func 37) #[] #[]] w fun e w' => e = .returned (.bool (decide (ps = qs))) ∧ Below w.heap.size w w' := by
  unfold maxLen at hn hm
  have HR := Lib.hid hr
  have HR' := Lib.hid hr'
  by_cases hnm : n = m
  · subst hnm
    clear hr hr'
    have hne : ((n : Int) != (n : Int)) = false := by simp
    go_enter Try.func36, Try.ntmps36
    go_wp2_with fail
    go_loopw [17] (fun i wr => ∃ j : Nat, j ≤ n ∧ i = .int .i64 j ∧ Hid (∀ (k : Nat) (x y : KV), k < j → ps[k]? = some x → qs[k]? = some y → x = y) ∧ Hid (Below w.heap.size w wr)) (fun i _ => n - (intOf i).toNat)
    case atStart => exact ⟨0, Nat.zero_le _, rfl, Lib.hid (fun k x y hk => absurd hk (by omega)), Lib.hid (Below.refl _ _)⟩
    case round =>
      obtain ⟨j, hj, rfl, hbef, hbw⟩ := hrel
      by_cases hlt : j < n
      · obtain ⟨b, off, rfl, hb, hat⟩ := HR.out.2 (by omega)
        obtain ⟨b', off', rfl, hb', hat'⟩ := HR'.out.2 (by omega)
        obtain ⟨y, hy⟩ : ∃ y, ps[j]? = some y := ⟨_, List.getElem?_eq_getElem (by rw [HR.out.len]; exact hlt)⟩
        obtain ⟨z, hz⟩ : ∃ z, qs[j]? = some z := ⟨_, List.getElem?_eq_getElem (by rw [HR'.out.len]; exact hlt)⟩
        have hkeep : ∀ b o, b < B → wr.cell? ⟨b, o, none⟩ = w.cell? ⟨b, o, none⟩ := fun b o hbb => hbw.out.cell (p := ⟨b, o, none⟩) (Nat.lt_of_lt_of_le hbb hB)
        obtain ⟨ka, kn, kc, va, vn, vc, h0, h1, h2, h3, h4, h5⟩ := (hat j y hy).keep hb hkeep
        obtain ⟨ka', kn', kc', va', vn', vc', h0', h1', h2', h3', h4', h5'⟩ := (hat' j z hz).keep hb' hkeep
        have hX : Below wr.heap.size wr ((wr.alloc (.cells #[.slice ka kn kc, .slice va vn vc] 48 (0, 0))).alloc (.cells #[.slice ka' kn' kc', .slice va' vn' vc'] 48 (0, 0))) := ((Below.refl _ _).alloc (Nat.le_refl _) _).alloc (by simp) _
        have hBr := Nat.le_trans hB hbw.out.size
        have g0 := (hX.cell (p := ⟨b', off' + j * 2, none⟩) (Nat.lt_of_lt_of_le hb' hBr)).trans h0'
        have hX1 : Below wr.heap.size wr (wr.alloc (.cells #[.slice ka kn kc, .slice va vn vc] 48 (0, 0))) := (Below.refl _ _).alloc (Nat.le_refl _) _
        have i0 := (hX1.cell (p := ⟨b', off' + j * 2, none⟩) (Nat.lt_of_lt_of_le hb' hBr)).trans h0'
        have i1 := (hX1.cell (p := ⟨b', off' + j * 2 + 1, none⟩) (Nat.lt_of_lt_of_le hb' hBr)).trans h1'
        obtain ⟨x0, x1⟩ := ((PBox.new wr (.slice ka kn kc) (.slice va vn vc)).below ((Below.refl _ _).alloc (Nat.le_refl _) (.cells #[.slice ka' kn' kc', .slice va' vn' vc'] 48 (0, 0)))).cells
        have hyb := PBox.new (wr.alloc (.cells #[.slice ka kn kc, .slice va vn vc] 48 (0, 0))) (.slice ka' kn' kc') (.slice va' vn' vc')
        rw [show (wr.alloc (.cells #[.slice ka kn kc, .slice va vn vc] 48 (0, 0))).heap.size = wr.heap.size + 1 by simp] at hyb
        obtain ⟨y0, y1⟩ := hyb.cells
        have HF := Lib.hid (bkPairS_any (kc := kc) (vc := vc) (kc' := kc') (vc' := vc') (h2.below (hX.mono hBr)) (h4.below (hX.mono hBr)) (h2'.below (hX.mono hBr)) (h4'.below (hX.mono hBr)) (Nat.le_trans hBr hX.size))
        have HB2 := Lib.hid (hbw.out.trans (hX.mono hbw.out.size))
        have HYZ := Lib.hid (And.intro hy hz)
        clear hat hat' hy hz h2 h3 h4 h5 h2' h3' h4' h5' hX hX1 hyb hkeep g0
        have hlt' : (j : Int) < (n : Int) := by omega
        by_cases hk : y = z
        · rw [decide_eq_true (show (y.1, y.2) = (z.1, z.2) by rw [hk])] at HF
          have hn' := Lib.hid (fun (k : Nat) (p q : KV) (hm : k < j + 1) => show ps[k]? = some p → qs[k]? = some q → p = q by
            intro hp hq
            rcases Nat.lt_or_ge k j with h | h
            · exact hbef.out k p q h hp hq
            · obtain rfl : k = j := by omega
              rw [HYZ.out.1] at hp
              rw [HYZ.out.2] at hq
              cases hp
              cases hq
              exact hk)
          clear hk
          go_wp2_with fail
          refine HF.out.mono ?_
          rintro e w' ⟨rfl, hb3⟩
          have HE := Lib.hid (HB2.out.trans (hb3.mono HB2.out.size))
          clear hb3 h0 h1 h0' h1' i0 i1 x0 x1 y0 y1
          go_wp2
          go_roundw
          case rel => exact ⟨j + 1, by omega, by go_num, hn', HE⟩
          case measure => simp [intOf]; omega
        · rw [decide_eq_false (show ¬ (y.1, y.2) = (z.1, z.2) from hk)] at HF
          have HD := Lib.hid (show decide (ps = qs) = false from decide_eq_false (fun e => hk (by
            have h1 := HYZ.out.1
            rw [e, HYZ.out.2] at h1
            exact (Option.some.inj h1).symm)))
          clear hk
          go_wp2_with fail
          refine HF.out.mono ?_
          rintro e w' ⟨rfl, hb3⟩
          have HE := Lib.hid (HB2.out.trans (hb3.mono HB2.out.size))
          clear hb3 h0 h1 h0' h1' i0 i1 x0 x1 y0 y1
          go_wp2
          go_ret
          rw [HD.out]
          exact ⟨rfl, HE.out⟩
      · obtain rfl : j = n := by omega
        have HD := Lib.hid (show decide (ps = qs) = true from decide_eq_true (pairs_same HR.out.len HR'.out.len hbef.out))
        go_wp2
        go_ret
        rw [HD.out]
        exact ⟨rfl, hbw.out⟩
  · have hne : ((n : Int) != (m : Int)) = true := by simp; omega
    have hd : decide (ps = qs) = false := decide_eq_false (fun e => hnm (by rw [← hr.len, ← hr'.len, e]))
    rw [hd]
    clear hr hr' hd hnm
    go_enter Try.func36, Try.ntmps36
    go_wp2
    go_ret
    exact ⟨rfl, Below.refl _ _⟩

set_option maxHeartbeats 800000 in
theorem bkPairP_any {w : World} {B kn kc vn vc kn' kc' vn' vc' : Nat} {ka va ka' va' : Option Addr} {k v k' v' : List Int} (h1 : RB w B ka kn k) (h2 : RB w B va vn v) (h1' : RB w B ka' kn' k') (h2' : RB w B va' vn' v') (hB : B ≤ w.heap.size) :
    Calls Try.prog 45 #[.agg #[.slice ka kn kc, .slice va vn vc], .agg #[.slice ka' kn' kc', .slice va' vn' vc']] w fun e w' => e = .returned (.bool (decide ((k, v) = (k', v')))) ∧ Below w.heap.size w w' := by
  have hX : Below w.heap.size w ((w.alloc (.cells #[.slice ka kn kc, .slice va vn vc] 48 (0, 0))).alloc (.cells #[.slice ka' kn' kc', .slice va' vn' vc'] 48 (0, 0))) := ((Below.refl _ _).alloc (Nat.le_refl _) _).alloc (by simp) _
  obtain ⟨x0, x1⟩ := ((PBox.new w (.slice ka kn kc) (.slice va vn vc)).below ((Below.refl _ _).alloc (Nat.le_refl _) (.cells #[.slice ka' kn' kc', .slice va' vn' vc'] 48 (0, 0)))).cells
  have hy := PBox.new (w.alloc (.cells #[.slice ka kn kc, .slice va vn vc] 48 (0, 0))) (.slice ka' kn' kc') (.slice va' vn' vc')
  rw [show (w.alloc (.cells #[.slice ka kn kc, .slice va vn vc] 48 (0, 0))).heap.size = w.heap.size + 1 by simp] at hy
  obtain ⟨y0, y1⟩ := hy.cells
  have H1 := Lib.hid (Equal_any kc kc' (h1.below (hX.mono hB)) (h1'.below (hX.mono hB)))
  have H2 := Lib.hid (Equal_any vc vc' (h2.below (hX.mono hB)) (h2'.below (hX.mono hB)))
  have HX := Lib.hid hX
  clear hX hy h1 h2 h1' h2'
  by_cases e1 : k = k'
  · rw [decide_eq_true e1] at H1
    have hd : decide ((k, v) = (k', v')) = decide (v = v') := by simp [e1]
    rw [hd]
    clear hd e1
    go_enter Try.func45, Try.ntmps45
    go_wp2_with fail
    refine H1.out.mono ?_
    rintro e w' ⟨rfl, rfl⟩
    go_wp2_with fail
    refine H2.out.mono ?_
    rintro e w' ⟨rfl, rfl⟩
    clear x0 x1 y0 y1
    go_wp2
    go_ret
    exact ⟨rfl, HX.out⟩
  · rw [decide_eq_false e1] at H1
    have hd : decide ((k, v) = (k', v')) = false := by simp [e1]
    rw [hd]
    clear hd e1
    go_enter Try.func45, Try.ntmps45
    go_wp2_with fail
    refine H1.out.mono ?_
    rintro e w' ⟨rfl, rfl⟩
    clear x0 x1 y0 y1
    go_wp2
    go_ret
    exact ⟨rfl, HX.out⟩

set_option maxHeartbeats 1600000 in
theorem bkEqualP_any {w : World} {B n m : Nat} {A A' : Option Addr} {ps qs : List KV} (c c' : Nat) (hr : RPairs w B A n ps) (hr' : RPairs w B A' m qs) (hB : B ≤ w.heap.size) (hn : n ≤ maxLen) (hm : m ≤ maxLen) :
    Calls Try.prog 36 #[.slice A n c, .slice A' m c', .func (.func 45) #[] #[]] w fun e w' => e = .returned (.bool (decide (ps = qs))) ∧ Below w.heap.size w w' := by
  unfold maxLen at hn hm
  have HR := Lib.hid hr
  have HR' := Lib.hid hr'
  by_cases hnm : n = m
  · subst hnm
    clear hr hr'
    have hne : ((n : Int) != (n : Int)) = false := by simp
    go_enter Try.func36, Try.ntmps36
    go_wp2_with fail
    go_loopw [17] (fun i wr => ∃ j : Nat, j ≤ n ∧ i = .int .i64 j ∧ Hid (∀ (k : Nat) (x y : KV), k < j → ps[k]? = some x → qs[k]? = some y → x = y) ∧ Hid (Below w.heap.size w wr)) (fun i _ => n - (intOf i).toNat)
    case atStart => exact ⟨0, Nat.zero_le _, rfl, Lib.hid (fun k x y hk => absurd hk (by omega)), Lib.hid (Below.refl _ _)⟩
    case round =>
      obtain ⟨j, hj, rfl, hbef, hbw⟩ := hrel
      by_cases hlt : j < n
      · obtain ⟨b, off, rfl, hb, hat⟩ := HR.out.2 (by omega)
        obtain ⟨b', off', rfl, hb', hat'⟩ := HR'.out.2 (by omega)
        obtain ⟨y, hy⟩ : ∃ y, ps[j]? = some y := ⟨_, List.getElem?_eq_getElem (by rw [HR.out.len]; exact hlt)⟩
        obtain ⟨z, hz⟩ : ∃ z, qs[j]? = some z := ⟨_, List.getElem?_eq_getElem (by rw [HR'.out.len]; exact hlt)⟩
        have hkeep : ∀ b o, b < B → wr.cell? ⟨b, o, none⟩ = w.cell? ⟨b, o, none⟩ := fun b o hbb => hbw.out.cell (p := ⟨b, o, none⟩) (Nat.lt_of_lt_of_le hbb hB)
        obtain ⟨ka, kn, kc, va, vn, vc, h0, h1, h2, h3, h4, h5⟩ := (hat j y hy).keep hb hkeep
        obtain ⟨ka', kn', kc', va', vn', vc', h0', h1', h2', h3', h4', h5'⟩ := (hat' j z hz).keep hb' hkeep
        have hX : Below wr.heap.size wr ((wr.alloc (.cells #[.slice ka kn kc, .slice va vn vc] 48 (0, 0))).alloc (.cells #[.slice ka' kn' kc', .slice va' vn' vc'] 48 (0, 0))) := ((Below.refl _ _).alloc (Nat.le_refl _) _).alloc (by simp) _
        have hBr := Nat.le_trans hB hbw.out.size
        have g0 := (hX.cell (p := ⟨b', off' + j * 2, none⟩) (Nat.lt_of_lt_of_le hb' hBr)).trans h0'
        have hX1 : Below wr.heap.size wr (wr.alloc (.cells #[.slice ka kn kc, .slice va vn vc] 48 (0, 0))) := (Below.refl _ _).alloc (Nat.le_refl _) _
        have i0 := (hX1.cell (p := ⟨b', off' + j * 2, none⟩) (Nat.lt_of_lt_of_le hb' hBr)).trans h0'
        have i1 := (hX1.cell (p := ⟨b', off' + j * 2 + 1, none⟩) (Nat.lt_of_lt_of_le hb' hBr)).trans h1'
        obtain ⟨x0, x1⟩ := ((PBox.new wr (.slice ka kn kc) (.slice va vn vc)).below ((Below.refl _ _).alloc (Nat.le_refl _) (.cells #[.slice ka' kn' kc', .slice va' vn' vc'] 48 (0, 0)))).cells
        have hyb := PBox.new (wr.alloc (.cells #[.slice ka kn kc, .slice va vn vc] 48 (0, 0))) (.slice ka' kn' kc') (.slice va' vn' vc')
        rw [show (wr.alloc (.cells #[.slice ka kn kc, .slice va vn vc] 48 (0, 0))).heap.size = wr.heap.size + 1 by simp] at hyb
        obtain ⟨y0, y1⟩ := hyb.cells
        have HF := Lib.hid (bkPairP_any (kc := kc) (vc := vc) (kc' := kc') (vc' := vc') (h2.below (hX.mono hBr)) (h4.below (hX.mono hBr)) (h2'.below (hX.mono hBr)) (h4'.below (hX.mono hBr)) (Nat.le_trans hBr hX.size))
        have HB2 := Lib.hid (hbw.out.trans (hX.mono hbw.out.size))
        have HYZ := Lib.hid (And.intro hy hz)
        clear hat hat' hy hz h2 h3 h4 h5 h2' h3' h4' h5' hX hX1 hyb hkeep g0
        have hlt' : (j : Int) < (n : Int) := by omega
        by_cases hk : y = z
        · rw [decide_eq_true (show (y.1, y.2) = (z.1, z.2) by rw [hk])] at HF
          have hn' := Lib.hid (fun (k : Nat) (p q : KV) (hm : k < j + 1) => show ps[k]? = some p → qs[k]? = some q → p = q by
            intro hp hq
            rcases Nat.lt_or_ge k j with h | h
            · exact hbef.out k p q h hp hq
            · obtain rfl : k = j := by omega
              rw [HYZ.out.1] at hp
              rw [HYZ.out.2] at hq
              cases hp
              cases hq
              exact hk)
          clear hk
          go_wp2_with fail
          refine HF.out.mono ?_
          rintro e w' ⟨rfl, hb3⟩
          have HE := Lib.hid (HB2.out.trans (hb3.mono HB2.out.size))
          clear hb3 h0 h1 h0' h1' i0 i1 x0 x1 y0 y1
          go_wp2
          go_roundw
          case rel => exact ⟨j + 1, by omega, by go_num, hn', HE⟩
          case measure => simp [intOf]; omega
        · rw [decide_eq_false (show ¬ (y.1, y.2) = (z.1, z.2) from hk)] at HF
          have HD := Lib.hid (show decide (ps = qs) = false from decide_eq_false (fun e => hk (by
            have h1 := HYZ.out.1
            rw [e, HYZ.out.2] at h1
            exact (Option.some.inj h1).symm)))
          clear hk
          go_wp2_with fail
          refine HF.out.mono ?_
          rintro e w' ⟨rfl, hb3⟩
          have HE := Lib.hid (HB2.out.trans (hb3.mono HB2.out.size))
          clear hb3 h0 h1 h0' h1' i0 i1 x0 x1 y0 y1
          go_wp2
          go_ret
          rw [HD.out]
          exact ⟨rfl, HE.out⟩
      · obtain rfl : j = n := by omega
        have HD := Lib.hid (show decide (ps = qs) = true from decide_eq_true (pairs_same HR.out.len HR'.out.len hbef.out))
        go_wp2
        go_ret
        rw [HD.out]
        exact ⟨rfl, hbw.out⟩
  · have hne : ((n : Int) != (m : Int)) = true := by simp; omega
    have hd : decide (ps = qs) = false := decide_eq_false (fun e => hnm (by rw [← hr.len, ← hr'.len, e]))
    rw [hd]
    clear hr hr' hd hnm
    go_enter Try.func36, Try.ntmps36
    go_wp2
    go_ret
    exact ⟨rfl, Below.refl _ _⟩

set_option maxHeartbeats 400000 in
theorem plainPairs_any {w : World} {B n m : Nat} {A A' : Option Addr} {ps qs : List KV} (c c' : Nat) (hr : RPairs w B A n ps) (hr' : RPairs w B A' m qs) (hB : B ≤ w.heap.size) (hn : n ≤ maxLen) (hm : m ≤ maxLen) :
    Calls Try.prog 38 #[.slice A n c, .slice A' m c'] w fun e w' => e = .returned (.bool (decide (ps = qs))) ∧ Below w.heap.size w w' := by
  have HE := Lib.hid (bkEqualP_any c c' hr hr' hB hn hm)
  clear hr hr'
  go_enter Try.func38, Try.ntmps38
  go_wp2_with fail
  refine HE.out.mono ?_
  rintro e w' ⟨rfl, hb⟩
  go_wp2
  go_ret
  exact ⟨rfl, hb⟩

/-- Whether two buckets are the same. -/
def sameBk (a b : BV) : Bool := (a.d == b.d) && (a.x == b.x) && decide (a.ps = b.ps)
theorem sameBk_self (a : BV) : sameBk a a = true := by simp [sameBk]

set_option maxHeartbeats 1600000 in
theorem bkSame_any {w : World} {B n m : Nat} {A A' : Option Addr} {ps qs : List KV} (d x d' x' : Int) (c c' : Nat) (hr : RPairs w B A n ps) (hr' : RPairs w B A' m qs) (hB : B ≤ w.heap.size) (hn : n ≤ maxLen) (hm : m ≤ maxLen) :
    Calls Try.prog 23 #[.agg #[.int .i64 d, .int .i64 x, .slice A n c], .agg #[.int .i64 d', .int .i64 x', .slice A' m c']] w fun e w' => e = .returned (.bool (sameBk ⟨d, x, ps⟩ ⟨d', x', qs⟩)) ∧ Below w.heap.size w w' := by
  have hX : Below w.heap.size w ((w.alloc (BkObj d x A n c)).alloc (BkObj d' x' A' m c')) := ((Below.refl _ _).alloc (Nat.le_refl _) _).alloc (by simp) _
  have hbx := (BkBox.new w d x A n c).below ((Below.refl _ _).alloc (Nat.le_refl _) (BkObj d' x' A' m c'))
  have hby := BkBox.new (w.alloc (BkObj d x A n c)) d' x' A' m c'
  rw [show (w.alloc (BkObj d x A n c)).heap.size = w.heap.size + 1 by simp] at hby
  obtain ⟨x0, x1, x2, _⟩ := hbx.cells
  obtain ⟨y0, y1, y2, _⟩ := hby.cells
  have HE := Lib.hid (bkEqualS_any c c' (hr.below (hX.mono hB)) (hr'.below (hX.mono hB)) (Nat.le_trans hB hX.size) hn hm)
  have HX := Lib.hid hX
  have hs : sameBk ⟨d, x, ps⟩ ⟨d', x', qs⟩ = ((d == d') && (x == x') && decide (ps = qs)) := rfl
  rw [hs]
  clear hs hX hbx hby hr hr'
  generalize decide (ps = qs) = b3 at HE ⊢
  generalize g1 : (d == d') = b1
  generalize g2 : (x == x') = b2
  unfold BkObj at *
  cases b1
  · clear x1 x2 y1 y2
    go_enter Try.func23, Try.ntmps23
    go_wp2
    go_ret
    exact ⟨rfl, HX.out⟩
  cases b2
  · go_enter Try.func23, Try.ntmps23
    go_wp2
    go_ret
    exact ⟨rfl, HX.out⟩
  go_enter Try.func23, Try.ntmps23
  go_wp2_with fail
  refine HE.out.mono ?_
  rintro e w' ⟨rfl, hb⟩
  have HF := Lib.hid (HX.out.trans (hb.mono HX.out.size))
  clear hb x0 x1 x2 y0 y1 y2
  go_wp2
  go_ret
  exact ⟨rfl, HF.out⟩

set_option maxHeartbeats 1600000 in
theorem lawSame_any {w : World} {B n m : Nat} {A A' : Option Addr} {ps qs : List KV} (d x d' x' : Int) (c c' : Nat) (hr : RPairs w B A n ps) (hr' : RPairs w B A' m qs) (hB : B ≤ w.heap.size) (hn : n ≤ maxLen) (hm : m ≤ maxLen) :
    Calls Try.prog 24 #[.agg #[.int .i64 d, .int .i64 x, .slice A n c], .agg #[.int .i64 d', .int .i64 x', .slice A' m c']] w fun e w' => e = .returned (.bool (sameBk ⟨d, x, ps⟩ ⟨d', x', qs⟩)) ∧ Below w.heap.size w w' := by
  have hX : Below w.heap.size w ((w.alloc (BkObj d x A n c)).alloc (BkObj d' x' A' m c')) := ((Below.refl _ _).alloc (Nat.le_refl _) _).alloc (by simp) _
  have hbx := (BkBox.new w d x A n c).below ((Below.refl _ _).alloc (Nat.le_refl _) (BkObj d' x' A' m c'))
  have hby := BkBox.new (w.alloc (BkObj d x A n c)) d' x' A' m c'
  rw [show (w.alloc (BkObj d x A n c)).heap.size = w.heap.size + 1 by simp] at hby
  obtain ⟨x0, x1, x2, _⟩ := hbx.cells
  obtain ⟨y0, y1, y2, _⟩ := hby.cells
  have HE := Lib.hid (plainPairs_any c c' (hr.below (hX.mono hB)) (hr'.below (hX.mono hB)) (Nat.le_trans hB hX.size) hn hm)
  have HX := Lib.hid hX
  have hs : sameBk ⟨d, x, ps⟩ ⟨d', x', qs⟩ = ((d == d') && (x == x') && decide (ps = qs)) := rfl
  rw [hs]
  clear hs hX hbx hby hr hr'
  generalize decide (ps = qs) = b3 at HE ⊢
  generalize g1 : (d == d') = b1
  generalize g2 : (x == x') = b2
  unfold BkObj at *
  cases b1
  · clear x1 x2 y1 y2
    go_enter Try.func24, Try.ntmps24
    go_wp2
    go_ret
    exact ⟨rfl, HX.out⟩
  cases b2
  · go_enter Try.func24, Try.ntmps24
    go_wp2
    go_ret
    exact ⟨rfl, HX.out⟩
  go_enter Try.func24, Try.ntmps24
  go_wp2_with fail
  refine HE.out.mono ?_
  rintro e w' ⟨rfl, hb⟩
  have HF := Lib.hid (HX.out.trans (hb.mono HX.out.size))
  clear hb x0 x1 x2 y0 y1 y2
  go_wp2
  go_ret
  exact ⟨rfl, HF.out⟩
end Go.Proofs.Ythpgcdfbngngjaa
