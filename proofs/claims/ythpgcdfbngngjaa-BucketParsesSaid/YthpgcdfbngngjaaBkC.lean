/-
  Contracts of bucket.pairsMayBe, mayBe and of the plain may: whether a bucket may be. They make memory, and write nothing that was there. Condition: pairs of few bytes; numbers are ints.
-/
import Derived.Test.YthpgcdfbngngjaaBkB
import Derived.Test.YthpgcdfbngngjaaNumA
namespace Go.Proofs.Ythpgcdfbngngjaa
open Go.RowKit
set_option maxRecDepth 100000
set_option linter.unusedVariables false

/-- A pair that is right but for its place. -/
theorem okAt_cases {ps : List KV} {j : Nat} {y : KV} (hy : ps[j]? = some y) : (y.1.length < 1 → okAt ps j = false) ∧ (32 < y.1.length → okAt ps j = false) ∧ (120 < y.2.length → okAt ps j = false) ∧ (findI ps y.1 ≠ (j : Int) → okAt ps j = false) ∧ (1 ≤ y.1.length → y.1.length ≤ 32 → y.2.length ≤ 120 → findI ps y.1 = (j : Int) → okAt ps j = true) := by
  rw [okAt_some hy]
  refine ⟨fun h => ?_, fun h => ?_, fun h => ?_, fun h => ?_, fun h1 h2 h3 h4 => ?_⟩
  · simp; omega
  · simp; omega
  · simp; omega
  · simp [h]
  · simp [h4]; omega

set_option maxHeartbeats 1600000 in
theorem pairsMayBe_any {w : World} {B n : Nat} {A : Option Addr} {ps : List KV} (d x : Int) (c : Nat) (hr : RPairs w B A n ps) (hB : B ≤ w.heap.size) (hm : n ≤ maxLen) :
    Calls Try.prog 43 #[.agg #[.int .i64 d, .int .i64 x, .slice A n c]] w fun e w' => e = .returned (.bool (pairsB ps)) ∧ Below w.heap.size w w' := by
  have HM := Lib.hid hm
  unfold maxLen at hm
  have HR := Lib.hid hr
  have HK := Lib.hid (fun wr => BkBox.kept (w := w) (wr := wr) (n := n) (c := c) (d := d) (x := x) (A := A))
  clear hr
  obtain ⟨x0, x1, x2, _⟩ := (BkBox.new w d x A n c).cells
  unfold BkObj at HK x0 x1 x2
  go_enter Try.func43, Try.ntmps43
  go_wp2_with fail
  clear x0 x1 x2
  go_loopw [8] (fun i wr => ∃ j : Nat, j ≤ n ∧ i = .int .i64 j ∧ Hid (∀ m, m < j → okAt ps m = true) ∧ Hid (Below (w.alloc (.cells #[.int .i64 d, .int .i64 x, .slice A n c] 31 (0, 0))).heap.size (w.alloc (.cells #[.int .i64 d, .int .i64 x, .slice A n c] 31 (0, 0))) wr)) (fun i _ => n - (intOf i).toNat)
  case atStart => exact ⟨0, Nat.zero_le _, rfl, Lib.hid (fun m hm => absurd hm (by omega)), Lib.hid (Below.refl _ _)⟩
  case round =>
    obtain ⟨j, hj, rfl, hbef, hb0⟩ := hrel
    by_cases hlt : j < n
    · obtain ⟨b, off, rfl, hb, hat⟩ := HR.out.2 (by omega)
      obtain ⟨y, hy⟩ : ∃ y, ps[j]? = some y := ⟨_, List.getElem?_eq_getElem (by rw [HR.out.len]; exact hlt)⟩
      obtain ⟨ka, kn, kc, va, vn, vc, h0, h1, h2, ⟨h3a, h3b⟩, h4, ⟨h5a, h5b⟩⟩ := (hat j y hy).keep hb (fun b o hbb => (HK.out wr hb0.out).2.cell (p := ⟨b, o, none⟩) (Nat.lt_of_lt_of_le hbb hB))
      have hb1 := hb0.out.alloc hb0.out.size (.cells #[.slice ka kn kc, .slice va vn vc] 48 (0, 0))
      have hw1 := (HK.out _ hb1).2
      have hk1 : RB (wr.alloc (.cells #[.slice ka kn kc, .slice va vn vc] 48 (0, 0))) B ka kn y.1 := h2.alloc (Nat.le_trans hB (HK.out wr hb0.out).2.size) _
      have HF := Lib.hid (bkFind_any d x c kc (HR.out.below (hw1.mono hB)) (Nat.le_trans hB hw1.size) HM.out hk1)
      obtain ⟨x0, x1, x2, _⟩ := (HK.out _ hb1).1.cells
      have HB1 := Lib.hid hb1
      have ho := okAt_cases hy
      rw [h2.len, h4.len] at ho
      obtain ⟨o1, o2, o3, o4, o5⟩ := ho
      have HO := Lib.hid (And.intro (fun h : okAt ps j = false => pairsB_false (by rw [HR.out.len]; exact hlt) h) (And.intro o1 (And.intro o2 (And.intro o3 (And.intro o4 o5)))))
      unfold maxLen at h3b h5b
      clear o1 o2 o3 o4 o5 hat hy h2 h4 hb1 hw1 hk1
      have hlt' : (j : Int) < (n : Int) := by omega
      by_cases g1 : kn < 1
      · have HE := Lib.hid (HO.out.1 (HO.out.2.1 g1))
        have g1' : (kn : Int) < 1 := by omega
        clear x0 x1 x2
        go_wp2
        go_ret
        rw [HE.out]
        exact ⟨rfl, (HK.out _ HB1.out).2⟩
      by_cases g2 : 32 < kn
      · have HE := Lib.hid (HO.out.1 (HO.out.2.2.1 g2))
        have g1' : ¬ (kn : Int) < 1 := by omega
        have g2' : 32 < (kn : Int) := by omega
        clear x0 x1 x2
        go_wp2
        go_ret
        rw [HE.out]
        exact ⟨rfl, (HK.out _ HB1.out).2⟩
      have g1' : ¬ (kn : Int) < 1 := by omega
      have g2' : ¬ 32 < (kn : Int) := by omega
      by_cases g3 : 120 < vn
      · have HE := Lib.hid (HO.out.1 (HO.out.2.2.2.1 g3))
        have g3' : 120 < (vn : Int) := by omega
        clear x0 x1 x2
        go_wp2
        go_ret
        rw [HE.out]
        exact ⟨rfl, (HK.out _ HB1.out).2⟩
      have g3' : ¬ 120 < (vn : Int) := by omega
      by_cases g4 : findI ps y.1 = (j : Int)
      · have HN := Lib.hid (fun m (hm : m < j + 1) => show okAt ps m = true by
          rcases Nat.lt_or_ge m j with h | h
          · exact hbef.out m h
          · obtain rfl : m = j := by omega
            exact HO.out.2.2.2.2.2 (by omega) (by omega) (by omega) g4)
        rw [g4] at HF
        clear g4
        go_wp2_with fail
        refine HF.out.mono ?_
        rintro e w' ⟨rfl, hb'⟩
        have HE := Lib.hid (HB1.out.trans (hb'.mono HB1.out.size))
        clear hb' h0 h1 x0 x1 x2
        go_wp2
        go_roundw
        case rel => exact ⟨j + 1, by omega, by go_num, HN, HE⟩
        case measure => simp [intOf]; omega
      · have HE := Lib.hid (HO.out.1 (HO.out.2.2.2.2.1 g4))
        have gb := findI_bounds ps y.1
        have hne : (findI ps y.1 != (j : Int)) = true := by simpa using g4
        generalize findI ps y.1 = f at HF hne
        clear g4 gb
        go_wp2_with fail
        refine HF.out.mono ?_
        rintro e w' ⟨rfl, hb'⟩
        have HE2 := Lib.hid ((HK.out _ HB1.out).2.trans (hb'.mono (HK.out _ HB1.out).2.size))
        clear hb' h0 h1 x0 x1 x2
        go_wp2
        go_ret
        rw [HE.out]
        exact ⟨rfl, HE2.out⟩
    · obtain rfl : j = n := by omega
      have HE := Lib.hid (pairsB_true (ps := ps) (fun i hi => hbef.out i (by rw [HR.out.len] at hi; exact hi)))
      go_wp2
      go_ret
      rw [HE.out]
      exact ⟨rfl, (HK.out _ hb0.out).2⟩

set_option maxHeartbeats 1600000 in
theorem bkMayBe_any {w : World} {B n : Nat} {A : Option Addr} {ps : List KV} (d x : Int) (c : Nat) (hr : RPairs w B A n ps) (hB : B ≤ w.heap.size) (hm : n ≤ maxLen) (hsz : szP ps ≤ 4611686018427387904) :
    Calls Try.prog 29 #[.agg #[.int .i64 d, .int .i64 x, .slice A n c]] w fun e w' => e = .returned (.bool (mayBk ⟨d, x, ps⟩)) ∧ Below w.heap.size w w' := by
  have HK := Lib.hid (fun wr => BkBox.kept (w := w) (wr := wr) (n := n) (c := c) (d := d) (x := x) (A := A))
  have HR := Lib.hid (And.intro hr (And.intro hB (And.intro hm hsz)))
  have hF := bkFits_any d x c (hr.below ((HK.out _ (Below.refl _ _)).2.mono hB)) (Nat.le_trans hB (HK.out _ (Below.refl _ _)).2.size) hm hsz
  have HP := Lib.hid (fun wr (hb : Below (w.alloc (BkObj d x A n c)).heap.size (w.alloc (BkObj d x A n c)) wr) => pairsMayBe_any d x c (hr.below ((HK.out _ hb).2.mono hB)) (Nat.le_trans hB (HK.out _ hb).2.size) hm)
  have HF := Lib.hid hF
  obtain ⟨x0, x1, x2, _⟩ := (BkBox.new w d x A n c).cells
  have hmay : mayBk ⟨d, x, ps⟩ = (decide (8 + szP ps ≤ 240) && decide (0 ≤ d) && decide (d ≤ 10) && rightB x 4 && pairsB ps) := rfl
  rw [hmay]
  clear hmay hr hF hB hm hsz
  generalize decide (8 + szP ps ≤ 240) = b1 at HF
  generalize g2 : decide (0 ≤ d) = b2
  generalize g3 : decide (d ≤ 10) = b3
  generalize hr4 : rightB x 4 = b4
  generalize pairsB ps = b5 at HP
  have HR4 := Lib.hid hr4
  clear hr4
  unfold BkObj at *
  go_enter Try.func29, Try.ntmps29
  go_wp2_with fail
  refine HF.out.mono ?_
  rintro e w1 ⟨rfl, hb⟩
  have HB := Lib.hid hb
  clear hb x0 x1 x2 HF
  obtain ⟨x0, x1, x2, _⟩ := (HK.out _ HB.out).1.cells
  cases b1
  · clear x0 x1 x2
    go_wp2
    go_ret
    exact ⟨rfl, (HK.out _ HB.out).2⟩
  cases b2
  · go_wp2
    go_ret
    exact ⟨rfl, (HK.out _ HB.out).2⟩
  cases b3
  · go_wp2
    go_ret
    exact ⟨rfl, (HK.out _ HB.out).2⟩
  cases b4
  · go_wp2_with fail
    refine (Right_no _ _ _ HR4.out).mono ?_
    rintro e w2 ⟨rfl, rfl⟩
    go_wp2
    go_ret
    exact ⟨rfl, (HK.out _ HB.out).2⟩
  go_wp2_with fail
  refine (Right_yes _ _ _ HR4.out).mono ?_
  rintro e w2 ⟨rfl, rfl⟩
  go_wp2_with fail
  refine (HP.out _ HB.out).mono ?_
  rintro e w2 ⟨rfl, hb⟩
  have HE := Lib.hid ((HK.out _ HB.out).2.trans (hb.mono (HK.out _ HB.out).2.size))
  clear hb x0 x1 x2
  go_wp2
  go_ret
  exact ⟨rfl, HE.out⟩

set_option maxHeartbeats 3200000 in
theorem bkRefMay_any {w : World} {B n : Nat} {A : Option Addr} {ps : List KV} (d x : Int) (c : Nat) (hr : RPairs w B A n ps) (hB : B ≤ w.heap.size) (hm : n ≤ maxLen) (hsz : szP ps ≤ 4611686018427387904) :
    Calls Try.prog 32 #[.agg #[.int .i64 d, .int .i64 x, .slice A n c]] w fun e w' => e = .returned (.bool (mayBk ⟨d, x, ps⟩)) ∧ Below w.heap.size w w' := by
  have HM := Lib.hid hm
  have HK := Lib.hid (fun wr => BkBox.kept (w := w) (wr := wr) (n := n) (c := c) (d := d) (x := x) (A := A))
  have HF := Lib.hid (refBkSize_any d x c (hr.below ((HK.out _ (Below.refl _ _)).2.mono hB)) (Nat.le_trans hB (HK.out _ (Below.refl _ _)).2.size) hm hsz)
  have HR := Lib.hid hr
  obtain ⟨x0, x1, x2, _⟩ := (BkBox.new w d x A n c).cells
  have hq : rightB x 4 = (decide (0 ≤ x) && decide (x < 4294967296)) := by
    unfold rightB
    by_cases a : 0 ≤ x <;> by_cases b : x < 4294967296 <;> simp [a, b]
  have hmay : mayBk ⟨d, x, ps⟩ = (decide (8 + szP ps ≤ 240) && decide (0 ≤ d) && decide (d ≤ 10) && rightB x 4 && pairsB ps) := rfl
  rw [hmay, hq]
  clear hmay hr hq
  unfold maxLen at hm
  have hsz8 : 8 + szP ps ≤ 4611686018427387912 := by omega
  clear hsz
  generalize 8 + szP ps = s at HF hsz8 ⊢
  generalize q1 : decide (s ≤ 240) = b1
  generalize q2 : decide (0 ≤ d) = b2
  generalize q3 : decide (d ≤ 10) = b3
  generalize q4 : decide (0 ≤ x) = b4
  generalize q5 : decide (x < 4294967296) = b5
  generalize q6 : pairsB ps = b6
  unfold BkObj at *
  go_enter Try.func32, Try.ntmps32
  go_wp2_with fail
  refine HF.out.mono ?_
  rintro e w1 ⟨rfl, hb⟩
  have HB := Lib.hid hb
  clear hb x0 x1 x2 HF
  obtain ⟨x0, x1, x2, _⟩ := (HK.out _ HB.out).1.cells
  cases b1
  · have g1' : 240 < (s : Int) := by have := of_decide_eq_false q1; omega
    clear x0 x1 x2 q1 q2 q3 q4 q5 q6
    go_wp2
    go_ret
    exact ⟨rfl, (HK.out _ HB.out).2⟩
  have g1' : ¬ 240 < (s : Int) := by have := of_decide_eq_true q1; omega
  cases b2
  · have g2' : d < 0 := by have := of_decide_eq_false q2; omega
    clear q1 q2 q3 q4 q5 q6
    go_wp2
    go_ret
    exact ⟨rfl, (HK.out _ HB.out).2⟩
  have g2' : ¬ d < 0 := by have := of_decide_eq_true q2; omega
  cases b3
  · have g3' : 10 < d := by have := of_decide_eq_false q3; omega
    clear q1 q2 q3 q4 q5 q6
    go_wp2
    go_ret
    exact ⟨rfl, (HK.out _ HB.out).2⟩
  have g3' : ¬ 10 < d := by have := of_decide_eq_true q3; omega
  cases b4
  · have g4' : x < 0 := by have := of_decide_eq_false q4; omega
    clear q1 q2 q3 q4 q5 q6
    go_wp2
    go_ret
    exact ⟨rfl, (HK.out _ HB.out).2⟩
  have g4' : ¬ x < 0 := by have := of_decide_eq_true q4; omega
  cases b5
  · have g5' : 4294967296 ≤ x := by have := of_decide_eq_false q5; omega
    clear q1 q2 q3 q4 q5 q6
    go_wp2
    go_ret
    exact ⟨rfl, (HK.out _ HB.out).2⟩
  have g5' : ¬ 4294967296 ≤ x := by have := of_decide_eq_true q5; omega
  have Q6 := Lib.hid q6
  clear q1 q2 q3 q4 q5 q6
  go_wp2_with fail
  clear x0 x1 x2
  go_loopw [3] (fun i wr => ∃ j : Nat, j ≤ n ∧ i = .int .i64 j ∧ Hid (∀ m, m < j → okAt ps m = true) ∧ Hid (Below (w.alloc (.cells #[.int .i64 d, .int .i64 x, .slice A n c] 31 (0, 0))).heap.size (w.alloc (.cells #[.int .i64 d, .int .i64 x, .slice A n c] 31 (0, 0))) wr)) (fun i _ => n - (intOf i).toNat)
  case atStart => exact ⟨0, Nat.zero_le _, rfl, Lib.hid (fun m hm => absurd hm (by omega)), HB⟩
  case round =>
    obtain ⟨j, hj, rfl, hbef, hb0⟩ := hrel
    obtain ⟨x0, x1, x2, _⟩ := (HK.out _ hb0.out).1.cells
    by_cases hlt : j < n
    · obtain ⟨b, off, rfl, hb, hat⟩ := HR.out.2 (by omega)
      obtain ⟨y, hy⟩ : ∃ y, ps[j]? = some y := ⟨_, List.getElem?_eq_getElem (by rw [HR.out.len]; exact hlt)⟩
      obtain ⟨ka, kn, kc, va, vn, vc, h0, h1, h2, ⟨h3a, h3b⟩, h4, ⟨h5a, h5b⟩⟩ := (hat j y hy).keep hb (fun b o hbb => (HK.out wr hb0.out).2.cell (p := ⟨b, o, none⟩) (Nat.lt_of_lt_of_le hbb hB))
      have hb1 := hb0.out.alloc hb0.out.size (.cells #[.slice ka kn kc, .slice va vn vc] 48 (0, 0))
      have hw1 := (HK.out _ hb1).2
      have hk1 : RB (wr.alloc (.cells #[.slice ka kn kc, .slice va vn vc] 48 (0, 0))) B ka kn y.1 := h2.alloc (Nat.le_trans hB (HK.out wr hb0.out).2.size) _
      have HF := Lib.hid (refBkFind_any d x c kc (HR.out.below (hw1.mono hB)) (Nat.le_trans hB hw1.size) HM.out hk1)
      obtain ⟨y0, y1, y2, _⟩ := (HK.out _ hb1).1.cells
      have HB1 := Lib.hid hb1
      have ho := okAt_cases hy
      rw [h2.len, h4.len] at ho
      obtain ⟨o1, o2, o3, o4, o5⟩ := ho
      have HO := Lib.hid (And.intro (fun h : okAt ps j = false => pairsB_false (by rw [HR.out.len]; exact hlt) h) (And.intro o1 (And.intro o2 (And.intro o3 (And.intro o4 o5)))))
      unfold maxLen at h3b h5b
      clear o1 o2 o3 o4 o5 hat hy h2 h4 hb1 hw1 hk1
      have hlt' : (j : Int) < (n : Int) := by omega
      by_cases g1 : kn < 1
      · have HE := Lib.hid (Q6.out.symm.trans (HO.out.1 (HO.out.2.1 g1)))
        have g1' : (kn : Int) < 1 := by omega
        go_wp2
        go_ret
        rw [HE.out]
        exact ⟨rfl, (HK.out _ HB1.out).2⟩
      by_cases g2 : 32 < kn
      · have HE := Lib.hid (Q6.out.symm.trans (HO.out.1 (HO.out.2.2.1 g2)))
        have g1' : ¬ (kn : Int) < 1 := by omega
        have g2' : 32 < (kn : Int) := by omega
        go_wp2
        go_ret
        rw [HE.out]
        exact ⟨rfl, (HK.out _ HB1.out).2⟩
      have g1' : ¬ (kn : Int) < 1 := by omega
      have g2' : ¬ 32 < (kn : Int) := by omega
      by_cases g3 : 120 < vn
      · have HE := Lib.hid (Q6.out.symm.trans (HO.out.1 (HO.out.2.2.2.1 g3)))
        have g3' : 120 < (vn : Int) := by omega
        go_wp2
        go_ret
        rw [HE.out]
        exact ⟨rfl, (HK.out _ HB1.out).2⟩
      have g3' : ¬ 120 < (vn : Int) := by omega
      by_cases g4 : findI ps y.1 = (j : Int)
      · have HN := Lib.hid (fun m (hm : m < j + 1) => show okAt ps m = true by
          rcases Nat.lt_or_ge m j with h | h
          · exact hbef.out m h
          · obtain rfl : m = j := by omega
            exact HO.out.2.2.2.2.2 (by omega) (by omega) (by omega) g4)
        rw [g4] at HF
        clear g4
        go_wp2_with fail
        refine HF.out.mono ?_
        rintro e w' ⟨rfl, hb'⟩
        have HE := Lib.hid (HB1.out.trans (hb'.mono HB1.out.size))
        clear hb' h0 h1 x0 x1 x2 y0 y1 y2
        go_wp2
        go_roundw
        case rel => exact ⟨j + 1, by omega, by go_num, HN, HE⟩
        case measure => simp [intOf]; omega
      · have HE := Lib.hid (Q6.out.symm.trans (HO.out.1 (HO.out.2.2.2.2.1 g4)))
        have gb := findI_bounds ps y.1
        have hne : (findI ps y.1 != (j : Int)) = true := by simpa using g4
        generalize findI ps y.1 = f at HF hne
        clear g4 gb
        go_wp2_with fail
        refine HF.out.mono ?_
        rintro e w' ⟨rfl, hb'⟩
        have HE2 := Lib.hid ((HK.out _ HB1.out).2.trans (hb'.mono (HK.out _ HB1.out).2.size))
        clear hb' h0 h1 x0 x1 x2 y0 y1 y2
        go_wp2
        go_ret
        rw [HE.out]
        exact ⟨rfl, HE2.out⟩
    · obtain rfl : j = n := by omega
      have HE := Lib.hid (Q6.out.symm.trans (pairsB_true (ps := ps) (fun i hi => hbef.out i (by rw [HR.out.len] at hi; exact hi))))
      go_wp2
      go_ret
      rw [HE.out]
      exact ⟨rfl, (HK.out _ hb0.out).2⟩
end Go.Proofs.Ythpgcdfbngngjaa
