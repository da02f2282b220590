/-
  The texts BkB, BkC, Blk, BkD, BkE joined. Conditions: those that each part says at its head.
-/
import Derived.Test.YtinhdimalhfgkaaGreatDoorG19
import Derived.Test.YtinhdimalhfgkaaGreatDoorG6
import Derived.Test.YtinhdimalhfgkaaGreatDoorG2
import Derived.BigQuiet
import Derived.Laws.CopyOwn
import Derived.Deep.RegionLaw
import Derived.Deep.RegionHeld3
import Derived.Lib.BufferWrite

/-
  Contracts of bucket.Find and of the plain Find: the place of a key among a bucket's pairs. They make memory, and write nothing that was there. No condition.
-/
namespace Go.Proofs.YtinhdimalhfgkaaGreatDoor
open Go.RowKit
set_option maxRecDepth 100000
set_option linter.unusedVariables false

theorem pair_box (w : World) (u v : Value) : (w.alloc (.cells #[u, v] 95 (0, 0))).cell? ⟨w.heap.size, 0, none⟩ = some u ∧ (w.alloc (.cells #[u, v] 95 (0, 0))).cell? ⟨w.heap.size, 1, none⟩ = some v := by
  have h := heap_alloc_new w (.cells #[u, v] 95 (0, 0))
  constructor <;> (rw [cell_of_row _ _ _ _ _ (0, 0) h]; rfl)

set_option maxHeartbeats 400000 in
theorem find1_any {w : World} {B kn kc : Nat} {ka : Option Addr} {k key : List Int} (v : Value) (kx : Addr) (KA : Option Addr) (Kn Kc : Nat) (hk : RB w B ka kn k) (hB : B ≤ w.heap.size) (hx : w.cell? kx = some (.slice KA Kn Kc)) (hkey : RB w B KA Kn key) :
    Calls Tryz.prog 177 #[.agg #[.slice ka kn kc, v], .pointer (some kx)] w fun e w' => e = .returned (.bool (decide (k = key))) ∧ Below w.heap.size w w' := by
  have hX : Below w.heap.size w (w.alloc (.cells #[.slice ka kn kc, v] 95 (0, 0))) := (Below.refl _ _).alloc (Nat.le_refl _) _
  obtain ⟨x0, x1⟩ := pair_box w (.slice ka kn kc) v
  have hx' := (World.cell?_alloc_lt w (.cells #[.slice ka kn kc, v] 95 (0, 0)) kx (World.block_lt_of_cell? _ _ hx)).trans hx
  have HE := Lib.hid (Equal_any kc Kc (hk.below (hX.mono hB)) (hkey.below (hX.mono hB)))
  have HX := Lib.hid hX
  clear hX hk hkey hx
  go_enter Tryz.func177, Tryz.ntmps177
  go_wp2_with fail
  refine HE.out.mono ?_
  rintro e w' ⟨rfl, rfl⟩
  clear x0 x1 hx'
  go_wp2
  go_ret
  exact ⟨rfl, HX.out⟩

set_option maxHeartbeats 800000 in
theorem findIdx_any {w : World} {B n : Nat} {A : Option Addr} {ps : List KV} {key : List Int} (c : Nat) (kx : Addr) (KA : Option Addr) (Kn Kc : Nat) (hr : RPairs w B A n ps) (hm : n ≤ maxLen) (hB : B ≤ w.heap.size) (hx : w.cell? kx = some (.slice KA Kn Kc)) (hkey : RB w B KA Kn key) :
    Calls Tryz.prog 128 #[.slice A n c, .func (.func 177) #[] #[.pointer (some kx)]] w fun e w' => e = .returned (.int .i64 (findI ps key)) ∧ Below w.heap.size w w' := by
  unfold maxLen at hm
  have HKX := Lib.hid (And.intro hx (And.intro (World.block_lt_of_cell? _ _ hx) hkey))
  have HR := Lib.hid hr
  clear hr hx hkey
  go_enter Tryz.func128, Tryz.ntmps128
  go_wp2_with fail
  go_loopw [8] (fun i wr => ∃ j : Nat, j ≤ n ∧ i = .int .i64 j ∧ Hid (∀ (m : Nat) (y : KV), m < j → ps[m]? = some y → y.1 ≠ key) ∧ Hid (Below w.heap.size w wr)) (fun i _ => n - (intOf i).toNat)
  case atStart => exact ⟨0, Nat.zero_le _, rfl, Lib.hid (fun m y hm => absurd hm (by omega)), Lib.hid (Below.refl _ _)⟩
  case round =>
    obtain ⟨j, hj, rfl, hbef, hbw⟩ := hrel
    by_cases hlt : j < n
    · obtain ⟨b, off, rfl, hb, hat⟩ := HR.out.2 (by omega)
      obtain ⟨y, hy⟩ : ∃ y, ps[j]? = some y := ⟨_, List.getElem?_eq_getElem (by rw [HR.out.len]; exact hlt)⟩
      obtain ⟨ka, kn, kc, va, vn, vc, h0, h1, h2, h3, h4, h5⟩ := (hat j y hy).keep hb (fun b o hbb => hbw.out.cell (p := ⟨b, o, none⟩) (Nat.lt_of_lt_of_le hbb hB))
      have HF := Lib.hid (find1_any (kc := kc) (.slice va vn vc) kx KA Kn Kc h2 (Nat.le_trans hB hbw.out.size) ((hbw.out.cell HKX.out.2.1).trans HKX.out.1) (HKX.out.2.2.below (hbw.out.mono hB)))
      have HY := Lib.hid hy
      clear hat hy h2 h3 h4 h5
      have hlt' : (j : Int) < (n : Int) := by omega
      by_cases hk : y.1 = key
      · rw [decide_eq_true hk] at HF
        have HEX := Lib.hid (findI_at HY.out hk hbef.out)
        clear hk
        go_wp2_with fail
        refine HF.out.mono ?_
        rintro e w' ⟨rfl, hb'⟩
        have HE := Lib.hid (hbw.out.trans (hb'.mono hbw.out.size))
        clear hb' h0 h1
        go_wp2
        go_ret
        rw [HEX.out]
        exact ⟨rfl, HE.out⟩
      · rw [decide_eq_false hk] at HF
        have hn := Lib.hid (fun (m : Nat) (z : KV) (hm : m < j + 1) => show ps[m]? = some z → z.1 ≠ key by
          intro hz
          rcases Nat.lt_or_ge m j with h | h
          · exact hbef.out m z h hz
          · obtain rfl : m = j := by omega
            rw [HY.out] at hz
            cases hz
            exact hk)
        clear hk
        go_wp2_with fail
        refine HF.out.mono ?_
        rintro e w' ⟨rfl, hb'⟩
        have HE := Lib.hid (hbw.out.trans (hb'.mono hbw.out.size))
        clear hb' h0 h1
        go_wp2
        go_roundw
        case rel => exact ⟨j + 1, by omega, by go_num, hn, HE⟩
        case measure => simp [intOf]; omega
    · obtain rfl : j = n := by omega
      have HEX := Lib.hid (findI_none (ps := ps) (key := key) (fun m y hy => hbef.out m y (by have := (List.getElem?_eq_some_iff.1 hy).1; rw [HR.out.len] at this; exact this) hy))
      go_wp2
      go_ret
      rw [HEX.out]
      exact ⟨rfl, hbw.out⟩

set_option maxHeartbeats 800000 in
theorem bkFind_any {w : World} {B n Kn : Nat} {A KA : Option Addr} {ps : List KV} {key : List Int} (d x : Int) (c Kc : Nat) (hr : RPairs w B A n ps) (hB : B ≤ w.heap.size) (hm : n ≤ maxLen) (hkey : RB w B KA Kn key) :
    Calls Tryz.prog 118 #[.agg #[.int .i64 d, .int .i64 x, .slice A n c], .slice KA Kn Kc] w fun e w' => e = .returned (.int .i64 (findI ps key)) ∧ Below w.heap.size w w' := by
  have hX : Below w.heap.size w ((w.alloc (BkObj d x A n c)).alloc (.cells #[.slice KA Kn Kc] 46 (0, 0))) := ((Below.refl _ _).alloc (Nat.le_refl _) _).alloc (by simp) _
  have hbx : BkBox ((w.alloc (BkObj d x A n c)).alloc (.cells #[.slice KA Kn Kc] 46 (0, 0))) w.heap.size d x A n c := (BkBox.new w d x A n c).below ((Below.refl _ _).alloc (Nat.le_refl _) _)
  have hkx : ((w.alloc (BkObj d x A n c)).alloc (.cells #[.slice KA Kn Kc] 46 (0, 0))).cell? ⟨w.heap.size + 1, 0, none⟩ = some (.slice KA Kn Kc) := by
    have h := heap_alloc_new (w.alloc (BkObj d x A n c)) (.cells #[.slice KA Kn Kc] 46 (0, 0))
    have e : (w.alloc (BkObj d x A n c)).heap.size = w.heap.size + 1 := by simp
    rw [e] at h
    rw [cell_of_row _ _ _ _ _ (0, 0) h]
    rfl
  have HF := Lib.hid (findIdx_any c ⟨w.heap.size + 1, 0, none⟩ KA Kn Kc (hr.below (hX.mono hB)) hm (Nat.le_trans hB hX.size) hkx (hkey.below (hX.mono hB)))
  obtain ⟨x0, x1, x2, _⟩ := hbx.cells
  have HX := Lib.hid hX
  clear hX hbx hkx hr hkey
  unfold BkObj at *
  go_enter Tryz.func118, Tryz.ntmps118
  go_wp2_with fail
  refine HF.out.mono ?_
  rintro e w' ⟨rfl, hb⟩
  have HE := Lib.hid (HX.out.trans (hb.mono HX.out.size))
  clear hb x0 x1 x2
  go_wp2
  go_ret
  exact ⟨rfl, HE.out⟩

theorem RB.drewN {w : World} {B n : Nat} {A : Option Addr} {l : List Int} (h : RB w B A n l) (m : Nat) : RB (w.drewN m) B A n l := h.keep fun _ _ _ => rfl
theorem str_eq {l m : List Int} (hl : AllBytes l) (hm : AllBytes m) : ((strOfNums l).toList == (strOfNums m).toList) = decide (l = m) := by
  by_cases e : l = m
  · subst e; simp
  · have : ¬ (strOfNums l).toList = (strOfNums m).toList := fun e' => e (strOfNums_inj hl hm e')
    simp [e, this]

set_option maxHeartbeats 1600000 in
theorem refBkFind_any {w : World} {B n Kn : Nat} {A KA : Option Addr} {ps : List KV} {key : List Int} (d x : Int) (c Kc : Nat) (hr : RPairs w B A n ps) (hB : B ≤ w.heap.size) (hm : n ≤ maxLen) (hkey : RB w B KA Kn key) :
    Calls Tryz.prog 215 #[.agg #[.int .i64 d, .int .i64 x, .slice A n c], .slice KA Kn Kc] w fun e w' => e = .returned (.int .i64 (findI ps key)) ∧ Below w.heap.size w w' := by
  unfold maxLen at hm
  have HR := Lib.hid hr
  have HKEY := Lib.hid hkey
  have HK := Lib.hid (fun wr => BkBox.kept (w := w) (wr := wr) (n := n) (c := c) (d := d) (x := x) (A := A))
  clear hr hkey
  unfold BkObj at HK
  go_enter Tryz.func215, Tryz.ntmps215
  go_wp2_with fail
  go_loopw [5] (fun i wr => ∃ j : Nat, j ≤ n ∧ i = .int .i64 j ∧ Hid (∀ (m : Nat) (y : KV), m < j → ps[m]? = some y → y.1 ≠ key) ∧ Hid (Below (w.alloc (.cells #[.int .i64 d, .int .i64 x, .slice A n c] 90 (0, 0))).heap.size (w.alloc (.cells #[.int .i64 d, .int .i64 x, .slice A n c] 90 (0, 0))) wr)) (fun i _ => n - (intOf i).toNat)
  case atStart => exact ⟨0, Nat.zero_le _, rfl, Lib.hid (fun m y hm => absurd hm (by omega)), Lib.hid (Below.refl _ _)⟩
  case round =>
    obtain ⟨j, hj, rfl, hbef, hb0⟩ := hrel
    obtain ⟨hbx, hbw⟩ := HK.out wr hb0.out
    obtain ⟨x0, x1, x2, _⟩ := hbx.cells
    by_cases hlt : j < n
    · obtain ⟨b, off, rfl, hb, hat⟩ := HR.out.2 (by omega)
      obtain ⟨y, hy⟩ : ∃ y, ps[j]? = some y := ⟨_, List.getElem?_eq_getElem (by rw [HR.out.len]; exact hlt)⟩
      obtain ⟨ka, kn, kc, va, vn, vc, h0, h1, h2, h3, h4, h5⟩ := (hat j y hy).keep hb (fun b o hbb => hbw.cell (p := ⟨b, o, none⟩) (Nat.lt_of_lt_of_le hbb hB))
      have c1 := fun m => (h2.drewN m).conv kc
      have c2 := fun m => ((HKEY.out.below (hbw.mono hB)).drewN m).conv Kc
      have HS := Lib.hid (str_eq h2.bytes HKEY.out.bytes)
      have HY := Lib.hid hy
      clear hat hy h2 h3 h4 h5 hbw hbx
      have hlt' : (j : Int) < (n : Int) := by omega
      by_cases hk : y.1 = key
      · have hs : ((strOfNums y.1).toList == (strOfNums key).toList) = true := by rw [HS.out, decide_eq_true hk]
        have HEX := Lib.hid (findI_at HY.out hk hbef.out)
        clear hk HS
        go_wp2_with fail
        go_quiet (fail)
        go_wp2
        go_ret
        rw [HEX.out]
        exact ⟨rfl, (HK.out _ (below_drewN hb0.out _)).2⟩
      · have hs : ((strOfNums y.1).toList == (strOfNums key).toList) = false := by rw [HS.out, decide_eq_false hk]
        have hn := Lib.hid (fun (m : Nat) (z : KV) (hm : m < j + 1) => show ps[m]? = some z → z.1 ≠ key by
          intro hz
          rcases Nat.lt_or_ge m j with h | h
          · exact hbef.out m z h hz
          · obtain rfl : m = j := by omega
            rw [HY.out] at hz
            cases hz
            exact hk)
        clear hk HS
        go_wp2_with fail
        go_quiet (fail)
        go_wp2
        go_roundw
        case rel => exact ⟨j + 1, by omega, by go_num, hn, Lib.hid (below_drewN hb0.out _)⟩
        case measure => simp [intOf]; omega
    · obtain rfl : j = n := by omega
      have HEX := Lib.hid (findI_none (ps := ps) (key := key) (fun m y hy => hbef.out m y (by have := (List.getElem?_eq_some_iff.1 hy).1; rw [HR.out.len] at this; exact this) hy))
      have HB := Lib.hid hbw
      clear hbw hbx
      go_wp2
      go_ret
      rw [HEX.out]
      exact ⟨rfl, HB.out⟩
end Go.Proofs.YtinhdimalhfgkaaGreatDoor

/-
  Contracts of bucket.pairsMayBe, mayBe and of the plain may: whether a bucket may be. They make memory, and write nothing that was there. Condition: pairs of few bytes; numbers are ints.
-/
namespace Go.Proofs.YtinhdimalhfgkaaGreatDoor
open Go.RowKit
set_option maxRecDepth 100000
set_option linter.unusedVariables false

/-- A pair that is right but for its place. -/
theorem okAt_cases {ps : List KV} {j : Nat} {y : KV} (hy : ps[j]? = some y) : (y.1.length < 1 → okAt ps j = false) ∧ (32 < y.1.length → okAt ps j = false) ∧ (120 < y.2.length → okAt ps j = false) ∧ (findI ps y.1 ≠ (j : Int) → okAt ps j = false) ∧ (1 ≤ y.1.length → y.1.length ≤ 32 → y.2.length ≤ 120 → findI ps y.1 = (j : Int) → okAt ps j = true) := by
  rw [okAt_some hy]
  refine ⟨fun h => ?_, fun h => ?_, fun h => ?_, fun h => ?_, fun h1 h2 h3 h4 => ?_⟩
  · simp; omega
  · simp; omega
  · simp; omega
  · simp [h]
  · simp [h4]; omega

set_option maxHeartbeats 1600000 in
theorem pairsMayBe_any {w : World} {B n : Nat} {A : Option Addr} {ps : List KV} (d x : Int) (c : Nat) (hr : RPairs w B A n ps) (hB : B ≤ w.heap.size) (hm : n ≤ maxLen) :
    Calls Tryz.prog 225 #[.agg #[.int .i64 d, .int .i64 x, .slice A n c]] w fun e w' => e = .returned (.bool (pairsB ps)) ∧ Below w.heap.size w w' := by
  have HM := Lib.hid hm
  unfold maxLen at hm
  have HR := Lib.hid hr
  have HK := Lib.hid (fun wr => BkBox.kept (w := w) (wr := wr) (n := n) (c := c) (d := d) (x := x) (A := A))
  clear hr
  obtain ⟨x0, x1, x2, _⟩ := (BkBox.new w d x A n c).cells
  unfold BkObj at HK x0 x1 x2
  go_enter Tryz.func225, Tryz.ntmps225
  go_wp2_with fail
  clear x0 x1 x2
  go_loopw [8] (fun i wr => ∃ j : Nat, j ≤ n ∧ i = .int .i64 j ∧ Hid (∀ m, m < j → okAt ps m = true) ∧ Hid (Below (w.alloc (.cells #[.int .i64 d, .int .i64 x, .slice A n c] 90 (0, 0))).heap.size (w.alloc (.cells #[.int .i64 d, .int .i64 x, .slice A n c] 90 (0, 0))) wr)) (fun i _ => n - (intOf i).toNat)
  case atStart => exact ⟨0, Nat.zero_le _, rfl, Lib.hid (fun m hm => absurd hm (by omega)), Lib.hid (Below.refl _ _)⟩
  case round =>
    obtain ⟨j, hj, rfl, hbef, hb0⟩ := hrel
    by_cases hlt : j < n
    · obtain ⟨b, off, rfl, hb, hat⟩ := HR.out.2 (by omega)
      obtain ⟨y, hy⟩ : ∃ y, ps[j]? = some y := ⟨_, List.getElem?_eq_getElem (by rw [HR.out.len]; exact hlt)⟩
      obtain ⟨ka, kn, kc, va, vn, vc, h0, h1, h2, ⟨h3a, h3b⟩, h4, ⟨h5a, h5b⟩⟩ := (hat j y hy).keep hb (fun b o hbb => (HK.out wr hb0.out).2.cell (p := ⟨b, o, none⟩) (Nat.lt_of_lt_of_le hbb hB))
      have hb1 := hb0.out.alloc hb0.out.size (.cells #[.slice ka kn kc, .slice va vn vc] 95 (0, 0))
      have hw1 := (HK.out _ hb1).2
      have hk1 : RB (wr.alloc (.cells #[.slice ka kn kc, .slice va vn vc] 95 (0, 0))) B ka kn y.1 := h2.alloc (Nat.le_trans hB (HK.out wr hb0.out).2.size) _
      have HF := Lib.hid (bkFind_any d x c kc (HR.out.below (hw1.mono hB)) (Nat.le_trans hB hw1.size) HM.out hk1)
      obtain ⟨x0, x1, x2, _⟩ := (HK.out _ hb1).1.cells
      have HB1 := Lib.hid hb1
      have ho := okAt_cases hy
      rw [h2.len, h4.len] at ho
      obtain ⟨o1, o2, o3, o4, o5⟩ := ho
      have HO := Lib.hid (And.intro (fun h : okAt ps j = false => pairsB_false (by rw [HR.out.len]; exact hlt) h) (And.intro o1 (And.intro o2 (And.intro o3 (And.intro o4 o5)))))
      unfold maxLen at h3b h5b
      clear o1 o2 o3 o4 o5 hat hy h2 h4 hb1 hw1 hk1
      have hlt' : (j : Int) < (n : Int) := by omega
      by_cases g1 : kn < 1
      · have HE := Lib.hid (HO.out.1 (HO.out.2.1 g1))
        have g1' : (kn : Int) < 1 := by omega
        clear x0 x1 x2
        go_wp2
        go_ret
        rw [HE.out]
        exact ⟨rfl, (HK.out _ HB1.out).2⟩
      by_cases g2 : 32 < kn
      · have HE := Lib.hid (HO.out.1 (HO.out.2.2.1 g2))
        have g1' : ¬ (kn : Int) < 1 := by omega
        have g2' : 32 < (kn : Int) := by omega
        clear x0 x1 x2
        go_wp2
        go_ret
        rw [HE.out]
        exact ⟨rfl, (HK.out _ HB1.out).2⟩
      have g1' : ¬ (kn : Int) < 1 := by omega
      have g2' : ¬ 32 < (kn : Int) := by omega
      by_cases g3 : 120 < vn
      · have HE := Lib.hid (HO.out.1 (HO.out.2.2.2.1 g3))
        have g3' : 120 < (vn : Int) := by omega
        clear x0 x1 x2
        go_wp2
        go_ret
        rw [HE.out]
        exact ⟨rfl, (HK.out _ HB1.out).2⟩
      have g3' : ¬ 120 < (vn : Int) := by omega
      by_cases g4 : findI ps y.1 = (j : Int)
      · have HN := Lib.hid (fun m (hm : m < j + 1) => show okAt ps m = true by
          rcases Nat.lt_or_ge m j with h | h
          · exact hbef.out m h
          · obtain rfl : m = j := by omega
            exact HO.out.2.2.2.2.2 (by omega) (by omega) (by omega) g4)
        rw [g4] at HF
        clear g4
        go_wp2_with fail
        refine HF.out.mono ?_
        rintro e w' ⟨rfl, hb'⟩
        have HE := Lib.hid (HB1.out.trans (hb'.mono HB1.out.size))
        clear hb' h0 h1 x0 x1 x2
        go_wp2
        go_roundw
        case rel => exact ⟨j + 1, by omega, by go_num, HN, HE⟩
        case measure => simp [intOf]; omega
      · have HE := Lib.hid (HO.out.1 (HO.out.2.2.2.2.1 g4))
        have gb := findI_bounds ps y.1
        have hne : (findI ps y.1 != (j : Int)) = true := by simpa using g4
        generalize findI ps y.1 = f at HF hne
        clear g4 gb
        go_wp2_with fail
        refine HF.out.mono ?_
        rintro e w' ⟨rfl, hb'⟩
        have HE2 := Lib.hid ((HK.out _ HB1.out).2.trans (hb'.mono (HK.out _ HB1.out).2.size))
        clear hb' h0 h1 x0 x1 x2
        go_wp2
        go_ret
        rw [HE.out]
        exact ⟨rfl, HE2.out⟩
    · obtain rfl : j = n := by omega
      have HE := Lib.hid (pairsB_true (ps := ps) (fun i hi => hbef.out i (by rw [HR.out.len] at hi; exact hi)))
      go_wp2
      go_ret
      rw [HE.out]
      exact ⟨rfl, (HK.out _ hb0.out).2⟩

set_option maxHeartbeats 1600000 in
theorem bkMayBe_any {w : World} {B n : Nat} {A : Option Addr} {ps : List KV} (d x : Int) (c : Nat) (hr : RPairs w B A n ps) (hB : B ≤ w.heap.size) (hm : n ≤ maxLen) (hsz : szP ps ≤ 4611686018427387904) :
    Calls Tryz.prog 202 #[.agg #[.int .i64 d, .int .i64 x, .slice A n c]] w fun e w' => e = .returned (.bool (mayBk ⟨d, x, ps⟩)) ∧ Below w.heap.size w w' := by
  have HK := Lib.hid (fun wr => BkBox.kept (w := w) (wr := wr) (n := n) (c := c) (d := d) (x := x) (A := A))
  have HR := Lib.hid (And.intro hr (And.intro hB (And.intro hm hsz)))
  have hF := bkFits_any d x c (hr.below ((HK.out _ (Below.refl _ _)).2.mono hB)) (Nat.le_trans hB (HK.out _ (Below.refl _ _)).2.size) hm hsz
  have HP := Lib.hid (fun wr (hb : Below (w.alloc (BkObj d x A n c)).heap.size (w.alloc (BkObj d x A n c)) wr) => pairsMayBe_any d x c (hr.below ((HK.out _ hb).2.mono hB)) (Nat.le_trans hB (HK.out _ hb).2.size) hm)
  have HF := Lib.hid hF
  obtain ⟨x0, x1, x2, _⟩ := (BkBox.new w d x A n c).cells
  have hmay : mayBk ⟨d, x, ps⟩ = (decide (8 + szP ps ≤ 240) && decide (0 ≤ d) && decide (d ≤ 10) && rightB x 4 && pairsB ps) := rfl
  rw [hmay]
  clear hmay hr hF hB hm hsz
  generalize decide (8 + szP ps ≤ 240) = b1 at HF
  generalize g2 : decide (0 ≤ d) = b2
  generalize g3 : decide (d ≤ 10) = b3
  generalize hr4 : rightB x 4 = b4
  generalize pairsB ps = b5 at HP
  have HR4 := Lib.hid hr4
  clear hr4
  unfold BkObj at *
  go_enter Tryz.func202, Tryz.ntmps202
  go_wp2_with fail
  refine HF.out.mono ?_
  rintro e w1 ⟨rfl, hb⟩
  have HB := Lib.hid hb
  clear hb x0 x1 x2 HF
  obtain ⟨x0, x1, x2, _⟩ := (HK.out _ HB.out).1.cells
  cases b1
  · clear x0 x1 x2
    go_wp2
    go_ret
    exact ⟨rfl, (HK.out _ HB.out).2⟩
  cases b2
  · go_wp2
    go_ret
    exact ⟨rfl, (HK.out _ HB.out).2⟩
  cases b3
  · go_wp2
    go_ret
    exact ⟨rfl, (HK.out _ HB.out).2⟩
  cases b4
  · go_wp2_with fail
    refine (Right_no _ _ _ HR4.out).mono ?_
    rintro e w2 ⟨rfl, rfl⟩
    go_wp2
    go_ret
    exact ⟨rfl, (HK.out _ HB.out).2⟩
  go_wp2_with fail
  refine (Right_yes _ _ _ HR4.out).mono ?_
  rintro e w2 ⟨rfl, rfl⟩
  go_wp2_with fail
  refine (HP.out _ HB.out).mono ?_
  rintro e w2 ⟨rfl, hb⟩
  have HE := Lib.hid ((HK.out _ HB.out).2.trans (hb.mono (HK.out _ HB.out).2.size))
  clear hb x0 x1 x2
  go_wp2
  go_ret
  exact ⟨rfl, HE.out⟩

set_option maxHeartbeats 3200000 in
theorem bkRefMay_any {w : World} {B n : Nat} {A : Option Addr} {ps : List KV} (d x : Int) (c : Nat) (hr : RPairs w B A n ps) (hB : B ≤ w.heap.size) (hm : n ≤ maxLen) (hsz : szP ps ≤ 4611686018427387904) :
    Calls Tryz.prog 170 #[.agg #[.int .i64 d, .int .i64 x, .slice A n c]] w fun e w' => e = .returned (.bool (mayBk ⟨d, x, ps⟩)) ∧ Below w.heap.size w w' := by
  have HM := Lib.hid hm
  have HK := Lib.hid (fun wr => BkBox.kept (w := w) (wr := wr) (n := n) (c := c) (d := d) (x := x) (A := A))
  have HF := Lib.hid (refBkSize_any d x c (hr.below ((HK.out _ (Below.refl _ _)).2.mono hB)) (Nat.le_trans hB (HK.out _ (Below.refl _ _)).2.size) hm hsz)
  have HR := Lib.hid hr
  obtain ⟨x0, x1, x2, _⟩ := (BkBox.new w d x A n c).cells
  have hq : rightB x 4 = (decide (0 ≤ x) && decide (x < 4294967296)) := by
    unfold rightB
    by_cases a : 0 ≤ x <;> by_cases b : x < 4294967296 <;> simp [a, b]
  have hmay : mayBk ⟨d, x, ps⟩ = (decide (8 + szP ps ≤ 240) && decide (0 ≤ d) && decide (d ≤ 10) && rightB x 4 && pairsB ps) := rfl
  rw [hmay, hq]
  clear hmay hr hq
  unfold maxLen at hm
  have hsz8 : 8 + szP ps ≤ 4611686018427387912 := by omega
  clear hsz
  generalize 8 + szP ps = s at HF hsz8 ⊢
  generalize q1 : decide (s ≤ 240) = b1
  generalize q2 : decide (0 ≤ d) = b2
  generalize q3 : decide (d ≤ 10) = b3
  generalize q4 : decide (0 ≤ x) = b4
  generalize q5 : decide (x < 4294967296) = b5
  generalize q6 : pairsB ps = b6
  unfold BkObj at *
  go_enter Tryz.func170, Tryz.ntmps170
  go_wp2_with fail
  refine HF.out.mono ?_
  rintro e w1 ⟨rfl, hb⟩
  have HB := Lib.hid hb
  clear hb x0 x1 x2 HF
  obtain ⟨x0, x1, x2, _⟩ := (HK.out _ HB.out).1.cells
  cases b1
  · have g1' : 240 < (s : Int) := by have := of_decide_eq_false q1; omega
    clear x0 x1 x2 q1 q2 q3 q4 q5 q6
    go_wp2
    go_ret
    exact ⟨rfl, (HK.out _ HB.out).2⟩
  have g1' : ¬ 240 < (s : Int) := by have := of_decide_eq_true q1; omega
  cases b2
  · have g2' : d < 0 := by have := of_decide_eq_false q2; omega
    clear q1 q2 q3 q4 q5 q6
    go_wp2
    go_ret
    exact ⟨rfl, (HK.out _ HB.out).2⟩
  have g2' : ¬ d < 0 := by have := of_decide_eq_true q2; omega
  cases b3
  · have g3' : 10 < d := by have := of_decide_eq_false q3; omega
    clear q1 q2 q3 q4 q5 q6
    go_wp2
    go_ret
    exact ⟨rfl, (HK.out _ HB.out).2⟩
  have g3' : ¬ 10 < d := by have := of_decide_eq_true q3; omega
  cases b4
  · have g4' : x < 0 := by have := of_decide_eq_false q4; omega
    clear q1 q2 q3 q4 q5 q6
    go_wp2
    go_ret
    exact ⟨rfl, (HK.out _ HB.out).2⟩
  have g4' : ¬ x < 0 := by have := of_decide_eq_true q4; omega
  cases b5
  · have g5' : 4294967296 ≤ x := by have := of_decide_eq_false q5; omega
    clear q1 q2 q3 q4 q5 q6
    go_wp2
    go_ret
    exact ⟨rfl, (HK.out _ HB.out).2⟩
  have g5' : ¬ 4294967296 ≤ x := by have := of_decide_eq_true q5; omega
  have Q6 := Lib.hid q6
  clear q1 q2 q3 q4 q5 q6
  go_wp2_with fail
  clear x0 x1 x2
  go_loopw [3] (fun i wr => ∃ j : Nat, j ≤ n ∧ i = .int .i64 j ∧ Hid (∀ m, m < j → okAt ps m = true) ∧ Hid (Below (w.alloc (.cells #[.int .i64 d, .int .i64 x, .slice A n c] 90 (0, 0))).heap.size (w.alloc (.cells #[.int .i64 d, .int .i64 x, .slice A n c] 90 (0, 0))) wr)) (fun i _ => n - (intOf i).toNat)
  case atStart => exact ⟨0, Nat.zero_le _, rfl, Lib.hid (fun m hm => absurd hm (by omega)), HB⟩
  case round =>
    obtain ⟨j, hj, rfl, hbef, hb0⟩ := hrel
    obtain ⟨x0, x1, x2, _⟩ := (HK.out _ hb0.out).1.cells
    by_cases hlt : j < n
    · obtain ⟨b, off, rfl, hb, hat⟩ := HR.out.2 (by omega)
      obtain ⟨y, hy⟩ : ∃ y, ps[j]? = some y := ⟨_, List.getElem?_eq_getElem (by rw [HR.out.len]; exact hlt)⟩
      obtain ⟨ka, kn, kc, va, vn, vc, h0, h1, h2, ⟨h3a, h3b⟩, h4, ⟨h5a, h5b⟩⟩ := (hat j y hy).keep hb (fun b o hbb => (HK.out wr hb0.out).2.cell (p := ⟨b, o, none⟩) (Nat.lt_of_lt_of_le hbb hB))
      have hb1 := hb0.out.alloc hb0.out.size (.cells #[.slice ka kn kc, .slice va vn vc] 95 (0, 0))
      have hw1 := (HK.out _ hb1).2
      have hk1 : RB (wr.alloc (.cells #[.slice ka kn kc, .slice va vn vc] 95 (0, 0))) B ka kn y.1 := h2.alloc (Nat.le_trans hB (HK.out wr hb0.out).2.size) _
      have HF := Lib.hid (refBkFind_any d x c kc (HR.out.below (hw1.mono hB)) (Nat.le_trans hB hw1.size) HM.out hk1)
      obtain ⟨y0, y1, y2, _⟩ := (HK.out _ hb1).1.cells
      have HB1 := Lib.hid hb1
      have ho := okAt_cases hy
      rw [h2.len, h4.len] at ho
      obtain ⟨o1, o2, o3, o4, o5⟩ := ho
      have HO := Lib.hid (And.intro (fun h : okAt ps j = false => pairsB_false (by rw [HR.out.len]; exact hlt) h) (And.intro o1 (And.intro o2 (And.intro o3 (And.intro o4 o5)))))
      unfold maxLen at h3b h5b
      clear o1 o2 o3 o4 o5 hat hy h2 h4 hb1 hw1 hk1
      have hlt' : (j : Int) < (n : Int) := by omega
      by_cases g1 : kn < 1
      · have HE := Lib.hid (Q6.out.symm.trans (HO.out.1 (HO.out.2.1 g1)))
        have g1' : (kn : Int) < 1 := by omega
        go_wp2
        go_ret
        rw [HE.out]
        exact ⟨rfl, (HK.out _ HB1.out).2⟩
      by_cases g2 : 32 < kn
      · have HE := Lib.hid (Q6.out.symm.trans (HO.out.1 (HO.out.2.2.1 g2)))
        have g1' : ¬ (kn : Int) < 1 := by omega
        have g2' : 32 < (kn : Int) := by omega
        go_wp2
        go_ret
        rw [HE.out]
        exact ⟨rfl, (HK.out _ HB1.out).2⟩
      have g1' : ¬ (kn : Int) < 1 := by omega
      have g2' : ¬ 32 < (kn : Int) := by omega
      by_cases g3 : 120 < vn
      · have HE := Lib.hid (Q6.out.symm.trans (HO.out.1 (HO.out.2.2.2.1 g3)))
        have g3' : 120 < (vn : Int) := by omega
        go_wp2
        go_ret
        rw [HE.out]
        exact ⟨rfl, (HK.out _ HB1.out).2⟩
      have g3' : ¬ 120 < (vn : Int) := by omega
      by_cases g4 : findI ps y.1 = (j : Int)
      · have HN := Lib.hid (fun m (hm : m < j + 1) => show okAt ps m = true by
          rcases Nat.lt_or_ge m j with h | h
          · exact hbef.out m h
          · obtain rfl : m = j := by omega
            exact HO.out.2.2.2.2.2 (by omega) (by omega) (by omega) g4)
        rw [g4] at HF
        clear g4
        go_wp2_with fail
        refine HF.out.mono ?_
        rintro e w' ⟨rfl, hb'⟩
        have HE := Lib.hid (HB1.out.trans (hb'.mono HB1.out.size))
        clear hb' h0 h1 x0 x1 x2 y0 y1 y2
        go_wp2
        go_roundw
        case rel => exact ⟨j + 1, by omega, by go_num, HN, HE⟩
        case measure => simp [intOf]; omega
      · have HE := Lib.hid (Q6.out.symm.trans (HO.out.1 (HO.out.2.2.2.2.1 g4)))
        have gb := findI_bounds ps y.1
        have hne : (findI ps y.1 != (j : Int)) = true := by simpa using g4
        generalize findI ps y.1 = f at HF hne
        clear g4 gb
        go_wp2_with fail
        refine HF.out.mono ?_
        rintro e w' ⟨rfl, hb'⟩
        have HE2 := Lib.hid ((HK.out _ HB1.out).2.trans (hb'.mono (HK.out _ HB1.out).2.size))
        clear hb' h0 h1 x0 x1 x2 y0 y1 y2
        go_wp2
        go_ret
        rw [HE.out]
        exact ⟨rfl, HE2.out⟩
    · obtain rfl : j = n := by omega
      have HE := Lib.hid (Q6.out.symm.trans (pairsB_true (ps := ps) (fun i hi => hbef.out i (by rw [HR.out.len] at hi; exact hi))))
      go_wp2
      go_ret
      rw [HE.out]
      exact ⟨rfl, (HK.out _ hb0.out).2⟩
end Go.Proofs.YtinhdimalhfgkaaGreatDoor

/-
  Words for a block that bytes are copied into. Plain facts; no condition beyond what each says.
-/
namespace Go.Proofs.YtinhdimalhfgkaaGreatDoor
open Go.RowKit
set_option maxRecDepth 100000
set_option linter.unusedVariables false

/-- Block g holds the bytes L, and other cells behind them. -/
def NowBlk (w : World) (g : Nat) (L : List Int) : Prop := ∃ tl : List Value, w.heap[g]? = some (.cells ((L.map (Value.int .u8)) ++ tl).toArray 5 (0, 0))
theorem NowBlk.of_own {w : World} {base g n c : Nat} {L : List Int} (h : w.ownsRow base 5 1 (.slice (some ⟨g, 0, none⟩) n c) n (L.map (Value.int .u8))) : NowBlk w g L := by
  rcases h.2 with ⟨e, _⟩ | ⟨g', cap, cur, e, _, hb, _, _, _, htake⟩
  · cases e
  · cases e
    refine ⟨cur.toList.drop (n * 1), ?_⟩
    rw [hb, ← htake, List.take_append_drop]
theorem NowBlk.keep {w w' : World} {g : Nat} {L : List Int} (h : NowBlk w g L) (e : w'.heap[g]? = w.heap[g]?) : NowBlk w' g L := by
  obtain ⟨tl, h⟩ := h
  exact ⟨tl, e.trans h⟩
theorem NowBlk.lt {w : World} {g : Nat} {L : List Int} (h : NowBlk w g L) : g < w.heap.size := by
  obtain ⟨tl, h⟩ := h
  exact (Array.getElem?_eq_some_iff.1 h).1
theorem NowBlk.rb {w : World} {g n : Nat} {L : List Int} (h : NowBlk w g L) (hn : L.length = n) (hb : AllBytes L) : RB w w.heap.size (some ⟨g, 0, none⟩) n L := by
  refine ⟨hn, hb, fun h0 => ⟨g, 0, rfl, h.lt, fun j hj => ?_⟩⟩
  obtain ⟨tl, h⟩ := h
  rw [Nat.zero_add, cell_of_row w g j _ _ (0, 0) h, List.getElem?_toArray, List.getElem?_append_left (by simp; omega), List.getElem?_map, List.getElem?_eq_getElem (by omega)]
  rfl
theorem splice_map {L d : List Int} {tl : List Value} {o : Nat} (h : o + d.length ≤ L.length) : splice ((L.map (Value.int .u8)) ++ tl) o (d.map (Value.int .u8)) = ((splice L o d).map (Value.int .u8)) ++ tl := by
  unfold splice
  rw [List.take_append_of_le_length (by simp; omega), List.length_map, List.drop_append_of_le_length (by simp; omega)]
  simp [List.map_take, List.map_drop, List.append_assoc]
theorem splice_bytes {L d : List Int} {o : Nat} (h1 : AllBytes L) (h2 : AllBytes d) : AllBytes (splice L o d) := fun x hx => by
  unfold splice at hx
  rcases List.mem_append.1 hx with a | a
  · exact h1 x (List.mem_of_mem_take a)
  · rcases List.mem_append.1 a with a | a
    · exact h2 x a
    · exact h1 x (List.mem_of_mem_drop a)
/-- copy into a row, as one step of a region that draws its order: that block alone is written. -/
theorem step_copy_at {P : Program} {ops : Array Oper} {o : Oper} {a : Act} {w : World} {K : Act → World → Prop} {Q : Exit → Act → World → Prop} {E : Prop} (hgd : o.guard = none) (d s : Operand) (dT sT : TypeId)
    (ho : o.op = .call { callee := .builtin .copy, args := #[d, s], argTypes := #[dT, sT] }) (elem : TypeId) (hu : P.underlying dT = some (.slice elem)) (hsz : (P.info? elem).map (·.size) = some 1)
    (dp : Option Addr) (ad : Addr) (dLen dCap sLen sCap : Nat) (hd : a.eval d = .slice dp dLen dCap) (hs : a.eval s = .slice (some ad) sLen sCap)
    (g off : Nat) (hdp : dp = some ⟨g, off, none⟩) (cur : List Value) (t : TypeId) (hg : w.heap[g]? = some (.cells cur.toArray t (0, 0))) (cs : List Value) (hn : cs.length = Nat.min sLen dLen)
    (hsrc : ∀ j v, cs[j]? = some v → w.cell? (ad.add j) = some v)
    (hfit : off + cs.length ≤ cur.length) (h1 : ∀ v ∈ cs, v.oneCell' = true)
    (h : ∀ w', Hid (w'.heap[g]? = some (.cells (splice cur off cs).toArray t (0, 0))) → Hid (Touch (fun j => j = g) w w') → K (a.put o.dst (goInt cs.length)) w') :
    if Region.wanted o (yielded ops a.tmps) = true then Oper.wp P o a w K Q else E := by
  have hw : Region.wanted o (yielded ops a.tmps) = true := by simp [Region.wanted, hgd]
  rw [if_pos hw]
  subst hdp
  have hrun := run_copy_row (P := P) w dT sT o.type elem g off dLen dCap ad sLen sCap cur.toArray t cs hu hsz hg hn hsrc (by simpa using hfit) h1
  unfold Oper.wp
  simp [execOp, ho, resolve, invoke, builtin, hd, hs, hrun, Result.andThen]
  exact h _ (show _ = _ by simpa [splice] using setRow_heap w g _ _ t _ hg) (Lib.hid ⟨rfl, rfl, rfl, by simp [World.setRow], fun k hk hne => setRow_other w g k _ (fun e => hne e)⟩)

end Go.Proofs.YtinhdimalhfgkaaGreatDoor

/-
  Contract of bucket.lay: some parts go over a page, one behind the other; that page alone is written. Condition: the parts lie within the page, and stand apart from it.
-/
namespace Go.Proofs.YtinhdimalhfgkaaGreatDoor
open Go.RowKit
set_option maxRecDepth 100000
set_option linter.unusedVariables false

theorem size_u8'' : (Tryz.prog.info? 5).map (·.size) = some 1 := by kernel_rfl
/-- The page with some bytes over it. -/
theorem splice_two {L d e : List Int} {a : Nat} (h : a + d.length + e.length ≤ L.length) : splice (splice L a d) (a + d.length) e = splice L a (d ++ e) := by
  have hP : (L.take a ++ d).length = a + d.length := by simp; omega
  have e0 : splice L a d = (L.take a ++ d) ++ L.drop (a + d.length) := by unfold splice; simp [List.append_assoc]
  have h1 : ((L.take a ++ d) ++ L.drop (a + d.length)).take (a + d.length) = L.take a ++ d := List.take_left' hP
  have h2 : ((L.take a ++ d) ++ L.drop (a + d.length)).drop (a + d.length + e.length) = L.drop (a + (d ++ e).length) := by
    rw [← List.drop_drop, List.drop_left' hP, List.drop_drop, List.length_append, Nat.add_assoc]
  rw [e0]
  unfold splice
  rw [h1, h2]
  simp [List.append_assoc]
theorem splice_nil (L : List Int) (a : Nat) : splice L a [] = L := by unfold splice; simp

theorem Touch.then_ {F : Nat → Prop} {a b c : World} (h : Touch F a b) (k : Touch F b c) : Touch F a c :=
  ⟨k.os.trans h.os, k.tape.trans h.tape, k.output.trans h.output, Nat.le_trans h.size k.size, fun j hj hn => (k.block j (Nat.lt_of_lt_of_le hj h.size) hn).trans (h.block j hj hn)⟩
/-- copy, as an operation of a region in order: one block alone is written. -/
theorem wpList_copy_at {P : Program} {w : World} {ops : Array Oper} {rest : List Oper} {o : Oper} {a : Act} {Q : Exit → Act → World → Prop} (hgd : o.guard = none) (d s : Operand) (dT sT : TypeId)
    (ho : o.op = .call { callee := .builtin .copy, args := #[d, s], argTypes := #[dT, sT] }) (elem : TypeId) (hu : P.underlying dT = some (.slice elem)) (hsz : (P.info? elem).map (·.size) = some 1)
    (dp sp : Option Addr) (dLen dCap sLen sCap : Nat) (hd : a.eval d = .slice dp dLen dCap) (hs : a.eval s = .slice sp sLen sCap)
    (g off : Nat) (cur : List Value) (t : TypeId) (hg : w.heap[g]? = some (.cells cur.toArray t (0, 0))) (cs : List Value) (hn : cs.length = Nat.min sLen dLen)
    (hpos : 0 < cs.length → dp = some ⟨g, off, none⟩ ∧ ∃ ad, sp = some ad ∧ ∀ j v, cs[j]? = some v → w.cell? (ad.add j) = some v)
    (hfit : off + cs.length ≤ cur.length) (h1 : ∀ v ∈ cs, v.oneCell' = true)
    (h : ∀ w', Hid (w'.heap[g]? = some (.cells (splice cur off cs).toArray t (0, 0))) → Hid (Touch (fun j => j = g) w w') → wpList P ops Q rest (a.put o.dst (goInt cs.length)) w') :
    wpList P ops Q (o :: rest) a w := by
  by_cases h0 : cs.length = 0
  · obtain rfl : cs = [] := List.eq_nil_of_length_eq_zero h0
    refine wpList_copy_nothing hgd d s dT sT ho elem hu hsz dp sp dLen dCap sLen sCap hd hs (by simpa using hn.symm) ?_
    exact h w (show _ = _ by simpa [splice] using hg) (Lib.hid (Touch.refl _ _))
  · obtain ⟨rfl, ad, rfl, hsrc⟩ := hpos (by omega)
    refine wpList_copy_own hgd d s dT sT ho elem hu hsz g off dLen dCap ad sLen sCap hd hs cur.toArray t hg cs hn hsrc (by simpa using hfit) h1 ?_
    exact h _ (show _ = _ by simpa [splice] using setRow_heap w g _ _ t _ hg) (Lib.hid ⟨rfl, rfl, rfl, by simp [World.setRow], fun k hk hne => setRow_other w g k _ (fun e => hne e)⟩)

/-- A part, apart from block g. -/
def PartAt (w : World) (g b off : Nat) (l : List Int) : Prop :=
  ∃ (D : Option Addr) (m c : Nat), w.cell? ⟨b, off, none⟩ = some (.slice D m c) ∧ m ≤ maxLen ∧ m ≤ c ∧ RB w w.heap.size D m l ∧ ∀ x, D = some x → 0 < m → x.block ≠ g
/-- The slice at A of n parts reads as pl, apart from block g. -/
def RParts (w : World) (g : Nat) (A : Option Addr) (n : Nat) (pl : List (List Int)) : Prop :=
  pl.length = n ∧ (0 < n → ∃ b off, A = some ⟨b, off, none⟩ ∧ b ≠ g ∧ b < w.heap.size ∧ ∀ j l, pl[j]? = some l → PartAt w g b (off + j) l)
theorem PartAt.keep {w w' : World} {g b off : Nat} {l : List Int} (h : PartAt w g b off l) (hb : b < w.heap.size) (hbg : b ≠ g) (ht : Touch (fun j => j = g) w w') : PartAt w' g b off l := by
  obtain ⟨D, m, c, h0, h1, h2, h3, h4⟩ := h
  refine ⟨D, m, c, (World.cell?_of_block (a := ⟨b, off, none⟩) (ht.block b hb hbg)).trans h0, h1, h2, ⟨h3.1, h3.2.1, fun hm => ?_⟩, h4⟩
  obtain ⟨bb, o, e, hbb, hc⟩ := h3.2.2 hm
  have hne : bb ≠ g := h4 _ e hm
  exact ⟨bb, o, e, Nat.lt_of_lt_of_le hbb ht.size, fun j hj => (World.cell?_of_block (a := ⟨bb, o + j, none⟩) (ht.block bb hbb hne)).trans (hc j hj)⟩

set_option maxHeartbeats 3200000 in
theorem bkLay_any {w : World} {g a n c : Nat} {A : Option Addr} {L : List Int} {pl : List (List Int)} (hp : w.heap[g]? = some (.cells (L.map (Value.int .u8)).toArray 5 (0, 0))) (hL : L.length = 240) (hr : RParts w g A n pl) (hm : n ≤ maxLen) (ha : a + pl.flatten.length ≤ 240) :
    Calls Tryz.prog 203 #[.slice (some ⟨g, 0, none⟩) 240 240, .int .i64 (a : Int), .slice A n c] w fun e w' => e = .returned (.int .i64 ((a + pl.flatten.length : Nat) : Int)) ∧ w'.heap[g]? = some (.cells ((splice L a pl.flatten).map (Value.int .u8)).toArray 5 (0, 0)) ∧ Touch (fun j => j = g) w w' := by
  unfold maxLen at hm
  have hgl : g < w.heap.size := (Array.getElem?_eq_some_iff.1 hp).1
  have HLL := Lib.hid hL
  have HR := Lib.hid hr
  have HA := Lib.hid ha
  have HP := Lib.hid hp
  clear hL hr hp ha
  go_enter Tryz.func203, Tryz.ntmps203
  go_wp2_with fail
  go_loopw [1, 11] (fun av i wr => ∃ k : Nat, k ≤ n ∧ i = .int .i64 k ∧ av = .int .i64 ((a + (pl.take k).flatten.length : Nat) : Int) ∧ Hid (wr.heap[g]? = some (.cells ((splice L a (pl.take k).flatten).map (Value.int .u8)).toArray 5 (0, 0))) ∧ Hid (Touch (fun j => j = g) w wr)) (fun _ i _ => n - (intOf i).toNat)
  case atStart =>
    refine ⟨0, Nat.zero_le _, rfl, by simp, Lib.hid ?_, Lib.hid (Touch.refl _ _)⟩
    rw [List.take_zero, List.flatten_nil, splice_nil]
    exact HP.out
  case round =>
    obtain ⟨k, hk, rfl, rfl, hblk, htc⟩ := hrel
    by_cases hlt : k < n
    · have hlt' : (k : Int) < (n : Int) := by omega
      obtain ⟨b, off, rfl, hbg, hb, hat⟩ := HR.out.2 (by omega)
      obtain ⟨y, hy⟩ : ∃ y, pl[k]? = some y := ⟨_, List.getElem?_eq_getElem (by rw [HR.out.1]; exact hlt)⟩
      obtain ⟨D, m, cm, h0, h1, h2, h3, h4⟩ := (hat k y hy).keep hb hbg htc.out
      have hst : (pl.take (k + 1)).flatten = (pl.take k).flatten ++ y := by
        obtain ⟨hk', rfl⟩ := List.getElem?_eq_some_iff.1 hy
        rw [List.take_succ_eq_append_getElem hk', List.flatten_append]
        simp
      have hle : (pl.take (k + 1)).flatten.length ≤ pl.flatten.length := by
        have : pl.flatten = (pl.take (k + 1)).flatten ++ (pl.drop (k + 1)).flatten := by rw [← List.flatten_append, List.take_append_drop]
        rw [this, List.length_append]; omega
      have HST := Lib.hid hst
      rw [hst, List.length_append, h3.len] at hle
      have hfit : a + (pl.take k).flatten.length + m ≤ 240 := by have := HA.out; omega
      have HLS := Lib.hid (show (splice L a (pl.take k).flatten).length = 240 from by
        rw [length_splice _ _ _ (by rw [HLL.out]; omega)]
        exact HLL.out)
      have HNX := Lib.hid (show splice (splice L a (pl.take k).flatten) (a + (pl.take k).flatten.length) y = splice L a (pl.take (k + 1)).flatten from by
        rw [splice_two (by rw [h3.len, HLL.out]; omega), HST.out])
      have HAK := Lib.hid (show a + (pl.take k).flatten.length + m = a + (pl.take (k + 1)).flatten.length by rw [HST.out, List.length_append, h3.len, Nat.add_assoc])
      have H3 := Lib.hid h3
      clear hat hy hst hle h3
      generalize splice L a (pl.take k).flatten = Lk at hblk HLS HNX
      generalize a + (pl.take k).flatten.length = ak at hfit HNX HAK ⊢
      have hI3 : IntKind.i64.wrap ((ak : Int) + (m : Int)) = ((ak + m : Nat) : Int) := by unfold IntKind.wrap; simp [IntKind.bits, IntKind.signed]; omega
      have hI1 : (0 : Int) ≤ (ak : Int) := by omega
      have hI2 : (ak : Int) ≤ 240 := by omega
      have hfin : ∀ w2 : World, Hid (w2.heap[g]? = some (.cells (splice (Lk.map (Value.int .u8)) ak (y.map (Value.int .u8))).toArray 5 (0, 0))) → Hid (Touch (fun j => j = g) wr w2) → w2.heap[g]? = some (.cells ((splice L a (pl.take (k + 1)).flatten).map (Value.int .u8)).toArray 5 (0, 0)) ∧ Touch (fun j => j = g) w w2 := fun w2 q1 q2 => by
        have := q1.out
        have hsm := splice_map (L := Lk) (d := y) (tl := []) (o := ak) (by rw [H3.out.len, HLS.out]; omega)
        rw [List.append_nil, List.append_nil] at hsm
        rw [hsm, HNX.out] at this
        exact ⟨this, htc.out.then_ q2.out⟩
      have HFIN := Lib.hid hfin
      clear hfin
      rcases Nat.lt_or_ge ak 240 with h240 | h240
      · have hne : ¬ (ak = 240) := by omega
        go_wp2_with (with_reducible refine wpList_copy_at rfl (.tmp 18) (.tmp 19) 46 46 rfl 5 Tryz.underlying46 size_u8'' (some ⟨g, ak, none⟩) D (240 - ak) (240 - ak) m cm rfl rfl g ak (Lk.map (Value.int .u8)) 5 hblk.out (y.map (Value.int .u8)) (by rw [List.length_map, H3.out.len]; exact (Nat.min_eq_left (by omega)).symm) (fun hp => ⟨rfl, copy_src H3.out hp⟩) (by rw [List.length_map, List.length_map, H3.out.len, HLS.out]; omega) (oneCell_bytes _) ?_; intro w2 hblk2 htc2)
        have HE := Lib.hid (HFIN.out w2 hblk2 htc2)
        clear hblk htc hblk2 htc2 HFIN h0
        go_roundw
        case rel => exact ⟨k + 1, by omega, by go_num, by rw [H3.out.len, ← HAK.out, wrap63 (by omega) (by omega)]; congr 1, Lib.hid HE.out.1, Lib.hid HE.out.2⟩
        case measure => simp [intOf]; omega
      · obtain rfl : ak = 240 := by omega
        obtain rfl : m = 0 := by omega
        go_wp2_with (with_reducible refine wpList_copy_at rfl (.tmp 18) (.tmp 19) 46 46 rfl 5 Tryz.underlying46 size_u8'' _ D 0 0 0 cm rfl rfl g 240 (Lk.map (Value.int .u8)) 5 hblk.out (y.map (Value.int .u8)) (by rw [List.length_map, H3.out.len]; decide) (fun hp => absurd hp (by rw [List.length_map, H3.out.len]; omega)) (by rw [List.length_map, List.length_map, H3.out.len, HLS.out]; omega) (oneCell_bytes _) ?_; intro w2 hblk2 htc2)
        have HE := Lib.hid (HFIN.out w2 hblk2 htc2)
        clear hblk htc hblk2 htc2 HFIN h0
        go_roundw
        case rel => exact ⟨k + 1, by omega, by go_num, by rw [H3.out.len, ← HAK.out, wrap63 (by omega) (by omega)]; congr 1, Lib.hid HE.out.1, Lib.hid HE.out.2⟩
        case measure => simp [intOf]; omega
    · obtain rfl : k = n := by omega
      have e : pl.take k = pl := List.take_of_length_le (by rw [HR.out.1]; exact Nat.le_refl _)
      rw [e] at hblk ⊢
      clear e
      go_wp2
      go_ret
      exact ⟨rfl, hblk.out, htc.out⟩
end Go.Proofs.YtinhdimalhfgkaaGreatDoor

/-
  Contract of bucket.Put. Condition: pairs of few bytes; numbers are ints.
-/
namespace Go.Proofs.YtinhdimalhfgkaaGreatDoor
open Go.RowKit
set_option maxRecDepth 100000
set_option linter.unusedVariables false

/-- Put of one number alone. -/
theorem bkPutNil_any (x : Int) (k : Nat) (w : World) (hs : rightB x (k : Int) = true) (hk8 : k ≤ 8) (hx : -9223372036854775808 ≤ x ∧ x ≤ 9223372036854775807) :
    Calls Tryz.prog 192 #[.slice none 0 0, .int .i64 x, .int .i64 (k : Int)] w fun e w' => ∃ g, e = .returned (.slice (some ⟨g, 0, none⟩) k k) ∧ w.heap.size ≤ g ∧ RB w' w'.heap.size (some ⟨g, 0, none⟩) k (putB x k) ∧ Below w.heap.size w w' := by
  refine (Put_any none 0 0 0 [] x (k : Int) w RB.nil_ (Nat.zero_le _) (Nat.le_refl _) (by decide) hx.1 hx.2).mono ?_
  rintro e w' ⟨v, rfl, ⟨g, rfl, hg, hh⟩, hb⟩
  have e1 : putR [] x (k : Int) = putB x k := by
    unfold putR
    rw [if_pos hs, Int.toNat_natCast, List.nil_append]
  rw [e1] at hh
  refine ⟨g, by rw [e1, putB_length], hg, ⟨putB_length _ _, putB_bytes _ _, fun _ => ⟨g, 0, rfl, (Array.getElem?_eq_some_iff.1 hh).1, fun j hj => ?_⟩⟩, hb⟩
  rw [Nat.zero_add, cell_of_row w' g j _ _ (0, 0) hh, List.getElem?_toArray, List.getElem?_map, List.getElem?_eq_getElem (by rw [putB_length]; exact hj)]
  rfl

/-- A part that stands in a world, apart from block g. -/
structure Part (w : World) (g : Nat) (A : Option Addr) (n c : Nat) (l : List Int) : Prop where
  hm : n ≤ maxLen
  hc : n ≤ c
  hr : RB w w.heap.size A n l
  hg : ∀ x, A = some x → 0 < n → x.block ≠ g
theorem Part.below {w w' : World} {g n c : Nat} {A : Option Addr} {l : List Int} (h : Part w g A n c l) (hb : Below w.heap.size w w') : Part w' g A n c l := ⟨h.hm, h.hc, (h.hr.below hb).more hb.size, h.hg⟩
theorem Part.at_ {w w' : World} {g n c b off : Nat} {A : Option Addr} {l : List Int} (h : Part w g A n c l) (hb : Below w.heap.size w w') (hcell : w'.cell? ⟨b, off, none⟩ = some (.slice A n c)) : PartAt w' g b off l :=
  ⟨A, n, c, hcell, h.hm, h.hc, (h.hr.below hb).more hb.size, h.hg⟩
theorem parts3 {w : World} {g n1 n2 n3 c1 c2 c3 : Nat} {A1 A2 A3 : Option Addr} {l1 l2 l3 : List Int} (T : TypeId) (hg : g < w.heap.size) (h1 : Part w g A1 n1 c1 l1) (h2 : Part w g A2 n2 c2 l2) (h3 : Part w g A3 n3 c3 l3) : RParts (w.alloc (.cells #[.slice A1 n1 c1, .slice A2 n2 c2, .slice A3 n3 c3] T (0, 0))) g (some ⟨w.heap.size, 0, none⟩) 3 [l1, l2, l3] := by
  have hX : Below w.heap.size w (w.alloc (.cells #[.slice A1 n1 c1, .slice A2 n2 c2, .slice A3 n3 c3] T (0, 0))) := (Below.refl _ _).alloc (Nat.le_refl _) _
  have hh := heap_alloc_new w (.cells #[.slice A1 n1 c1, .slice A2 n2 c2, .slice A3 n3 c3] T (0, 0))
  refine ⟨rfl, fun _ => ⟨w.heap.size, 0, rfl, by omega, by simp, fun j l hj => ?_⟩⟩
  match j, hj with
  | 0, hj => obtain rfl : l1 = l := by simpa using hj
             exact h1.at_ hX (by rw [cell_of_row _ _ _ _ _ (0, 0) hh]; rfl)
  | 1, hj => obtain rfl : l2 = l := by simpa using hj
             exact h2.at_ hX (by rw [cell_of_row _ _ _ _ _ (0, 0) hh]; rfl)
  | 2, hj => obtain rfl : l3 = l := by simpa using hj
             exact h3.at_ hX (by rw [cell_of_row _ _ _ _ _ (0, 0) hh]; rfl)
theorem parts4 {w : World} {g n1 n2 n3 n4 c1 c2 c3 c4 : Nat} {A1 A2 A3 A4 : Option Addr} {l1 l2 l3 l4 : List Int} (T : TypeId) (hg : g < w.heap.size) (h1 : Part w g A1 n1 c1 l1) (h2 : Part w g A2 n2 c2 l2) (h3 : Part w g A3 n3 c3 l3) (h4 : Part w g A4 n4 c4 l4) : RParts (w.alloc (.cells #[.slice A1 n1 c1, .slice A2 n2 c2, .slice A3 n3 c3, .slice A4 n4 c4] T (0, 0))) g (some ⟨w.heap.size, 0, none⟩) 4 [l1, l2, l3, l4] := by
  have hX : Below w.heap.size w (w.alloc (.cells #[.slice A1 n1 c1, .slice A2 n2 c2, .slice A3 n3 c3, .slice A4 n4 c4] T (0, 0))) := (Below.refl _ _).alloc (Nat.le_refl _) _
  have hh := heap_alloc_new w (.cells #[.slice A1 n1 c1, .slice A2 n2 c2, .slice A3 n3 c3, .slice A4 n4 c4] T (0, 0))
  refine ⟨rfl, fun _ => ⟨w.heap.size, 0, rfl, by omega, by simp, fun j l hj => ?_⟩⟩
  match j, hj with
  | 0, hj => obtain rfl : l1 = l := by simpa using hj
             exact h1.at_ hX (by rw [cell_of_row _ _ _ _ _ (0, 0) hh]; rfl)
  | 1, hj => obtain rfl : l2 = l := by simpa using hj
             exact h2.at_ hX (by rw [cell_of_row _ _ _ _ _ (0, 0) hh]; rfl)
  | 2, hj => obtain rfl : l3 = l := by simpa using hj
             exact h3.at_ hX (by rw [cell_of_row _ _ _ _ _ (0, 0) hh]; rfl)
  | 3, hj => obtain rfl : l4 = l := by simpa using hj
             exact h4.at_ hX (by rw [cell_of_row _ _ _ _ _ (0, 0) hh]; rfl)

theorem putB_one {x : Int} (h : 0 ≤ x ∧ x < 256) : putB x 1 = [x] := by
  show [] ++ [x % 256] = [x]
  rw [List.nil_append, Int.emod_eq_of_lt h.1 h.2]
/-- A page of noughts. -/
def zeroL : List Int := List.replicate 240 0
theorem zeroL_length : zeroL.length = 240 := List.length_replicate
theorem zeroL_cells : zeroL.map (Value.int .u8) = List.replicate 240 (Value.int .u8 0) := by unfold zeroL; rw [List.map_replicate]
/-- The letter over a page of noughts. -/
theorem bkLetter_run {w : World} {g : Nat} (h : w.heap[g]? = some (.cells (zeroL.map (Value.int .u8)).toArray 5 (0, 0))) (ty : TypeId) : ∃ w', (Builtin.copy_ #[46, 9] ty #[.slice (some ⟨g, 0, none⟩) 240 240, .string { data := #[66] }]).run Tryz.prog w = .ok (.int .i64 1) w' ∧ w'.heap[g]? = some (.cells ((splice zeroL 0 [66]).map (Value.int .u8)).toArray 5 (0, 0)) ∧ Touch (fun j => j = g) w w' := by
  have hrun := Lib.run_copy_row_string (P := Tryz.prog) w 46 9 ty 5 g 0 240 240 { data := #[66] } _ 5 Tryz.underlying46 size_u8'' h (by decide) (by rw [List.size_toArray, List.length_map, zeroL_length]; decide)
  refine ⟨_, hrun, ?_, ⟨rfl, rfl, rfl, by simp [World.setRow], fun k hk hne => setRow_other w g k _ (fun e => hne e)⟩⟩
  rw [setRow_heap w g _ _ _ _ h]
  rfl
theorem BkBox.touch {w w' : World} {b g n c : Nat} {d x : Int} {A : Option Addr} (h : BkBox w b d x A n c) (ht : Touch (fun j => j = g) w w') (hne : b ≠ g) : BkBox w' b d x A n c := (ht.block b h.cells.2.2.2 hne).trans h
theorem BkBox.cells3 {w : World} {g n c : Nat} {d x : Int} {A : Option Addr} (h : BkBox w g d x A n c) : w.cell? ⟨g, 0, none⟩ = some (.int .i64 d) ∧ w.cell? ⟨g, 1, none⟩ = some (.int .i64 x) ∧ w.cell? ⟨g, 2, none⟩ = some (.slice A n c) := ⟨h.cells.1, h.cells.2.1, h.cells.2.2.1⟩
theorem BkBox.drew {w : World} {g n c : Nat} {d x : Int} {A : Option Addr} (h : BkBox w g d x A n c) : BkBox w.drew g d x A n c := h
theorem bkLetter_made {w1 w2 : World} {b n c : Nat} {d x : Int} {A : Option Addr} (hown2 : w2.ownsRow w1.heap.size 5 1 (.slice (some ⟨w1.heap.size, 0, none⟩) 240 240) 240 (madeCells (Value.int .u8 0).cells (240 * 1)).toList) (hb2 : Below w1.heap.size w1 w2) (hmb : BkBox w1 b d x A n c) :
    ∃ w3, (Builtin.copy_ #[46, 9] 3 #[.slice (some ⟨w1.heap.size, 0, none⟩) 240 240, .string { data := #[66] }]).run Tryz.prog w2 = .ok (.int .i64 1) w3 ∧ Hid (w3.heap[w1.heap.size]? = some (.cells ((splice zeroL 0 [66]).map (Value.int .u8)).toArray 5 (0, 0)) ∧ Touch (fun j => j = w1.heap.size) w1 w3) ∧ BkBox w3 b d x A n c := by
  have hblk2 := made_u8 hown2
  rw [← zeroL_cells] at hblk2
  obtain ⟨w3, hrun3, hblk3, ht3⟩ := bkLetter_run hblk2 3
  have hbl := hmb.cells.2.2.2
  have hs2 := hb2.size
  have ht : Touch (fun j => j = w1.heap.size) w1 w3 := ⟨ht3.os.trans hb2.os, ht3.tape.trans hb2.tape, ht3.output.trans hb2.output, Nat.le_trans hs2 ht3.size, fun j hj hn => (ht3.block j (Nat.lt_of_lt_of_le hj hs2) hn).trans (hb2.block j hj)⟩
  exact ⟨w3, hrun3, Lib.hid ⟨hblk3, ht⟩, hmb.touch ht (by omega)⟩

/-- What a bucket that may be is. -/
theorem mayBk_few {b : BV} (h : mayBk b = true) : 8 + szP b.ps ≤ 240 ∧ (0 ≤ b.d ∧ b.d ≤ 10) ∧ rightB b.x 4 = true ∧ pairsB b.ps = true := by
  unfold mayBk at h
  simp only [Bool.and_eq_true, decide_eq_true_eq] at h
  exact ⟨h.1.1.1.1, ⟨h.1.1.1.2, h.1.1.2⟩, h.1.2, h.2⟩
theorem pairsB_at {ps : List KV} (h : pairsB ps = true) {k : Nat} {y : KV} (hy : ps[k]? = some y) : (1 ≤ y.1.length ∧ y.1.length ≤ 32) ∧ y.2.length ≤ 120 ∧ findI ps y.1 = (k : Int) := by
  have hk := (List.getElem?_eq_some_iff.1 hy).1
  have := List.all_eq_true.1 h k (by simpa using hk)
  rw [okAt_some hy] at this
  simp only [Bool.and_eq_true, decide_eq_true_eq, beq_iff_eq] at this
  exact ⟨this.1.1, this.1.2, this.2⟩
theorem right_1 {x : Int} (h : 0 ≤ x ∧ x < 256) : rightB x ((1 : Nat) : Int) = true := by
  unfold rightB
  simp [h]
theorem right_2 {x : Int} (h : 0 ≤ x ∧ x < 65536) : rightB x ((2 : Nat) : Int) = true := by
  unfold rightB
  simp [h]

theorem RPairs.bytes {w : World} {B n : Nat} {A : Option Addr} {ps : List KV} (h : RPairs w B A n ps) : ∀ y ∈ ps, AllBytes y.1 ∧ AllBytes y.2 := by
  intro y hy
  obtain ⟨k, hk, rfl⟩ := List.getElem_of_mem hy
  obtain ⟨b, off, e, hb, hat⟩ := h.2 (by rw [← h.len]; exact Nat.lt_of_le_of_lt (Nat.zero_le _) hk)
  obtain ⟨_, _, _, _, _, _, _, _, hk1, _, hv1, _⟩ := hat k _ (List.getElem?_eq_getElem hk)
  exact ⟨hk1.bytes, hv1.bytes⟩
theorem pageBk_bytes {b : BV} (hm : mayBk b = true) (hall : ∀ y ∈ b.ps, AllBytes y.1 ∧ AllBytes y.2) : AllBytes (pageBk b) := by
  obtain ⟨f1, f2, f3, f4⟩ := mayBk_few hm
  refine ((AllBytes.append ?_ ?_).append (fun y hy => by have := List.eq_of_mem_replicate hy; omega))
  · intro y hy
    simp only [bkHeadL, List.mem_cons, List.mem_append] at hy
    rcases hy with rfl | hy | hy | hy
    · decide
    · exact putB_bytes _ _ y hy
    · exact putB_bytes _ _ y hy
    · exact putB_bytes _ _ y hy
  · intro z hz
    obtain ⟨y, hy, hz⟩ := List.mem_flatMap.1 hz
    obtain ⟨k, hk, he⟩ := List.getElem_of_mem hy
    have hpk := pairsB_at f4 (k := k) (y := y) (by rw [List.getElem?_eq_getElem hk, he])
    simp only [pairL, List.mem_cons, List.mem_append] at hz
    rcases hz with rfl | rfl | hz | hz
    · omega
    · omega
    · exact (hall y hy).1 z hz
    · exact (hall y hy).2 z hz

theorem page_done (b : BV) (hsz : 8 + szP b.ps ≤ 240) : splice zeroL 0 (bkHeadL b ++ pairsL b.ps) = pageBk b := by
  unfold splice pageBk zeroL
  rw [List.take_zero, List.nil_append, Nat.zero_add, List.drop_replicate, List.length_append, bkHeadL_length, pairsL_length, List.append_assoc]
theorem page_head (b : BV) : splice (splice zeroL 0 [66]) 1 ([putB b.d 1, putB b.x 4, putB (b.ps.length : Int) 2] : List (List Int)).flatten = splice zeroL 0 (bkHeadL b ++ pairsL (b.ps.take 0)) := by
  have h := splice_two (L := zeroL) (d := [66]) (e := ([putB b.d 1, putB b.x 4, putB (b.ps.length : Int) 2] : List (List Int)).flatten) (a := 0) (by simp [putB_length, zeroL_length])
  have e : bkHeadL b ++ pairsL (b.ps.take 0) = [66] ++ ([putB b.d 1, putB b.x 4, putB (b.ps.length : Int) 2] : List (List Int)).flatten := by
    simp [bkHeadL, pairsL]
  rw [e, ← h]
  rfl
theorem page_pair {b : BV} {k : Nat} {y : KV} (hy : b.ps[k]? = some y) (hm : mayBk b = true) : splice (splice zeroL 0 (bkHeadL b ++ pairsL (b.ps.take k))) (8 + szP (b.ps.take k)) ([putB (y.1.length : Int) 1, putB (y.2.length : Int) 1, y.1, y.2] : List (List Int)).flatten = splice zeroL 0 (bkHeadL b ++ pairsL (b.ps.take (k + 1))) := by
  obtain ⟨h1, h2, h3, h4⟩ := mayBk_few hm
  obtain ⟨p1, p2, p3⟩ := pairsB_at h4 hy
  have e1 : ([putB (y.1.length : Int) 1, putB (y.2.length : Int) 1, y.1, y.2] : List (List Int)).flatten = pairL y := by
    rw [putB_one (by omega), putB_one (by omega)]
    simp [pairL]
  have hs := szP_step hy
  have hle := szP_take_le b.ps (k + 1)
  have hl : (bkHeadL b ++ pairsL (b.ps.take k)).length = 8 + szP (b.ps.take k) := by rw [List.length_append, bkHeadL_length, pairsL_length]
  have h := splice_two (L := zeroL) (d := bkHeadL b ++ pairsL (b.ps.take k)) (e := pairL y) (a := 0) (by rw [hl, zeroL_length, pairL_length]; omega)
  rw [hl, Nat.zero_add] at h
  rw [e1, h, pairsL_step hy, List.append_assoc]
end Go.Proofs.YtinhdimalhfgkaaGreatDoor
