/-
  Contracts of bucket.Find and of the plain Find: the place of a key among a bucket's pairs. They make memory, and write nothing that was there. No condition.
-/
import Derived.Test.YthpgcdfbngngjaaBkA
import Derived.Test.YthpgcdfbngngjaaEqual
import Derived.BigQuiet
namespace Go.Proofs.Ythpgcdfbngngjaa
open Go.RowKit
set_option maxRecDepth 100000
set_option linter.unusedVariables false

theorem pair_box (w : World) (u v : Value) : (w.alloc (.cells #[u, v] 48 (0, 0))).cell? ⟨w.heap.size, 0, none⟩ = some u ∧ (w.alloc (.cells #[u, v] 48 (0, 0))).cell? ⟨w.heap.size, 1, none⟩ = some v := by
  have h := heap_alloc_new w (.cells #[u, v] 48 (0, 0))
  constructor <;> (rw [cell_of_row _ _ _ _ _ (0, 0) h]; rfl)

set_option maxHeartbeats 400000 in
theorem find1_any {w : World} {B kn kc : Nat} {ka : Option Addr} {k key : List Int} (v : Value) (kx : Addr) (KA : Option Addr) (Kn Kc : Nat) (hk : RB w B ka kn k) (hB : B ≤ w.heap.size) (hx : w.cell? kx = some (.slice KA Kn Kc)) (hkey : RB w B KA Kn key) :
    Calls Try.prog 35 #[.agg #[.slice ka kn kc, v], .pointer (some kx)] w fun e w' => e = .returned (.bool (decide (k = key))) ∧ Below w.heap.size w w' := by
  have hX : Below w.heap.size w (w.alloc (.cells #[.slice ka kn kc, v] 48 (0, 0))) := (Below.refl _ _).alloc (Nat.le_refl _) _
  obtain ⟨x0, x1⟩ := pair_box w (.slice ka kn kc) v
  have hx' := (World.cell?_alloc_lt w (.cells #[.slice ka kn kc, v] 48 (0, 0)) kx (World.block_lt_of_cell? _ _ hx)).trans hx
  have HE := Lib.hid (Equal_any kc Kc (hk.below (hX.mono hB)) (hkey.below (hX.mono hB)))
  have HX := Lib.hid hX
  clear hX hk hkey hx
  go_enter Try.func35, Try.ntmps35
  go_wp2_with fail
  refine HE.out.mono ?_
  rintro e w' ⟨rfl, rfl⟩
  clear x0 x1 hx'
  go_wp2
  go_ret
  exact ⟨rfl, HX.out⟩

set_option maxHeartbeats 800000 in
theorem findIdx_any {w : World} {B n : Nat} {A : Option Addr} {ps : List KV} {key : List Int} (c : Nat) (kx : Addr) (KA : Option Addr) (Kn Kc : Nat) (hr : RPairs w B A n ps) (hm : n ≤ maxLen) (hB : B ≤ w.heap.size) (hx : w.cell? kx = some (.slice KA Kn Kc)) (hkey : RB w B KA Kn key) :
    Calls Try.prog 34 #[.slice A n c, .func (.func 35) #[] #[.pointer (some kx)]] w fun e w' => e = .returned (.int .i64 (findI ps key)) ∧ Below w.heap.size w w' := by
  unfold maxLen at hm
  have HKX := Lib.hid (And.intro hx (And.intro (World.block_lt_of_cell? _ _ hx) hkey))
  have HR := Lib.hid hr
  clear hr hx hkey
  go_enter Try.func34, Try.ntmps34
  go_wp2_with fail
  go_loopw [8] (fun i wr => ∃ j : Nat, j ≤ n ∧ i = .int .i64 j ∧ Hid (∀ (m : Nat) (y : KV), m < j → ps[m]? = some y → y.1 ≠ key) ∧ Hid (Below w.heap.size w wr)) (fun i _ => n - (intOf i).toNat)
  case atStart => exact ⟨0, Nat.zero_le _, rfl, Lib.hid (fun m y hm => absurd hm (by omega)), Lib.hid (Below.refl _ _)⟩
  case round =>
    obtain ⟨j, hj, rfl, hbef, hbw⟩ := hrel
    by_cases hlt : j < n
    · obtain ⟨b, off, rfl, hb, hat⟩ := HR.out.2 (by omega)
      obtain ⟨y, hy⟩ : ∃ y, ps[j]? = some y := ⟨_, List.getElem?_eq_getElem (by rw [HR.out.len]; exact hlt)⟩
      obtain ⟨ka, kn, kc, va, vn, vc, h0, h1, h2, h3, h4, h5⟩ := (hat j y hy).keep hb (fun b o hbb => hbw.out.cell (p := ⟨b, o, none⟩) (Nat.lt_of_lt_of_le hbb hB))
      have HF := Lib.hid (find1_any (kc := kc) (.slice va vn vc) kx KA Kn Kc h2 (Nat.le_trans hB hbw.out.size) ((hbw.out.cell HKX.out.2.1).trans HKX.out.1) (HKX.out.2.2.below (hbw.out.mono hB)))
      have HY := Lib.hid hy
      clear hat hy h2 h3 h4 h5
      have hlt' : (j : Int) < (n : Int) := by omega
      by_cases hk : y.1 = key
      · rw [decide_eq_true hk] at HF
        have HEX := Lib.hid (findI_at HY.out hk hbef.out)
        clear hk
        go_wp2_with fail
        refine HF.out.mono ?_
        rintro e w' ⟨rfl, hb'⟩
        have HE := Lib.hid (hbw.out.trans (hb'.mono hbw.out.size))
        clear hb' h0 h1
        go_wp2
        go_ret
        rw [HEX.out]
        exact ⟨rfl, HE.out⟩
      · rw [decide_eq_false hk] at HF
        have hn := Lib.hid (fun (m : Nat) (z : KV) (hm : m < j + 1) => show ps[m]? = some z → z.1 ≠ key by
          intro hz
          rcases Nat.lt_or_ge m j with h | h
          · exact hbef.out m z h hz
          · obtain rfl : m = j := by omega
            rw [HY.out] at hz
            cases hz
            exact hk)
        clear hk
        go_wp2_with fail
        refine HF.out.mono ?_
        rintro e w' ⟨rfl, hb'⟩
        have HE := Lib.hid (hbw.out.trans (hb'.mono hbw.out.size))
        clear hb' h0 h1
        go_wp2
        go_roundw
        case rel => exact ⟨j + 1, by omega, by go_num, hn, HE⟩
        case measure => simp [intOf]; omega
    · obtain rfl : j = n := by omega
      have HEX := Lib.hid (findI_none (ps := ps) (key := key) (fun m y hy => hbef.out m y (by have := (List.getElem?_eq_some_iff.1 hy).1; rw [HR.out.len] at this; exact this) hy))
      go_wp2
      go_ret
      rw [HEX.out]
      exact ⟨rfl, hbw.out⟩

set_option maxHeartbeats 800000 in
theorem bkFind_any {w : World} {B n Kn : Nat} {A KA : Option Addr} {ps : List KV} {key : List Int} (d x : Int) (c Kc : Nat) (hr : RPairs w B A n ps) (hB : B ≤ w.heap.size) (hm : n ≤ maxLen) (hkey : RB w B KA Kn key) :
    Calls Try.prog 21 #[.agg #[.int .i64 d, .int .i64 x, .slice A n c], .slice KA Kn Kc] w fun e w' => e = .returned (.int .i64 (findI ps key)) ∧ Below w.heap.size w w' := by
  have hX : Below w.heap.size w ((w.alloc (BkObj d x A n c)).alloc (.cells #[.slice KA Kn Kc] 22 (0, 0))) := ((Below.refl _ _).alloc (Nat.le_refl _) _).alloc (by simp) _
  have hbx : BkBox ((w.alloc (BkObj d x A n c)).alloc (.cells #[.slice KA Kn Kc] 22 (0, 0))) w.heap.size d x A n c := (BkBox.new w d x A n c).below ((Below.refl _ _).alloc (Nat.le_refl _) _)
  have hkx : ((w.alloc (BkObj d x A n c)).alloc (.cells #[.slice KA Kn Kc] 22 (0, 0))).cell? ⟨w.heap.size + 1, 0, none⟩ = some (.slice KA Kn Kc) := by
    have h := heap_alloc_new (w.alloc (BkObj d x A n c)) (.cells #[.slice KA Kn Kc] 22 (0, 0))
    have e : (w.alloc (BkObj d x A n c)).heap.size = w.heap.size + 1 := by simp
    rw [e] at h
    rw [cell_of_row _ _ _ _ _ (0, 0) h]
    rfl
  have HF := Lib.hid (findIdx_any c ⟨w.heap.size + 1, 0, none⟩ KA Kn Kc (hr.below (hX.mono hB)) hm (Nat.le_trans hB hX.size) hkx (hkey.below (hX.mono hB)))
  obtain ⟨x0, x1, x2, _⟩ := hbx.cells
  have HX := Lib.hid hX
  clear hX hbx hkx hr hkey
  unfold BkObj at *
  go_enter Try.func21, Try.ntmps21
  go_wp2_with fail
  refine HF.out.mono ?_
  rintro e w' ⟨rfl, hb⟩
  have HE := Lib.hid (HX.out.trans (hb.mono HX.out.size))
  clear hb x0 x1 x2
  go_wp2
  go_ret
  exact ⟨rfl, HE.out⟩

theorem RB.drewN {w : World} {B n : Nat} {A : Option Addr} {l : List Int} (h : RB w B A n l) (m : Nat) : RB (w.drewN m) B A n l := h.keep fun _ _ _ => rfl
theorem str_eq {l m : List Int} (hl : AllBytes l) (hm : AllBytes m) : ((strOfNums l).toList == (strOfNums m).toList) = decide (l = m) := by
  by_cases e : l = m
  · subst e; simp
  · have : ¬ (strOfNums l).toList = (strOfNums m).toList := fun e' => e (strOfNums_inj hl hm e')
    simp [e, this]

set_option maxHeartbeats 1600000 in
theorem refBkFind_any {w : World} {B n Kn : Nat} {A KA : Option Addr} {ps : List KV} {key : List Int} (d x : Int) (c Kc : Nat) (hr : RPairs w B A n ps) (hB : B ≤ w.heap.size) (hm : n ≤ maxLen) (hkey : RB w B KA Kn key) :
    Calls Try.prog 22 #[.agg #[.int .i64 d, .int .i64 x, .slice A n c], .slice KA Kn Kc] w fun e w' => e = .returned (.int .i64 (findI ps key)) ∧ Below w.heap.size w w' := by
  unfold maxLen at hm
  have HR := Lib.hid hr
  have HKEY := Lib.hid hkey
  have HK := Lib.hid (fun wr => BkBox.kept (w := w) (wr := wr) (n := n) (c := c) (d := d) (x := x) (A := A))
  clear hr hkey
  unfold BkObj at HK
  go_enter Try.func22, Try.ntmps22
  go_wp2_with fail
  go_loopw [5] (fun i wr => ∃ j : Nat, j ≤ n ∧ i = .int .i64 j ∧ Hid (∀ (m : Nat) (y : KV), m < j → ps[m]? = some y → y.1 ≠ key) ∧ Hid (Below (w.alloc (.cells #[.int .i64 d, .int .i64 x, .slice A n c] 31 (0, 0))).heap.size (w.alloc (.cells #[.int .i64 d, .int .i64 x, .slice A n c] 31 (0, 0))) wr)) (fun i _ => n - (intOf i).toNat)
  case atStart => exact ⟨0, Nat.zero_le _, rfl, Lib.hid (fun m y hm => absurd hm (by omega)), Lib.hid (Below.refl _ _)⟩
  case round =>
    obtain ⟨j, hj, rfl, hbef, hb0⟩ := hrel
    obtain ⟨hbx, hbw⟩ := HK.out wr hb0.out
    obtain ⟨x0, x1, x2, _⟩ := hbx.cells
    by_cases hlt : j < n
    · obtain ⟨b, off, rfl, hb, hat⟩ := HR.out.2 (by omega)
      obtain ⟨y, hy⟩ : ∃ y, ps[j]? = some y := ⟨_, List.getElem?_eq_getElem (by rw [HR.out.len]; exact hlt)⟩
      obtain ⟨ka, kn, kc, va, vn, vc, h0, h1, h2, h3, h4, h5⟩ := (hat j y hy).keep hb (fun b o hbb => hbw.cell (p := ⟨b, o, none⟩) (Nat.lt_of_lt_of_le hbb hB))
      have c1 := fun m => (h2.drewN m).conv kc
      have c2 := fun m => ((HKEY.out.below (hbw.mono hB)).drewN m).conv Kc
      have HS := Lib.hid (str_eq h2.bytes HKEY.out.bytes)
      have HY := Lib.hid hy
      clear hat hy h2 h3 h4 h5 hbw hbx
      have hlt' : (j : Int) < (n : Int) := by omega
      by_cases hk : y.1 = key
      · have hs : ((strOfNums y.1).toList == (strOfNums key).toList) = true := by rw [HS.out, decide_eq_true hk]
        have HEX := Lib.hid (findI_at HY.out hk hbef.out)
        clear hk HS
        go_wp2_with fail
        go_quiet (fail)
        go_wp2
        go_ret
        rw [HEX.out]
        exact ⟨rfl, (HK.out _ (below_drewN hb0.out _)).2⟩
      · have hs : ((strOfNums y.1).toList == (strOfNums key).toList) = false := by rw [HS.out, decide_eq_false hk]
        have hn := Lib.hid (fun (m : Nat) (z : KV) (hm : m < j + 1) => show ps[m]? = some z → z.1 ≠ key by
          intro hz
          rcases Nat.lt_or_ge m j with h | h
          · exact hbef.out m z h hz
          · obtain rfl : m = j := by omega
            rw [HY.out] at hz
            cases hz
            exact hk)
        clear hk HS
        go_wp2_with fail
        go_quiet (fail)
        go_wp2
        go_roundw
        case rel => exact ⟨j + 1, by omega, by go_num, hn, Lib.hid (below_drewN hb0.out _)⟩
        case measure => simp [intOf]; omega
    · obtain rfl : j = n := by omega
      have HEX := Lib.hid (findI_none (ps := ps) (key := key) (fun m y hy => hbef.out m y (by have := (List.getElem?_eq_some_iff.1 hy).1; rw [HR.out.len] at this; exact this) hy))
      have HB := Lib.hid hbw
      clear hbw hbx
      go_wp2
      go_ret
      rw [HEX.out]
      exact ⟨rfl, HB.out⟩
end Go.Proofs.Ythpgcdfbngngjaa
