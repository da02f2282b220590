/-
  A page as pairs, said over plain lists; contracts of bucket.number and cut. Condition: a page of 240 bytes, a place within it.
-/
import Derived.Test.YthpgcdfbngngjaaBkF
namespace Go.Proofs.Ythpgcdfbngngjaa
open Go.RowKit
set_option maxRecDepth 100000
set_option linter.unusedVariables false

theorem getR_int {l : List Int} (hb : AllBytes l) (a s : Int) : -9223372036854775808 ≤ (getR l a s).1 ∧ (getR l a s).1 ≤ 9223372036854775807 := by
  unfold getR
  split
  · split
    · exact ⟨by decide, by decide⟩
    · show -9223372036854775808 ≤ numOf _ ∧ numOf _ ≤ 9223372036854775807
      rw [numOf_eq _ ((hb.drop _).take _)]
      generalize beOf _ = x
      unfold wrap64
      omega
  · exact ⟨by decide, by decide⟩
theorem getR_byte {l : List Int} (hb : AllBytes l) (a : Nat) : ∃ x : Nat, x < 256 ∧ (getR l (a : Int) 1).1 = (x : Int) ∧ (a < l.length → l[a]?.getD 0 = (x : Int)) := by
  have h0 := hb.getD a
  unfold getR
  rw [if_pos ⟨by decide, by omega⟩]
  split
  · exact ⟨0, by decide, rfl, fun h => by omega⟩
  · rename_i h
    have ha : a < l.length := by omega
    refine ⟨(l[a]?.getD 0).toNat, by omega, ?_, fun _ => by omega⟩
    have e : (l.drop ((a : Int).toNat)).take ((1 : Int).toNat) = [l[a]?.getD 0] := by
      rw [Int.toNat_natCast, List.getElem?_eq_getElem ha, List.drop_eq_getElem_cons ha]
      rfl
    rw [e]
    show numOf [l[a]?.getD 0] = _
    rw [numOf_eq _ (fun x hx => by obtain rfl : x = _ := by simpa using hx
                                   exact h0)]
    show wrap64 (0 * 256 + l[a]?.getD 0) = _
    unfold wrap64
    omega

/-- How long a key and a value at a place of a page are, and where the next pair stands. -/
def kN (l : List Int) (a : Nat) : Nat := ((getR l (a : Int) 1).1).toNat
def vN (l : List Int) (a : Nat) : Nat := ((getR l ((a + 1 : Nat) : Int) 1).1).toNat
def cutE (l : List Int) (a : Nat) : Nat := a + 2 + kN l a + vN l a
def cutK (l : List Int) (a : Nat) : List Int := (l.drop (a + 2)).take (kN l a)
def cutV (l : List Int) (a : Nat) : List Int := (l.drop (a + 2 + kN l a)).take (vN l a)
theorem kN_eq {l : List Int} (hb : AllBytes l) (a : Nat) : kN l a < 256 ∧ (getR l (a : Int) 1).1 = (kN l a : Int) := by
  obtain ⟨x, h1, h2, _⟩ := getR_byte hb a
  unfold kN
  rw [h2]
  exact ⟨by omega, by omega⟩
theorem vN_eq {l : List Int} (hb : AllBytes l) (a : Nat) : vN l a < 256 ∧ (getR l ((a + 1 : Nat) : Int) 1).1 = (vN l a : Int) := by
  obtain ⟨x, h1, h2, _⟩ := getR_byte hb (a + 1)
  unfold vN
  rw [h2]
  exact ⟨by omega, by omega⟩

/-- The pairs of a page, from some place on; c at most. -/
def cutsL (l : List Int) : Nat → Nat → List KV
  | 0, _ => []
  | c + 1, a => if 240 < cutE l a then [] else (cutK l a, cutV l a) :: cutsL l c (cutE l a)
theorem cutsL_zero (l : List Int) (a : Nat) : cutsL l 0 a = [] := rfl
theorem cutsL_stop {l : List Int} {c a : Nat} (h : 240 < cutE l a) : cutsL l c a = [] := by
  cases c with
  | zero => rfl
  | succ c => unfold cutsL; rw [if_pos h]
theorem cutsL_go {l : List Int} {c a : Nat} (h : ¬ 240 < cutE l a) : cutsL l (c + 1) a = (cutK l a, cutV l a) :: cutsL l c (cutE l a) := by
  show (if 240 < cutE l a then [] else (cutK l a, cutV l a) :: cutsL l c (cutE l a)) = _
  rw [if_neg h]
/-- A page, read. -/
def cntBk (l : List Int) : Nat := ((getR l 6 2).1).toNat
def readBk (l : List Int) : BV := ⟨(getR l 1 1).1, (getR l 2 4).1, cutsL l (cntBk l) 8⟩
/-- Parse. -/
def parseBk (l : List Int) : BV × Int := if l.length = 240 ∧ mayBk (readBk l) = true ∧ pageBk (readBk l) = l then (readBk l, 0) else (⟨0, 0, []⟩, 4)

set_option maxHeartbeats 400000 in
theorem bkNumber_any {w : World} {B n c : Nat} {A : Option Addr} {l : List Int} (a s : Int) (hr : RB w B A n l) (hc : n ≤ c) (hm : n ≤ maxLen) :
    Calls Try.prog 46 #[.slice A n c, .int .i64 a, .int .i64 s] w fun e w' => e = .returned (.int .i64 (getR l a s).1) ∧ w = w' := by
  have HG := Lib.hid (Get_any A n c B l a s w hr hc hm)
  generalize getR l a s = r at HG ⊢
  go_enter Try.func46, Try.ntmps46
  go_wp2_with fail
  refine HG.out.mono ?_
  rintro e w' ⟨rfl, rfl⟩
  go_wp2
  go_ret
  exact ⟨rfl, rfl⟩

set_option maxHeartbeats 1600000 in
theorem bkCut_beyond {w : World} {B n c : Nat} {A : Option Addr} {l : List Int} (a : Nat) (hr : RB w B A n l) (hB : B ≤ w.heap.size) (hn : n = 240) (hc : n ≤ c) (ha : a ≤ 240) (he : 240 < cutE l a) :
    Calls Try.prog 47 #[.slice A n c, .int .i64 (a : Int)] w fun e w' => e = .returned (.tuple #[.agg #[.slice none 0 0, .slice none 0 0], .int .i64 (cutE l a : Int)]) ∧ Below w.heap.size w w' := by
  have hX : Below w.heap.size w (w.alloc (.cells #[.slice none 0 0, .slice none 0 0] 48 (0, 0))) := (Below.refl _ _).alloc (Nat.le_refl _) _
  have hk := kN_eq hr.bytes a
  have hv := vN_eq hr.bytes a
  have H1 := bkNumber_any (a : Int) 1 (hr.below (hX.mono hB)) hc (by subst hn; decide)
  have H2 := bkNumber_any ((a + 1 : Nat) : Int) 1 (hr.below (hX.mono hB)) hc (by subst hn; decide)
  rw [hk.2] at H1
  rw [hv.2] at H2
  rw [show ((a + 1 : Nat) : Int) = (a : Int) + 1 by omega] at H2
  have HX := Lib.hid hX
  have H1 := Lib.hid H1
  have H2 := Lib.hid H2
  have hk256 := hk.1
  have hv256 := hv.1
  have hE := Lib.hid (show cutE l a = a + 2 + kN l a + vN l a from rfl)
  rw [hE.out] at he
  rw [hE.out]
  clear hE hX hk hv hr hc
  subst hn
  generalize kN l a = k at *
  generalize vN l a = v at *
  go_enter Try.func47, Try.ntmps47
  go_wp2_with fail
  refine H1.out.mono ?_
  rintro e w' ⟨rfl, rfl⟩
  go_wp2_with fail
  refine H2.out.mono ?_
  rintro e w' ⟨rfl, rfl⟩
  go_wp2
  obtain ⟨d0, d1⟩ := (PBox.new w (.slice none 0 0) (.slice none 0 0)).cells
  refine bodyPost_ret (v := .tuple #[.agg #[.slice none 0 0, .slice none 0 0], .int .i64 (a + 2 + k + v : Int)]) (by
    simp [results, Try.results47, go_sem, d0, d1]) rfl ?_
  exact ⟨rfl, HX.out⟩

set_option maxHeartbeats 1600000 in
theorem bkCut_within {w : World} {B n c : Nat} {A : Option Addr} {l : List Int} (a : Nat) (hr : RB w B A n l) (hB : B ≤ w.heap.size) (hn : n = 240) (hc : n ≤ c) (he : ¬ 240 < cutE l a) :
    Calls Try.prog 47 #[.slice A n c, .int .i64 (a : Int)] w fun e w' => ∃ ka va, e = .returned (.tuple #[.agg #[.slice ka (kN l a) (kN l a), .slice va (vN l a) (vN l a)], .int .i64 (cutE l a : Int)]) ∧ RB w B ka (kN l a) (cutK l a) ∧ RB w B va (vN l a) (cutV l a) ∧ Below w.heap.size w w' ∧ ∀ y, (ka = some y ∨ va = some y) → ∃ x, A = some x ∧ y.block = x.block := by
  have hX : Below w.heap.size w (w.alloc (.cells #[.slice none 0 0, .slice none 0 0] 48 (0, 0))) := (Below.refl _ _).alloc (Nat.le_refl _) _
  have hk := kN_eq hr.bytes a
  have hv := vN_eq hr.bytes a
  have H1 := bkNumber_any (a : Int) 1 (hr.below (hX.mono hB)) hc (by subst hn; decide)
  have H2 := bkNumber_any ((a + 1 : Nat) : Int) 1 (hr.below (hX.mono hB)) hc (by subst hn; decide)
  rw [hk.2] at H1
  rw [hv.2] at H2
  rw [show ((a + 1 : Nat) : Int) = (a : Int) + 1 by omega] at H2
  have HX := Lib.hid hX
  have H1 := Lib.hid H1
  have H2 := Lib.hid H2
  have hk256 := hk.1
  have hv256 := hv.1
  have hE := Lib.hid (show cutE l a = a + 2 + kN l a + vN l a from rfl)
  rw [hE.out] at he
  rw [hE.out]
  obtain ⟨b, off, rfl, hb, hcell⟩ := hr.at_ (by omega)
  have rk : RB w B (some ⟨b, off + (a + 2), none⟩) (kN l a) (cutK l a) := by
    refine ⟨by unfold cutK; rw [List.length_take, List.length_drop, hr.len]; omega, (hr.bytes.drop _).take _, fun _ => ⟨b, off + (a + 2), rfl, hb, fun j hj => ?_⟩⟩
    rw [Nat.add_assoc, hcell (a + 2 + j) (by omega)]
    unfold cutK
    rw [List.getElem?_take, if_pos hj, List.getElem?_drop]
  have rv : RB w B (some ⟨b, off + (a + 2 + kN l a), none⟩) (vN l a) (cutV l a) := by
    refine ⟨by unfold cutV; rw [List.length_take, List.length_drop, hr.len]; omega, (hr.bytes.drop _).take _, fun _ => ⟨b, off + (a + 2 + kN l a), rfl, hb, fun j hj => ?_⟩⟩
    rw [Nat.add_assoc, hcell (a + 2 + kN l a + j) (by omega)]
    unfold cutV
    rw [List.getElem?_take, if_pos hj, List.getElem?_drop]
  have RK := Lib.hid rk
  have RV := Lib.hid rv
  have RK0 := Lib.hid (fun (h : kN l a = 0) (X : Option Addr) => show RB w B X (kN l a) (cutK l a) from ⟨rk.1, rk.2.1, fun hp => by omega⟩)
  have RV0 := Lib.hid (fun (h : vN l a = 0) (X : Option Addr) => show RB w B X (vN l a) (cutV l a) from ⟨rv.1, rv.2.1, fun hp => by omega⟩)
  clear hE hX hk hv hr hcell rk rv
  subst hn
  generalize kN l a = k at *
  generalize vN l a = v at *
  generalize cutK l a = K at *
  generalize cutV l a = V at *
  go_enter Try.func47, Try.ntmps47
  go_wp2_with fail
  refine H1.out.mono ?_
  rintro e w' ⟨rfl, rfl⟩
  go_wp2_with fail
  refine H2.out.mono ?_
  rintro e w' ⟨rfl, rfl⟩
  rcases Nat.eq_zero_or_pos k with k0 | k0 <;> rcases Nat.eq_zero_or_pos v with v0 | v0
  · subst k0 v0
    go_wp2_with fail
    go_region
    go_wp2
    have hpb := (PBox.new w (.slice (some ⟨b, off, none⟩) 0 0) (.slice (some ⟨b, off, none⟩) 0 0)).drew
    have HE := Lib.hid (show Below w.heap.size w (w.alloc (.cells #[.slice (some ⟨b, off, none⟩) 0 0, .slice (some ⟨b, off, none⟩) 0 0] 48 (0, 0))).drew from ((Below.refl _ _).alloc (Nat.le_refl _) _).drew)
    obtain ⟨d0, d1⟩ := hpb.cells
    refine bodyPost_ret (v := .tuple #[.agg #[.slice (some ⟨b, off, none⟩) 0 0, .slice (some ⟨b, off, none⟩) 0 0], .int .i64 ((a : Int) + 2)]) (by
      simp [results, Try.results47, go_sem, d0, d1]) rfl ?_
    exact ⟨_, _, rfl, RK0.out trivial _, RV0.out trivial _, HE.out, fun y hy => ⟨_, rfl, by rcases hy with hy | hy <;> (cases hy; rfl)⟩⟩
  · subst k0
    have hv0 : ¬ v = 0 := by omega
    go_wp2_with fail
    go_region
    go_wp2
    have hpb := (PBox.new w (.slice (some ⟨b, off, none⟩) 0 0) (.slice (some ⟨b, off + (a + 2), none⟩) v v)).drew
    have HE := Lib.hid (show Below w.heap.size w (w.alloc (.cells #[.slice (some ⟨b, off, none⟩) 0 0, .slice (some ⟨b, off + (a + 2), none⟩) v v] 48 (0, 0))).drew from ((Below.refl _ _).alloc (Nat.le_refl _) _).drew)
    obtain ⟨d0, d1⟩ := hpb.cells
    refine bodyPost_ret (v := .tuple #[.agg #[.slice (some ⟨b, off, none⟩) 0 0, .slice (some ⟨b, off + (a + 2), none⟩) v v], .int .i64 ((a : Int) + 2 + (v : Int))]) (by
      simp [results, Try.results47, go_sem, d0, d1]) rfl ?_
    exact ⟨_, _, rfl, RK0.out trivial _, RV.out, HE.out, fun y hy => ⟨_, rfl, by rcases hy with hy | hy <;> (cases hy; rfl)⟩⟩
  · subst v0
    have hk0 : ¬ k = 0 := by omega
    go_wp2_with fail
    go_region
    go_wp2
    have hpb := (PBox.new w (.slice (some ⟨b, off + (a + 2), none⟩) k k) (.slice (some ⟨b, off, none⟩) 0 0)).drew
    have HE := Lib.hid (show Below w.heap.size w (w.alloc (.cells #[.slice (some ⟨b, off + (a + 2), none⟩) k k, .slice (some ⟨b, off, none⟩) 0 0] 48 (0, 0))).drew from ((Below.refl _ _).alloc (Nat.le_refl _) _).drew)
    obtain ⟨d0, d1⟩ := hpb.cells
    refine bodyPost_ret (v := .tuple #[.agg #[.slice (some ⟨b, off + (a + 2), none⟩) k k, .slice (some ⟨b, off, none⟩) 0 0], .int .i64 ((a : Int) + 2 + (k : Int))]) (by
      simp [results, Try.results47, go_sem, d0, d1]) rfl ?_
    exact ⟨_, _, rfl, RK.out, RV0.out trivial _, HE.out, fun y hy => ⟨_, rfl, by rcases hy with hy | hy <;> (cases hy; rfl)⟩⟩
  · have hv0 : ¬ v = 0 := by omega
    have hk0 : ¬ k = 0 := by omega
    go_wp2_with fail
    go_region
    go_wp2
    have hpb := (PBox.new w (.slice (some ⟨b, off + (a + 2), none⟩) k k) (.slice (some ⟨b, off + (a + 2 + k), none⟩) v v)).drew
    have HE := Lib.hid (show Below w.heap.size w (w.alloc (.cells #[.slice (some ⟨b, off + (a + 2), none⟩) k k, .slice (some ⟨b, off + (a + 2 + k), none⟩) v v] 48 (0, 0))).drew from ((Below.refl _ _).alloc (Nat.le_refl _) _).drew)
    obtain ⟨d0, d1⟩ := hpb.cells
    refine bodyPost_ret (v := .tuple #[.agg #[.slice (some ⟨b, off + (a + 2), none⟩) k k, .slice (some ⟨b, off + (a + 2 + k), none⟩) v v], .int .i64 ((a : Int) + 2 + (k : Int) + (v : Int))]) (by
      simp [results, Try.results47, go_sem, d0, d1]) rfl ?_
    exact ⟨_, _, rfl, RK.out, RV.out, HE.out, fun y hy => ⟨_, rfl, by rcases hy with hy | hy <;> (cases hy; rfl)⟩⟩
end Go.Proofs.Ythpgcdfbngngjaa
