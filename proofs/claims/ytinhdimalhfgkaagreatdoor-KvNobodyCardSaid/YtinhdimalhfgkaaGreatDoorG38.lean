/-
  The texts ExtY, ExtZ, ExuA, ExuB, ExuC joined. Conditions: those that each part says at its head.
-/
import Derived.Test.YtinhdimalhfgkaaGreatDoorG37
import Derived.Test.YtinhdimalhfgkaaGreatDoorG30

/-
  A change makes the directory one of twice as many slots: contract of double. Conditions: numbers are ints; each page is taken; fewer than 4,000,000 steps.
-/
namespace Go.Proofs.YtinhdimalhfgkaaGreatDoor
open Go.RowKit
set_option maxRecDepth 100000
set_option linter.unusedVariables false

/-- The slots behind the first N, so many of them turned. -/
def dblSL (N : Nat) (pgs : Nat → Int) (k : Nat) (SL : Int → Option Int) : Int → Option Int := fun i => if (N : Int) ≤ i ∧ i < ((N + k : Nat) : Int) then some (pgs (i - (N : Int)).toNat) else SL i
/-- The steps that turn them. -/
def dblSS (N : Nat) (pgs : Nat → Int) (k : Nat) : List Stp := (List.range k).map (fun j => Stp.pt ((N + j : Nat) : Int) (pgs j))
theorem dblSL_zero (N : Nat) (pgs : Nat → Int) (SL : Int → Option Int) : dblSL N pgs 0 SL = SL := by
  funext i
  unfold dblSL
  rw [if_neg (by omega)]
theorem dblSL_step (N : Nat) (pgs : Nat → Int) (k : Nat) (SL : Int → Option Int) : (fun i => if i = ((N + k : Nat) : Int) then some (pgs k) else dblSL N pgs k SL i) = dblSL N pgs (k + 1) SL := by
  funext i
  unfold dblSL
  by_cases h : i = ((N + k : Nat) : Int)
  · rw [if_pos h, if_pos (by omega)]
    congr 2
    omega
  · rw [if_neg h]
    by_cases h2 : (N : Int) ≤ i ∧ i < ((N + k : Nat) : Int)
    · rw [if_pos h2, if_pos (by omega)]
    · rw [if_neg h2, if_neg (by omega)]
theorem dblSL_low (N : Nat) (pgs : Nat → Int) (k : Nat) (SL : Int → Option Int) {i : Int} (h : i < (N : Int)) : dblSL N pgs k SL i = SL i := by
  unfold dblSL
  rw [if_neg (by omega)]
theorem dblSS_step (N : Nat) (pgs : Nat → Int) (k : Nat) : dblSS N pgs (k + 1) = dblSS N pgs k ++ [Stp.pt ((N + k : Nat) : Int) (pgs k)] := by
  unfold dblSS
  rw [List.range_succ, List.map_append]
  rfl
theorem dblSS_length (N : Nat) (pgs : Nat → Int) (k : Nat) : (dblSS N pgs k).length = k := by unfold dblSS; simp

section
variable {D : World → (Nat → Prop) → Addr → DS → Prop} {w0 w w' : World} {F O : Nat → Prop} {p : Addr} {S : DS} {q r b st ch mb : Nat} {seq : Int} {L : List (Int × List Int)} {M M' : MV} {v v' sv : Value} {ns : Nat} {SL : Int → Option Int} {fs : List Value} {ss : List Stp}

set_option maxHeartbeats 3200000 in
theorem double_g (api : DiskApi D) (hS : SAt D w0 F O p S q seq r b st L) (h : Gath w0 w ch st mb M M' v v' sv ns SL fs ss) (hd : 0 ≤ M'.d ∧ M'.d ≤ 9) {M2 : MV} {ss1 : List Stp} (hlen : LenIs S L { M' with d := M'.d + 1 } M2 ss1) (pgs : Nat → Int) (hpg : ∀ k : Nat, k < 2 ^ depD M'.d → PageIs S L M SL (k : Int) (pgs k) ∧ -9223372036854775808 ≤ pgs k ∧ pgs k ≤ 9223372036854775807) (hm : fs.length + ss1.length + 1024 ≤ 3999999) (hns : ns + 1024 ≤ 3999999) :
    Calls Tryz.prog 218 #[.pointer (some ⟨ch, 0, none⟩)] w fun e w' => e = .returned (.int .i64 0) ∧ ∃ v2 sv2 fs2, Gath w0 w' ch st mb M M2 v v2 sv2 (ns + 2 ^ depD M'.d) (dblSL (2 ^ depD M'.d) pgs (2 ^ depD M'.d) SL) fs2 (ss ++ ss1 ++ dblSS (2 ^ depD M'.d) pgs (2 ^ depD M'.d)) ∧ fs2.length = fs.length + ss1.length + 2 ^ depD M'.d ∧ Went w0.heap.size w.heap.size ch mb v' sv v2 sv2 fs fs2 ss (ss ++ ss1 ++ dblSS (2 ^ depD M'.d) pgs (2 ^ depD M'.d)) w w' := by
  have hsh := shlD (d := M'.d) ⟨hd.1, by omega⟩
  have hpw := powD_le M'.d
  obtain ⟨_, _, _, _, _, y6, _⟩ := h.at_.cells2
  have f6 := h.at_.frozen 6
  have HLN := Lib.hid (lengthen_g api hS (h.setDepth (M'.d + 1)) hlen (by omega))
  have HCW := Lib.hid (Went.cell (Z := w.heap.size) h 6 (.int .i64 (M'.d + 1)))
  generalize 2 ^ depD M'.d = N at *
  have HPG := Lib.hid hpg
  have HS := Lib.hid hS
  obtain ⟨hd0, hd9⟩ := hd
  clear h hlen hpg hS
  go_enter Tryz.func218, Tryz.ntmps218
  go_wp2_with fail
  refine HLN.out.mono ?_
  rintro e w1 ⟨rfl, v2, sv2, fs2, hg, hfl, hw1⟩
  have HW1 := Lib.hid (HCW.out.trans (hw1.mono HCW.out.touch.size))
  clear hw1
  have HG := Lib.hid hg
  have HFL := Lib.hid hfl
  simp only [hsh]
  clear hg hfl HLN hsh y6 f6
  go_wp2
  go_loopw [29] (fun i wr => ∃ (k : Nat) (svk : Value) (fsk : List Value), k ≤ N ∧ i = .int .i64 k ∧ Hid (Gath w0 wr ch st mb M M2 v v2 svk (ns + k) (dblSL N pgs k SL) fsk (ss ++ ss1 ++ dblSS N pgs k)) ∧ Hid (fsk.length = fs.length + ss1.length + k) ∧ Hid (Went w0.heap.size w.heap.size ch mb v' sv v2 svk fs fsk ss (ss ++ ss1 ++ dblSS N pgs k) w wr)) (fun i _ => N - (intOf i).toNat)
  case atStart => exact ⟨0, sv2, fs2, Nat.zero_le _, rfl, by rw [dblSL_zero]; unfold dblSS; simpa using HG, HFL, by unfold dblSS; simpa using HW1⟩
  case round =>
    obtain ⟨k, svk, fsk, hk, rfl, hg, hfl, hwk⟩ := hrel
    by_cases hlt : k < N
    · have k1 : decide (((k : Nat) : Int) < ((N : Nat) : Int)) = true := by simpa using hlt
      have hp := HPG.out k hlt
      have HPO := Lib.hid (pageOf_g (slot := (k : Int)) (pg := pgs k) api HS.out hg.out (by omega) (by
        rcases hp.1 with a | ⟨a, a2⟩
        · exact .inl (by rw [dblSL_low N pgs k SL (by omega)]; exact a)
        · exact .inr ⟨by rw [dblSL_low N pgs k SL (by omega)]; exact a, a2⟩))
      have HPR := Lib.hid hp.2
      clear hp
      go_wp2_with fail
      refine HPO.out.mono ?_
      rintro e w2 ⟨rfl, hb2⟩
      have HPT := Lib.hid (point_g (hg.out.keep hb2) ((N : Int) + (k : Int)) (pgs k) (by omega) HPR.out (by have := hfl.out; omega) (by omega))
      have e1 : wrap64 ((N : Int) + (k : Int)) = (N : Int) + (k : Int) := by unfold wrap64; omega
      have HW2 := Lib.hid (hwk.out.trans (Went.below hb2))
      clear hb2 HPO
      go_wp2_with fail
      refine HPT.out.mono ?_
      rintro e w3 ⟨rfl, svn, fn, hgn, hwn⟩
      have HW3 := Lib.hid (show Went w0.heap.size w.heap.size ch mb v' sv v2 svn fs (fsk ++ [fn]) ss (ss ++ ss1 ++ dblSS N pgs (k + 1)) w w3 from by
        rw [dblSS_step, ← List.append_assoc, show ((N + k : Nat) : Int) = (N : Int) + (k : Int) by omega]
        exact HW2.out.trans (hwn.mono HW2.out.touch.size))
      clear hwn HW2
      have HGN := Lib.hid (show Gath w0 w3 ch st mb M M2 v v2 svn (ns + (k + 1)) (dblSL N pgs (k + 1) SL) (fsk ++ [fn]) (ss ++ ss1 ++ dblSS N pgs (k + 1)) from by
        rw [← dblSL_step, dblSS_step, ← List.append_assoc, show ((N + k : Nat) : Int) = (N : Int) + (k : Int) by omega]
        exact hgn)
      clear hgn HPT e1
      go_wp2
      go_roundw
      case rel => exact ⟨k + 1, svn, fsk ++ [fn], by omega, by go_num, HGN, Lib.hid (by have := hfl.out; simp; omega), HW3⟩
      case measure => simp [intOf]; omega
    · obtain rfl : k = N := by omega
      go_wp2
      go_ret
      exact ⟨rfl, v2, svk, fsk, hg.out, hfl.out, hwk.out⟩
end
end Go.Proofs.YtinhdimalhfgkaaGreatDoor

/-
  A change lets slots be the higher half's: contract of repoint. Conditions: numbers are ints; fewer than 4,000,000 steps.
-/
namespace Go.Proofs.YtinhdimalhfgkaaGreatDoor
open Go.RowKit
set_option maxRecDepth 100000
set_option linter.unusedVariables false

/-- The slots from the first on, each so far behind the one before, so many of them turned. -/
def rptSL (first stp : Nat) (hp : Int) (k : Nat) (SL : Int → Option Int) : Int → Option Int := fun i => if ((List.range k).any fun j => decide (i = ((first + j * stp : Nat) : Int))) = true then some hp else SL i
/-- The steps that turn them. -/
def rptSS (first stp : Nat) (hp : Int) (k : Nat) : List Stp := (List.range k).map (fun j => Stp.pt ((first + j * stp : Nat) : Int) hp)
theorem rptSL_zero (first stp : Nat) (hp : Int) (SL : Int → Option Int) : rptSL first stp hp 0 SL = SL := by
  funext i
  unfold rptSL
  simp
theorem rptSL_step (first stp : Nat) (hp : Int) (k : Nat) (SL : Int → Option Int) : (fun i => if i = ((first + k * stp : Nat) : Int) then some hp else rptSL first stp hp k SL i) = rptSL first stp hp (k + 1) SL := by
  funext i
  unfold rptSL
  rw [List.range_succ, List.any_append]
  by_cases h : i = ((first + k * stp : Nat) : Int)
  · rw [if_pos h, if_pos (by simp [h])]
  · rw [if_neg h]
    have h2 : decide (i = ((first + k * stp : Nat) : Int)) = false := by simpa using h
    simp only [List.any_cons, List.any_nil, h2, Bool.or_false]
theorem rptSL_next (first stp : Nat) (hp : Int) (k : Nat) (SL : Int → Option Int) (hs : 0 < stp) : rptSL first stp hp k SL ((first + k * stp : Nat) : Int) = SL ((first + k * stp : Nat) : Int) := by
  unfold rptSL
  rw [if_neg]
  intro h
  obtain ⟨j, hj, he⟩ := List.any_eq_true.1 h
  have hj := List.mem_range.1 hj
  have he := of_decide_eq_true he
  have h1 : (j + 1) * stp ≤ k * stp := Nat.mul_le_mul_right _ hj
  rw [Nat.succ_mul] at h1
  omega
theorem rptSS_step (first stp : Nat) (hp : Int) (k : Nat) : rptSS first stp hp (k + 1) = rptSS first stp hp k ++ [Stp.pt ((first + k * stp : Nat) : Int) hp] := by
  unfold rptSS
  rw [List.range_succ, List.map_append]
  rfl
theorem rptSS_length (first stp : Nat) (hp : Int) (k : Nat) : (rptSS first stp hp k).length = k := by unfold rptSS; simp

theorem shl1_run {d : Int} {N : Nat} (h0 : 0 ≤ d ∧ d ≤ 10) (hs : wrap64 (2 ^ d.toNat) = (N : Int)) (W : World) : (Op.shift .shl .i64 1 .i64 d).run Tryz.prog W = .ok (.int .i64 (N : Int)) W := by
  have h1 : ¬ d < 0 := by omega
  have h2 : min d.toNat 64 = d.toNat := by omega
  simp [go_sem]
  generalize (2 : Int) ^ d.toNat = z at *
  rw [IntKind.wrap_i64]
  unfold wrap64 at hs
  exact hs

section
variable {D : World → (Nat → Prop) → Addr → DS → Prop} {w0 w w' : World} {F O : Nat → Prop} {p : Addr} {S : DS} {q r b st ch mb : Nat} {seq : Int} {L : List (Int × List Int)} {M M' : MV} {v v' sv : Value} {ns : Nat} {SL : Int → Option Int} {fs : List Value} {ss : List Stp}

set_option maxHeartbeats 1600000 in
theorem repoint_g (api : DiskApi D) (hS : SAt D w0 F O p S q seq r b st L) (h : Gath w0 w ch st mb M M' v v' sv ns SL fs ss) (first K : Nat) {lp ld lx hp hd hx : Int} {LA HA : Option Addr} {ln lc hn hc : Nat} (hd1 : 0 ≤ M'.d ∧ M'.d ≤ 10) (hd2 : 0 ≤ hd ∧ hd ≤ 10) (hp1 : -9223372036854775808 ≤ hp ∧ hp ≤ 9223372036854775807)
    (hin : ∀ k : Nat, k < K → first + k * 2 ^ depD hd < 2 ^ depD M'.d ∧ PageIs S L M SL ((first + k * 2 ^ depD hd : Nat) : Int) lp) (hend : 2 ^ depD M'.d ≤ first + K * 2 ^ depD hd) (hend2 : first + K * 2 ^ depD hd ≤ 100000) (hm : fs.length + K ≤ 3999999) (hns : ns + K ≤ 3999999) :
    Calls Tryz.prog 220 #[.pointer (some ⟨ch, 0, none⟩), .int .i64 (first : Int), .agg #[.int .i64 lp, .int .i64 ld, .int .i64 lx, .slice LA ln lc], .agg #[.int .i64 hp, .int .i64 hd, .int .i64 hx, .slice HA hn hc]] w fun e w' => e = .returned (.int .i64 0) ∧ ∃ sv2 fs2, Gath w0 w' ch st mb M M' v v' sv2 (ns + K) (rptSL first (2 ^ depD hd) hp K SL) fs2 (ss ++ rptSS first (2 ^ depD hd) hp K) ∧ fs2.length = fs.length + K ∧ Went w0.heap.size w.heap.size ch mb v' sv v' sv2 fs fs2 ss (ss ++ rptSS first (2 ^ depD hd) hp K) w w' := by
  have hsh := shlD hd1
  have hsh2 := shlD hd2
  have hpw2 := powD_le hd
  have hX : Below w.heap.size w ((w.alloc (.cells #[.int .i64 lp, .int .i64 ld, .int .i64 lx, .slice LA ln lc] 92)).alloc (.cells #[.int .i64 hp, .int .i64 hd, .int .i64 hx, .slice HA hn hc] 92)) := ((Below.refl _ _).alloc (Nat.le_refl _) _).alloc (by simp) _
  have hb0 : ((w.alloc (.cells #[.int .i64 lp, .int .i64 ld, .int .i64 lx, .slice LA ln lc] 92)).alloc (.cells #[.int .i64 hp, .int .i64 hd, .int .i64 hx, .slice HA hn hc] 92)).heap[w.heap.size]? = some (.cells #[.int .i64 lp, .int .i64 ld, .int .i64 lx, .slice LA ln lc] 92 (0, 0)) := (Below.heap_alloc _ _ w.heap.size (by simp)).trans (heap_alloc_new _ _)
  have hb1 : ((w.alloc (.cells #[.int .i64 lp, .int .i64 ld, .int .i64 lx, .slice LA ln lc] 92)).alloc (.cells #[.int .i64 hp, .int .i64 hd, .int .i64 hx, .slice HA hn hc] 92)).heap[w.heap.size + 1]? = some (.cells #[.int .i64 hp, .int .i64 hd, .int .i64 hx, .slice HA hn hc] 92 (0, 0)) := by
    have := heap_alloc_new (w.alloc (.cells #[.int .i64 lp, .int .i64 ld, .int .i64 lx, .slice LA ln lc] 92)) (.cells #[.int .i64 hp, .int .i64 hd, .int .i64 hx, .slice HA hn hc] 92)
    simpa using this
  generalize 2 ^ depD M'.d = N at *
  generalize 2 ^ depD hd = stp at *
  have hlt0 := h.lt
  have HG := Lib.hid (h.keep hX)
  have HBX := Lib.hid (show ∀ (svk : Value) (fsk : List Value) (ssk : List Stp) wr, Went w0.heap.size w.heap.size ch mb v' sv v' svk fs fsk ss ssk ((w.alloc (.cells #[.int .i64 lp, .int .i64 ld, .int .i64 lx, .slice LA ln lc] 92)).alloc (.cells #[.int .i64 hp, .int .i64 hd, .int .i64 hx, .slice HA hn hc] 92)) wr → wr.cell? ⟨w.heap.size, 0, none⟩ = some (.int .i64 lp) ∧ wr.cell? ⟨w.heap.size + 1, 0, none⟩ = some (.int .i64 hp) ∧ wr.cell? ⟨w.heap.size + 1, 1, none⟩ = some (.int .i64 hd) from fun svk fsk ssk wr hw => by
    have c0 := cells_four ((hw.touch.block _ (Array.getElem?_eq_some_iff.1 hb0).1 (fun e => by have := (hlt0 _ e).2; omega)).trans hb0)
    have c1 := cells_four ((hw.touch.block _ (Array.getElem?_eq_some_iff.1 hb1).1 (fun e => by have := (hlt0 _ e).2; omega)).trans hb1)
    exact ⟨c0.1, c1.1, c1.2.1⟩)
  have HXW := Lib.hid (Went.below (B := w0.heap.size) (Z := w.heap.size) (ch := ch) (mb := mb) (v' := v') (sv := sv) (fs := fs) (ss := ss) hX)
  have HIN := Lib.hid hin
  have HS := Lib.hid hS
  have run1 := fun W => shl1_run hd1 hsh W
  have run2 := fun W => shl1_run hd2 hsh2 W
  clear hd1 hd2 hsh hsh2
  clear h hin hS hX hb0 hb1 hlt0
  go_enter Tryz.func220, Tryz.ntmps220
  go_wp2_with fail
  go_loopw [9] (fun i wr => ∃ (k : Nat) (svk : Value) (fsk : List Value), k ≤ K ∧ i = .int .i64 ((first + k * stp : Nat) : Int) ∧ Hid (Gath w0 wr ch st mb M M' v v' svk (ns + k) (rptSL first stp hp k SL) fsk (ss ++ rptSS first stp hp k)) ∧ Hid (fsk.length = fs.length + k) ∧ Hid (Went w0.heap.size w.heap.size ch mb v' sv v' svk fs fsk ss (ss ++ rptSS first stp hp k) ((w.alloc (.cells #[.int .i64 lp, .int .i64 ld, .int .i64 lx, .slice LA ln lc] 92)).alloc (.cells #[.int .i64 hp, .int .i64 hd, .int .i64 hx, .slice HA hn hc] 92)) wr)) (fun i _ => 200000 - (intOf i).toNat)
  case atStart => exact ⟨0, sv, fs, Nat.zero_le _, by simp, by rw [rptSL_zero]; unfold rptSS; simpa using HG, Lib.hid rfl, by unfold rptSS; simpa using Lib.hid (Went.below (B := w0.heap.size) (Z := w.heap.size) (ch := ch) (mb := mb) (v' := v') (sv := sv) (fs := fs) (ss := ss) (Below.refl _ _))⟩
  case round =>
    obtain ⟨k, svk, fsk, hk, rfl, hg, hfl, hwk⟩ := hrel
    have HSL := Lib.hid (rptSL_next first stp hp k SL (by omega))
    have HSTEP := Lib.hid (rptSL_step first stp hp k SL)
    have HSTS := Lib.hid (rptSS_step first stp hp k)
    have hs1 : first + (k + 1) * stp = first + k * stp + stp := by rw [Nat.succ_mul]; omega
    have hsK : k < K → first + k * stp + stp ≤ first + K * stp := fun hlt => by
      have := Nat.mul_le_mul_right stp (show k + 1 ≤ K from hlt)
      rw [Nat.succ_mul] at this
      omega
    have HKN := Lib.hid (HIN.out k)
    have hKK : k = K → first + k * stp = first + K * stp := fun e => by rw [e]
    obtain ⟨y0, y1, y2⟩ := HBX.out _ _ _ wr hwk.out
    obtain ⟨_, _, _, _, _, y6, _⟩ := hg.out.at_.cells2
    by_cases hlt : k < K
    · have hp0 := HKN.out hlt
      generalize hsl : first + k * stp = s at *
      have k1 : decide (((s : Nat) : Int) < ((N : Nat) : Int)) = true := by simpa using hp0.1
      have k2 : decide (s < N) = true := by simpa using hp0.1
      have HPO := Lib.hid (pageOf_g (slot := (s : Int)) (pg := lp) api HS.out hg.out (by have := hsK hlt; omega) (by
        rcases hp0.2 with a | ⟨a, a2⟩
        · exact .inl (HSL.out.trans a)
        · exact .inr ⟨HSL.out.trans a, a2⟩))
      clear hp0 HKN hKK
      go_wp2_with fail
      refine HPO.out.mono ?_
      rintro e w2 ⟨rfl, hb2⟩
      have HW2 := Lib.hid (hwk.out.trans (Went.below hb2))
      have HPT := Lib.hid (point_g (hg.out.keep hb2) (s : Int) hp (by have := hsK hlt; omega) hp1 (by have := hfl.out; omega) (by omega))
      obtain ⟨x0, x1, x2⟩ := HBX.out _ _ _ w2 HW2.out
      clear hb2 HPO y0 y1 y2 y6
      go_wp2_with fail
      refine HPT.out.mono ?_
      rintro e w3 ⟨rfl, svn, fn, hgn, hwn⟩
      have HSZ := Lib.hid (Nat.le_trans HXW.out.touch.size HW2.out.touch.size)
      have HW3 := Lib.hid (show Went w0.heap.size w.heap.size ch mb v' sv v' svn fs (fsk ++ [fn]) ss (ss ++ rptSS first stp hp (k + 1)) ((w.alloc (.cells #[.int .i64 lp, .int .i64 ld, .int .i64 lx, .slice LA ln lc] 92)).alloc (.cells #[.int .i64 hp, .int .i64 hd, .int .i64 hx, .slice HA hn hc] 92)) w3 from by
        rw [HSTS.out, ← List.append_assoc]
        exact HW2.out.trans (hwn.mono HSZ.out))
      have HGN := Lib.hid (show Gath w0 w3 ch st mb M M' v v' svn (ns + (k + 1)) (rptSL first stp hp (k + 1) SL) (fsk ++ [fn]) (ss ++ rptSS first stp hp (k + 1)) from by
        rw [← HSTEP.out, HSTS.out, ← List.append_assoc]
        exact hgn)
      obtain ⟨z0, z1, z2⟩ := HBX.out _ _ _ w3 HW3.out
      have e3 : (s : Int) + (stp : Int) = ((first + (k + 1) * stp : Nat) : Int) := by
        rw [hs1]
        omega
      have e4 : s + stp ≤ 100000 := Nat.le_trans (hsK hlt) hend2
      have E3 := Lib.hid e3
      have HSKL := Lib.hid (hsK hlt)
      clear e3 hsK hs1
      clear hgn hwn HPT HW2 x0 x1 x2
      go_wp2
      go_roundw
      case rel => exact ⟨k + 1, svn, fsk ++ [fn], by omega, by rw [← E3.out], HGN, Lib.hid (by have := hfl.out; simp; omega), HW3⟩
      case measure =>
        simp [intOf]
        omega
    · obtain rfl : k = K := by omega
      have k1 : decide (((first + k * stp : Nat) : Int) < ((N : Nat) : Int)) = false := by simp; omega
      have k2 : decide (first + k * stp < N) = false := by simp; omega
      generalize first + k * stp = s at k1 k2 ⊢
      go_wp2
      go_ret
      exact ⟨rfl, svk, fsk, hg.out, hfl.out, HXW.out.trans hwk.out⟩
end
end Go.Proofs.YtinhdimalhfgkaaGreatDoor

/-
  Which half of a bucket a hash belongs to: contract of isHigh. Condition: the depth is an int, not the greatest.
-/
namespace Go.Proofs.YtinhdimalhfgkaaGreatDoor
open Go.RowKit
set_option maxRecDepth 100000
set_option linter.unusedVariables false

/-- The bit behind the lowest depth ones. -/
def highB (h : Nat) (d : Int) : Bool := decide (slotN h (heldD (d + 1)) ≠ slotN h (heldD d))

set_option maxHeartbeats 800000 in
theorem isHigh_any (h : Nat) (d : Int) (hh : h < 4294967296) (hd : -9223372036854775808 ≤ d ∧ d ≤ 9223372036854775806) (w : World) :
    Calls Tryz.prog 221 #[.int .u32 (h : Int), .int .i64 d] w fun e w' => e = .returned (.bool (highB h d)) ∧ w = w' := by
  have H1 := Lib.hid (Slot_any h (d + 1) hh w)
  have H2 := Lib.hid (Slot_any h d hh w)
  unfold highB
  generalize slotN h (heldD (d + 1)) = a at *
  generalize slotN h (heldD d) = c at *
  obtain ⟨hd1, hd2⟩ := hd
  go_enter Tryz.func221, Tryz.ntmps221
  go_wp2_with fail
  refine H1.out.mono ?_
  rintro e w1 ⟨rfl, rfl⟩
  go_wp2_with fail
  refine H2.out.mono ?_
  rintro e w2 ⟨rfl, rfl⟩
  have hne : decide (a = c) = !(((a : Nat) : Int) != ((c : Nat) : Int)) := by
    rw [show (((a : Nat) : Int) != ((c : Nat) : Int)) = !decide (((a : Nat) : Int) = ((c : Nat) : Int)) by simp [bne]; rfl, Bool.not_not]
    exact decide_eq_decide.2 (by omega)
  go_wp2
  go_ret
  refine ⟨?_, rfl⟩
  simp
  rw [hne, Bool.not_not]
end Go.Proofs.YtinhdimalhfgkaaGreatDoor

/-
  A caller's own variable is stored while a change gathers steps: what the change says stands. No condition.
-/
namespace Go.Proofs.YtinhdimalhfgkaaGreatDoor
open Go.RowKit
set_option maxRecDepth 100000
set_option linter.unusedVariables false

section
variable {w0 w w' : World} {ch st mb : Nat} {M M' : MV} {v v' sv : Value} {ns : Nat} {SL : Int → Option Int} {fs : List Value} {ss : List Stp}

theorem StepIs.fresh {B : Nat} {X : Nat → Prop} {f : Value} {s : Stp} (h : StepIs B w X ch f s) (hb : Below w.heap.size w w') : StepIs B w' (fun k => w.heap.size ≤ k ∧ k < w'.heap.size) ch f s := by
  obtain ⟨g, K, a, b, e, c0, c1, c2, ⟨x0, x1, x2⟩, hB, h⟩ := h
  have l0 : g < w.heap.size := World.block_lt_of_cell? _ _ c0
  have l1 : g + 1 < w.heap.size := World.block_lt_of_cell? _ _ c1
  have l2 : g + 2 < w.heap.size := World.block_lt_of_cell? _ _ c2
  refine ⟨g, K, a, b, e, (hb.cell (p := ⟨g, 0, none⟩) l0).trans c0, (hb.cell (p := ⟨g + 1, 0, none⟩) l1).trans c1, (hb.cell (p := ⟨g + 2, 0, none⟩) l2).trans c2, ⟨fun q => by have := q.1; omega, fun q => by have := q.1; omega, fun q => by have := q.1; omega⟩, hB, ?_⟩
  cases s with
  | lay pg l =>
    obtain ⟨h1, h2, h3, A, n, c, h4, h5, h6, h7⟩ := h
    refine ⟨h1, h2, h3, A, n, c, h4, h5, h6, (h7.below hb).1, fun ad ha hn hg => ?_⟩
    rcases hg with q | q
    · obtain ⟨b1, off, e1, hb1, _⟩ := h7.1.2.2 hn
      rw [ha] at e1
      cases e1
      have q1 : w.heap.size ≤ b1 := q.1
      omega
    · exact h7.2 ad ha hn (.inr q)
  | pt slot pg => exact h
  | fr pg nx => exact h

/-- The steps lie apart from all that is made from now on. -/
theorem Gath.avoid (h : Gath w0 w ch st mb M M' v v' sv ns SL fs ss) (hb : Below w.heap.size w w') : Avoid w0.heap.size w' (fun k => w.heap.size ≤ k ∧ k < w'.heap.size) ch fs ss := fun i f s hf hs => (h.each i f s hf hs).fresh hb

theorem Avoid.poke {B : Nat} {Y : Nat → Prop} (h : Avoid B w Y ch fs ss) {a : Addr} (ha : Y a.block) (u : Value) : Avoid B (w.setCell a u) Y ch fs ss := fun i f s hf hs => (h i f s hf hs).keep (by simp [World.setCell]) (fun k _ hn => Below.heap_setCell w a u k (fun e => hn (e ▸ ha))) (fun _ _ h => h)

/-- A variable that the change does not own was stored. -/
theorem Gath.poke (h : Gath w0 w ch st mb M M' v v' sv ns SL fs ss) {Y : Nat → Prop} (hY : Avoid w0.heap.size w Y ch fs ss) {a : Addr} (ha : Y a.block) (hn : ¬ GX ch mb v' sv a.block) (h0 : w0.heap.size ≤ a.block) (u : Value) : Gath w0 (w.setCell a u) ch st mb M M' v v' sv ns SL fs ss := by
  have hk : ∀ k, k ≠ a.block → (w.setCell a u).heap[k]? = w.heap[k]? := fun k hk => Below.heap_setCell w a u k hk
  have hx : ∀ k, GX ch mb v' sv k → k ≠ a.block := fun k hk e => hn (e ▸ hk)
  have hsz : (w.setCell a u).heap.size = w.heap.size := by simp [World.setCell]
  exact ⟨(hk ch (hx ch (.inl rfl))).trans h.at_, h.chn, h.mbn, h.cm, h.was, gown_stays h.will (fun g hg => hk g (hx g (.inr (.inr (.inl hg))))), h.ints, h.few, gown_stays h.row (fun g hg => hk g (hx g (.inr (.inr (.inr hg))))), h.many, h.len, fun i f s hf hs => ((h.each i f s hf hs).both (hY i f s hf hs)).keep (by rw [hsz]; exact Nat.le_refl _) (fun k _ hn' => hk k (fun e => hn' (.inr (e ▸ ha)))) (fun k _ hn' hy => hn' (.inl hy)), h.mp.of_block (hk mb (hx mb (.inr (.inl rfl)))), h.vch, h.sch, h.vs, h.bel.setCell h0 _⟩
theorem Went.poke {B Z : Nat} {v1 sv1 : Value} {fs1 : List Value} {ss1 : List Stp} {w1 : World} (h : Went B Z ch mb v' sv v1 sv1 fs fs1 ss ss1 w w1) {Yb : Nat → Prop} (hYb : Avoid B w1 Yb ch fs1 ss1) {a : Addr} (hya : Yb a.block) (ha : w.heap.size ≤ a.block) (u : Value) : Went B Z ch mb v' sv v1 sv1 fs fs1 ss ss1 w (w1.setCell a u) :=
  ⟨⟨h.touch.os, h.touch.tape, h.touch.output, by simpa [World.setCell] using h.touch.size, fun k hk hn => (Below.heap_setCell w1 a u k (by omega)).trans (h.touch.block k hk hn)⟩, h.own, fun Y hY hav i f s hf hs => ((h.steps Y hY hav i f s hf hs).both (hYb i f s hf hs)).keep (by simp [World.setCell]) (fun k _ hn => Below.heap_setCell w1 a u k (fun e => hn (.inr (e ▸ hya)))) (fun k _ hn hy => hn (.inl hy))⟩
end
end Go.Proofs.YtinhdimalhfgkaaGreatDoor

/-
  A pair comes into a new bucket behind the last one of a chain: contract of follow. Conditions: numbers and lengths are ints; the page is taken; fewer than 4,000,000 steps.
-/
namespace Go.Proofs.YtinhdimalhfgkaaGreatDoor
open Go.RowKit
set_option maxRecDepth 100000
set_option linter.unusedVariables false

section
variable {D : World → (Nat → Prop) → Addr → DS → Prop} {w0 w w' : World} {F O : Nat → Prop} {p : Addr} {S : DS} {q r b st ch mb : Nat} {seq : Int} {L : List (Int × List Int)} {M M' : MV} {v v' sv : Value} {ns : Nat} {SL : Int → Option Int} {fs : List Value} {ss : List Stp}

set_option maxHeartbeats 1600000 in
theorem follow_g (api : DiskApi D) (hS : SAt D w0 F O p S q seq r b st L) (h : Gath w0 w ch st mb M M' v v' sv ns SL fs ss) {G : Nat → Prop} (hG : ∀ k, G k → k < w.heap.size) (hGX : ∀ k, GX ch mb v' sv k → G k) {l : Leaf} {A ka va : Option Addr} {n c kn kc vn vc : Nat} {x : KV} (hnc : n ≤ c ∧ n ≤ maxLen) (hst : Stays w G A n l.ps) (hk : BIn w G ka kn x.1) (hv : BIn w G va vn x.2) (hkc : kn ≤ kc ∧ kn ≤ maxLen) (hvc : vn ≤ vc ∧ vn ≤ maxLen)
    (hn : 0 ≤ M'.n ∧ M'.n < 4611686018427387904) (hf : -9223372036854775808 ≤ M'.f ∧ M'.f ≤ 9223372036854775807) {pg : Int} {M2 : MV} (ht : TakeIs S L M' pg M2) (hpg : -9223372036854775808 ≤ pg ∧ pg ≤ 9223372036854775807) (hlpg : -9223372036854775808 ≤ l.pg ∧ l.pg ≤ 9223372036854775807) (hd : -9223372036854775808 ≤ l.d ∧ l.d ≤ 9223372036854775807) (hmay1 : mayBk ⟨l.d, pg, l.ps⟩ = true) (hmay2 : mayBk ⟨l.d, 0, [x]⟩ = true) (hm : fs.length + 2 ≤ 4000000) :
    Calls Tryz.prog 187 #[.pointer (some ⟨ch, 0, none⟩), .agg #[.int .i64 l.pg, .int .i64 l.d, .int .i64 l.x, .slice A n c], .agg #[.slice ka kn kc, .slice va vn vc]] w fun e w' => e = .returned (.int .i64 0) ∧ ∃ sv2 fs2, Gath w0 w' ch st mb M M2 v v' sv2 ns SL fs2 (ss ++ [.lay l.pg (pageBk ⟨l.d, pg, l.ps⟩)] ++ [.lay pg (pageBk ⟨l.d, 0, [x]⟩)]) ∧ fs2.length = fs.length + 2 ∧ Went w0.heap.size w.heap.size ch mb v' sv v' sv2 fs fs2 ss (ss ++ [.lay l.pg (pageBk ⟨l.d, pg, l.ps⟩)] ++ [.lay pg (pageBk ⟨l.d, 0, [x]⟩)]) w w' := by
  obtain ⟨lpg, ld, lx, ps⟩ := l
  simp only at hst hlpg hd hmay1 hmay2 ⊢
  have hX : Below w.heap.size w ((w.alloc (.cells #[.int .i64 lpg, .int .i64 ld, .int .i64 lx, .slice A n c] 92)).alloc (.cells #[.slice ka kn kc, .slice va vn vc] 95)) := ((Below.refl _ _).alloc (Nat.le_refl _) _).alloc (by simp) _
  have hb0 : ((w.alloc (.cells #[.int .i64 lpg, .int .i64 ld, .int .i64 lx, .slice A n c] 92)).alloc (.cells #[.slice ka kn kc, .slice va vn vc] 95)).heap[w.heap.size]? = some (.cells #[.int .i64 lpg, .int .i64 ld, .int .i64 lx, .slice A n c] 92 (0, 0)) := (Below.heap_alloc _ _ w.heap.size (by simp)).trans (heap_alloc_new _ _)
  have hb1 : ((w.alloc (.cells #[.int .i64 lpg, .int .i64 ld, .int .i64 lx, .slice A n c] 92)).alloc (.cells #[.slice ka kn kc, .slice va vn vc] 95)).heap[w.heap.size + 1]? = some (.cells #[.slice ka kn kc, .slice va vn vc] 95 (0, 0)) := by
    have := heap_alloc_new (w.alloc (.cells #[.int .i64 lpg, .int .i64 ld, .int .i64 lx, .slice A n c] 92)) (.cells #[.slice ka kn kc, .slice va vn vc] 95)
    simpa using this
  have hsX : ((w.alloc (.cells #[.int .i64 lpg, .int .i64 ld, .int .i64 lx, .slice A n c] 92)).alloc (.cells #[.slice ka kn kc, .slice va vn vc] 95)).heap.size = w.heap.size + 2 := by simp
  have HTK := Lib.hid (take_g api hS (h.keep hX) hn hf ht)
  have HAV := Lib.hid (h.avoid hX)
  have HH := Lib.hid h
  have HX := Lib.hid hX
  have HB0 := Lib.hid hb0
  have HB1 := Lib.hid hb1
  have HST := Lib.hid hst
  have HK := Lib.hid hk
  have HV := Lib.hid hv
  have HGS := Lib.hid hG
  have HGX := Lib.hid hGX
  have HLT := Lib.hid h.lt
  clear h hX hb0 hb1 hst hk hv hG hGX ht
  go_enter Tryz.func187, Tryz.ntmps187
  go_wp2_with fail
  generalize (w.alloc (.cells #[.int .i64 lpg, .int .i64 ld, .int .i64 lx, .slice A n c] 92)).alloc (.cells #[.slice ka kn kc, .slice va vn vc] 95) = W0 at *
  refine HTK.out.mono ?_
  rintro e w1 ⟨rfl, hg1, hw1⟩
  have hbs := HH.out.bel.size
  have hn0 : ¬ GX ch mb v' sv w.heap.size := fun e => by have := (HLT.out _ e).2; omega
  have hn1 : ¬ GX ch mb v' sv (w.heap.size + 1) := fun e => by have := (HLT.out _ e).2; omega
  have hav1 : Avoid w0.heap.size w1 (fun k => w.heap.size ≤ k ∧ k < W0.heap.size) ch fs ss := hw1.steps _ (fun k hk => hk.2) HAV.out
  have hb01 := (hw1.touch.block w.heap.size (by omega) hn0).trans HB0.out
  have hb11 := (hw1.touch.block (w.heap.size + 1) (by omega) hn1).trans HB1.out
  have hg1' := hg1.poke hav1 (a := ⟨w.heap.size, 2, none⟩) ⟨Nat.le_refl _, by show w.heap.size < W0.heap.size; omega⟩ hn0 hbs (.int .i64 pg)
  have hw1' := ((Went.below HX.out).trans (hw1.mono HX.out.size)).poke hav1 (a := ⟨w.heap.size, 2, none⟩) ⟨Nat.le_refl _, by show w.heap.size < W0.heap.size; omega⟩ (Nat.le_refl _) (.int .i64 pg)
  have hb0' := heap_setCell_same w1 w.heap.size 2 _ _ (.int .i64 pg) hb01
  have hb1' := (Below.heap_setCell w1 ⟨w.heap.size, 2, none⟩ (.int .i64 pg) (w.heap.size + 1) (by show w.heap.size + 1 ≠ w.heap.size; omega)).trans hb11
  simp at hb0'
  have hst1 : Stays (w1.setCell ⟨w.heap.size, 2, none⟩ (.int .i64 pg)) G A n ps := HST.out.later hw1'.touch.size (fun k hk hn' => hw1'.touch.block k hk (fun e => hn' (HGX.out k e)))
  have HKP := Lib.hid (keep_g hg1' (G := G) (lf := .agg #[.int .i64 lpg, .int .i64 ld, .int .i64 pg, .slice A n c]) (l := ⟨lpg, ld, pg, ps⟩) ⟨A, n, c, rfl, hnc.1, hnc.2, hst1⟩ hlpg hd hpg hmay1 (by omega))
  obtain ⟨z0, z1, z2, z3, fz, _⟩ := cells_four hb01
  obtain ⟨y0, y1, y2, y3, _, _⟩ := cells_four hb0'
  have f2 := fz 2
  have HW1 := Lib.hid hw1'
  have HBA := Lib.hid (And.intro hb0' hb1')
  clear hg1 hw1 hav1 hb01 hb11 hg1' hw1' hb0' hb1' hst1 HTK fz
  go_wp2_with fail
  refine HKP.out.mono ?_
  rintro e w2 ⟨rfl, sv2, f2, hg2, hw2⟩
  have hsz1 : W0.heap.size ≤ (w1.setCell ⟨w.heap.size, 2, none⟩ (.int .i64 pg)).heap.size := by
    have := (Array.getElem?_eq_some_iff.1 HBA.out.2).1
    omega
  have hbx := (hw2.touch.block w.heap.size (by omega) hn0).trans HBA.out.1
  have hby := (hw2.touch.block (w.heap.size + 1) (by omega) hn1).trans HBA.out.2
  obtain ⟨x0, x1, x2, x3, _, _⟩ := cells_four hbx
  have p0 : w2.cell? ⟨w.heap.size + 1, 0, none⟩ = some (.slice ka kn kc) := by rw [cell_of_row _ (w.heap.size + 1) 0 _ _ (0, 0) hby]; rfl
  have p1 : w2.cell? ⟨w.heap.size + 1, 1, none⟩ = some (.slice va vn vc) := by rw [cell_of_row _ (w.heap.size + 1) 1 _ _ (0, 0) hby]; rfl
  have hw02 := HW1.out.trans (hw2.mono HW1.out.touch.size)
  have hal : Below w2.heap.size w2 (w2.alloc (.cells #[.int .i64 pg, .int .i64 ld, .int .i64 0, .slice none 0 0] 92)) := (Below.refl _ _).alloc (Nat.le_refl _) _
  have hw03 : Went w0.heap.size w.heap.size ch mb v' sv v' sv2 fs (fs ++ [f2]) ss (ss ++ [.lay lpg (pageBk ⟨ld, pg, ps⟩)]) w (w2.alloc (.cells #[.int .i64 pg, .int .i64 ld, .int .i64 0, .slice none 0 0] 92)) := hw02.trans (Went.below hal)
  have hkept : ∀ k, k < w.heap.size → ¬ G k → (w2.alloc (.cells #[.int .i64 pg, .int .i64 ld, .int .i64 0, .slice none 0 0] 92)).heap[k]? = w.heap[k]? := fun k hk hn' => hw03.touch.block k hk (fun e => hn' (HGX.out k e))
  have HWITH := Lib.hid (with_any (w := w2.alloc (.cells #[.int .i64 pg, .int .i64 ld, .int .i64 0, .slice none 0 0] 92)) (G := G) (l := ⟨pg, ld, 0, []⟩) (A := none) (n := 0) (c := 0) (x := x) (Nat.le_refl 0) (Stays.none_ _ _) (fun k hk => Nat.lt_of_lt_of_le (HGS.out k hk) hw03.touch.size) (HK.out.grow hw03.touch.size hkept (fun _ _ h => h)) (HV.out.grow hw03.touch.size hkept (fun _ _ h => h)) hkc hvc (by decide))
  have q0 := (hal.cell (p := ⟨w.heap.size + 1, 0, none⟩) (World.block_lt_of_cell? _ _ p0)).trans p0
  have q1 := (hal.cell (p := ⟨w.heap.size + 1, 1, none⟩) (World.block_lt_of_cell? _ _ p1)).trans p1
  have HW3 := Lib.hid hw03
  have HG3 := Lib.hid (hg2.keep hal)
  clear hg2 hw2 hbx hby hsz1 HKP HBA y0 y1 y2 y3 z0 z1 z2 z3 hw02 hw03 hkept hal p0 p1
  go_wp2_with fail
  refine HWITH.out.mono ?_
  rintro e w4 ⟨lv, rfl, hlv, hb4⟩
  have HKP2 := Lib.hid (keep_g (HG3.out.keep hb4) (l := ⟨pg, ld, 0, [] ++ [x]⟩) hlv hpg hd (by show -9223372036854775808 ≤ (0 : Int) ∧ (0 : Int) ≤ 9223372036854775807; decide) hmay2 (by simp; omega))
  have HW4 := Lib.hid (HW3.out.trans (Went.below hb4))
  clear hlv hb4 HWITH
  go_wp2_with fail
  refine HKP2.out.mono ?_
  rintro e w5 ⟨rfl, sv3, f3, hg5, hw5⟩
  have HE := Lib.hid (And.intro hg5 (HW4.out.trans (hw5.mono HW4.out.touch.size)))
  clear hg5 hw5 HKP2
  go_wp2
  go_ret
  exact ⟨rfl, sv3, _, HE.out.1, by simp, HE.out.2⟩
end
end Go.Proofs.YtinhdimalhfgkaaGreatDoor
