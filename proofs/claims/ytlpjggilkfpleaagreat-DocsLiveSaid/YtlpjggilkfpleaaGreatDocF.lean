/-
  Documents and their lines compared, as the program compares them. No condition but that lengths are ints.
-/
import Derived.Test.YtlpjggilkfpleaaGreatDocE
import Derived.BigQuiet
import Derived.Deep.QuietTactic
import Derived.Laws.StructEq
namespace Go.Proofs.YtlpjggilkfpleaaGreat
open Go.RowKit Go.Maps
set_option maxRecDepth 100000
set_option linter.unusedVariables false

theorem dc_ext {x y : Dc} (h0 : x.i = y.i) (h1 : x.k = y.k) (h2 : x.y = y.y) (h3 : x.f = y.f) (h4 : x.n = y.n) : x = y := by
  cases x; cases y; simp_all
theorem dc_all (x y : Dc) : (x = y) ↔ x.i = y.i ∧ x.k = y.k ∧ x.y = y.y ∧ x.f = y.f ∧ x.n = y.n :=
  ⟨fun h => by rw [h]; exact ⟨rfl, rfl, rfl, rfl, rfl⟩, fun ⟨h0, h1, h2, h3, h4⟩ => dc_ext h0 h1 h2 h3 h4⟩
instance dcDec : DecidableEq Dc := fun x y => decidable_of_iff _ (dc_all x y).symm
theorem same_dc (x y : Dc) (W : World) : (Op.equalIn 10000 50 (.agg (dcV x).toArray) (.agg (dcV y).toArray)).run Tryz.prog W = .ok (decide (x = y)) W := by
  have u3 := Tryz.underlying3
  have i3 := Tryz.isAgg3
  have z3 := Tryz.sizeOf3
  have hS : Tryz.prog.underlying 50 = some (.struct (Tryz.prog.fieldsOf 50)) := by kernel_rfl
  have hp : Tryz.prog.stoodInHeld 50 = false := by kernel_rfl
  obtain ⟨a0, a1, a2, a3, a4⟩ := x
  obtain ⟨b0, b1, b2, b3, b4⟩ := y
  have hd : decide ((⟨a0, a1, a2, a3, a4⟩ : Dc) = ⟨b0, b1, b2, b3, b4⟩) = (a0 == b0 && a1 == b1 && a2 == b2 && a3 == b3 && a4 == b4) := by
    rw [Bool.eq_iff_iff, decide_eq_true_iff, dc_all]
    simp only [Bool.and_eq_true, beq_iff_eq, and_assoc]
  rw [hd, show (10000 : Nat) = 9999 + 1 from rfl, run_equalIn_agg W 9999 50 _ _ hS hp]
  simp only [Program.fieldsOf, Tryz.underlying50, dcV]
  go_simp
  by_cases h0 : a0 = b0
  case neg => simp [h0]
  subst h0
  by_cases h1 : a1 = b1
  case neg => simp [h1]
  subst h1
  by_cases h2 : a2 = b2
  case neg => simp [h2]
  subst h2
  by_cases h3 : a3 = b3
  case neg => simp [h3]
  subst h3
  by_cases h4 : a4 = b4
  case neg => simp [h4]
  subst h4
  simp
theorem dl_ext {x y : Dl} (h0 : x.nd = y.nd) (h1 : x.o = y.o) (h2 : x.l = y.l) (h3 : x.c = y.c) : x = y := by
  cases x; cases y; simp_all
theorem dl_all (x y : Dl) : (x = y) ↔ x.nd = y.nd ∧ x.o = y.o ∧ x.l = y.l ∧ x.c = y.c :=
  ⟨fun h => by rw [h]; exact ⟨rfl, rfl, rfl, rfl⟩, fun ⟨h0, h1, h2, h3⟩ => dl_ext h0 h1 h2 h3⟩
instance dlDec : DecidableEq Dl := fun x y => decidable_of_iff _ (dl_all x y).symm
theorem same_dl (x y : Dl) (W : World) : (Op.equalIn 10000 53 (.agg (dlV x).toArray) (.agg (dlV y).toArray)).run Tryz.prog W = .ok (decide (x = y)) W := by
  have u3 := Tryz.underlying3
  have i3 := Tryz.isAgg3
  have z3 := Tryz.sizeOf3
  have hS : Tryz.prog.underlying 53 = some (.struct (Tryz.prog.fieldsOf 53)) := by kernel_rfl
  have hp : Tryz.prog.stoodInHeld 53 = false := by kernel_rfl
  obtain ⟨a0, a1, a2, a3⟩ := x
  obtain ⟨b0, b1, b2, b3⟩ := y
  have hd : decide ((⟨a0, a1, a2, a3⟩ : Dl) = ⟨b0, b1, b2, b3⟩) = (a0 == b0 && a1 == b1 && a2 == b2 && a3 == b3) := by
    rw [Bool.eq_iff_iff, decide_eq_true_iff, dl_all]
    simp only [Bool.and_eq_true, beq_iff_eq, and_assoc]
  rw [hd, show (10000 : Nat) = 9999 + 1 from rfl, run_equalIn_agg W 9999 53 _ _ hS hp]
  simp only [Program.fieldsOf, Tryz.underlying53, dlV]
  go_simp
  by_cases h0 : a0 = b0
  case neg => simp [h0]
  subst h0
  by_cases h1 : a1 = b1
  case neg => simp [h1]
  subst h1
  by_cases h2 : a2 = b2
  case neg => simp [h2]
  subst h2
  by_cases h3 : a3 = b3
  case neg => simp [h3]
  subst h3
  simp
theorem dlAt {w : World} {b off : Nat} {x : Dl} (h : DlE.At w b off x) : w.cell? ⟨b, off, none⟩ = some (.int .i64 x.nd) ∧ w.cell? ⟨b, off + 1, none⟩ = some (.int .i64 x.o) ∧ w.cell? ⟨b, off + 2, none⟩ = some (.int .i64 x.l) ∧ w.cell? ⟨b, off + 3, none⟩ = some (.int .i64 x.c) :=
  ⟨h 0 (by decide), h 1 (by decide), h 2 (by decide), h 3 (by decide)⟩
theorem below_drewDl {B : Nat} {w w' : World} (h : Below B w w') : ∀ n, Below B w (w'.drewN n) := fun n => ⟨h.os, h.tape, h.output, h.size, h.block⟩
section
variable {w : World} {B B' n m : Nat} {A A' : Option Addr} {l l' : List Dl}
set_option maxHeartbeats 3200000 in
theorem EqualDl_any (c d : Nat) (hr : DlE.R w B A n l) (hr' : DlE.R w B' A' m l') (hm : n ≤ maxLen) (hm' : m ≤ maxLen) (hB : B ≤ w.heap.size) (hB' : B' ≤ w.heap.size) :
    Calls Tryz.prog 25 #[.slice A n c, .slice A' m d] w fun e w' => e = .returned (.bool (decide (l = l'))) ∧ Below w.heap.size w w' := by
  unfold maxLen at hm hm'
  have hlen := hr.len
  have hlen' := hr'.len
  have HR := Lib.hid (And.intro hr hr')
  clear hr hr'
  by_cases hnm : n = m
  · subst hnm
    have hne : ((n : Int) != (n : Int)) = false := by simp
    go_enter Tryz.func25, Tryz.ntmps25
    go_wp2
    go_loopw [13] (fun i wr => ∃ k : Nat, k ≤ n ∧ i = .int .i64 k ∧ Hid (∀ j, j < k → l[j]? = l'[j]?) ∧ Below w.heap.size w wr) (fun i _ => n - (intOf i).toNat)
    case atStart => exact ⟨0, Nat.zero_le _, rfl, Lib.hid (fun j hj => absurd hj (by omega)), Below.refl _ _⟩
    case round =>
      obtain ⟨k, hk, rfl, hbef, hbw⟩ := hrel
      by_cases hlt : k < n
      · obtain ⟨x, hx⟩ : ∃ x, l[k]? = some x := ⟨_, List.getElem?_eq_getElem (by omega)⟩
        obtain ⟨y, hy⟩ : ∃ y, l'[k]? = some y := ⟨_, List.getElem?_eq_getElem (by omega)⟩
        obtain ⟨b, off, rfl, hb, hcell⟩ := HR.out.1.2.2 (by omega)
        obtain ⟨b', off', rfl, hb', hcell'⟩ := HR.out.2.2.2 (by omega)
        obtain ⟨c0, c1, c2, c3⟩ := dlAt ((hcell k x hx).keep hb (fun b o hbb => hbw.cell (p := ⟨b, o, none⟩) (Nat.lt_of_lt_of_le hbb hB)))
        obtain ⟨d0, d1, d2, d3⟩ := dlAt ((hcell' k y hy).keep hb' (fun b o hbb => hbw.cell (p := ⟨b, o, none⟩) (Nat.lt_of_lt_of_le hbb hB')))
        have HXY := Lib.hid (And.intro hx hy)
        have HBW := Lib.hid hbw
        clear hcell hcell' hx hy hbw
        have hlt' : (k : Int) < (n : Int) := by omega
        have hcmp := same_dl x y
        have hK : DlE.K = 4 := rfl
        rw [hK] at c0 d0 c1 d1 c2 d2 c3 d3
        clear hK
        by_cases hv : x = y
        · have hn := Lib.hid (fun j (hj : j < k + 1) => show l[j]? = l'[j]? by
            rcases Nat.lt_or_ge j k with h | h
            · exact hbef.out j h
            · obtain rfl : j = k := by omega
              rw [HXY.out.1, HXY.out.2, hv])
          rw [decide_eq_true hv] at hcmp
          obtain ⟨x0, x1, x2, x3⟩ := x
          obtain ⟨y0, y1, y2, y3⟩ := y
          simp only [dlV] at c0 d0 c1 d1 c2 d2 c3 d3 hcmp
          clear hv
          go_wp2_with fail
          go_quiet (fail)
          go_wp2
          go_roundw
          case rel => exact ⟨k + 1, by omega, by go_num, hn, below_drewDl HBW.out _⟩
          case measure => simp [intOf]; omega
        · have hd := Lib.hid (show decide (l = l') = false by
            have : ¬ l = l' := fun e => hv (by
              have h1 := HXY.out.1
              rw [e, HXY.out.2] at h1
              exact (Option.some.inj h1).symm)
            simpa using this)
          rw [decide_eq_false hv] at hcmp
          obtain ⟨x0, x1, x2, x3⟩ := x
          obtain ⟨y0, y1, y2, y3⟩ := y
          simp only [dlV] at c0 d0 c1 d1 c2 d2 c3 d3 hcmp
          clear hv
          go_wp2_with fail
          go_quiet (fail)
          go_wp2
          go_ret
          rw [hd.out]
          exact ⟨rfl, below_drewDl HBW.out _⟩
      · obtain rfl : k = n := by omega
        have hd := Lib.hid (show decide (l = l') = true by
          have : l = l' := List.ext_getElem? fun j => by
            rcases Nat.lt_or_ge j k with h | h
            · exact hbef.out j h
            · rw [List.getElem?_eq_none (by omega), List.getElem?_eq_none (by omega)]
          simpa using this)
        go_wp2
        go_ret
        rw [hd.out]
        exact ⟨rfl, hbw⟩
  · have hne : ((n : Int) != (m : Int)) = true := by simp; omega
    have hd : decide (l = l') = false := by
      have : ¬ l = l' := fun e => hnm (by rw [← hlen, ← hlen', e])
      simpa using this
    rw [hd]
    clear hd hnm
    go_enter Tryz.func25, Tryz.ntmps25
    go_wp2
    go_ret
    exact ⟨rfl, Below.refl _ _⟩
end
end Go.Proofs.YtlpjggilkfpleaaGreat
