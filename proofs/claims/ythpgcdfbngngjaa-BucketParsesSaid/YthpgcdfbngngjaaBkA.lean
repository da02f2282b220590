/-
  Contracts of bucket.Size, Fits and of the plain Size: what the words say; they make memory, and write nothing that was there. Condition: pairs of few bytes.
-/
import Derived.Test.YthpgcdfbngngjaaBkM
import Derived.BigQuiet
namespace Go.Proofs.Ythpgcdfbngngjaa
open Go.RowKit
set_option maxRecDepth 100000
set_option linter.unusedVariables false

/-- A bucket's box. -/
def BkObj (d x : Int) (A : Option Addr) (n c : Nat) : Obj := .cells #[.int .i64 d, .int .i64 x, .slice A n c] 31 (0, 0)
def BkBox (w : World) (g : Nat) (d x : Int) (A : Option Addr) (n c : Nat) : Prop := w.heap[g]? = some (BkObj d x A n c)
theorem BkBox.cells {w : World} {g n c : Nat} {d x : Int} {A : Option Addr} (h : BkBox w g d x A n c) : w.cell? ⟨g, 0, none⟩ = some (.int .i64 d) ∧ w.cell? ⟨g, 1, none⟩ = some (.int .i64 x) ∧ w.cell? ⟨g, 2, none⟩ = some (.slice A n c) ∧ g < w.heap.size := by
  refine ⟨?_, ?_, ?_, (Array.getElem?_eq_some_iff.1 h).1⟩ <;> (rw [cell_of_row w g _ _ _ (0, 0) h]; rfl)
theorem BkBox.below {w w' : World} {g n c : Nat} {d x : Int} {A : Option Addr} (h : BkBox w g d x A n c) (hb : Below w.heap.size w w') : BkBox w' g d x A n c := (hb.block g (Array.getElem?_eq_some_iff.1 h).1).trans h
theorem BkBox.new (w : World) (d x : Int) (A : Option Addr) (n c : Nat) : BkBox (w.alloc (BkObj d x A n c)) w.heap.size d x A n c := heap_alloc_new w _

theorem wrap63 {n : Int} (h0 : -9223372036854775808 ≤ n) (h1 : n ≤ 9223372036854775807) : wrap64 n = n := by unfold wrap64; omega

set_option maxHeartbeats 800000 in
theorem bkSize_any {w : World} {B n : Nat} {A : Option Addr} {ps : List KV} (d x : Int) (c : Nat) (hr : RPairs w B A n ps) (hB : B ≤ w.heap.size) (hm : n ≤ maxLen) (hsz : szP ps ≤ 4611686018427387904) :
    Calls Try.prog 18 #[.agg #[.int .i64 d, .int .i64 x, .slice A n c]] w fun e w' => e = .returned (.int .i64 ((8 + szP ps : Nat) : Int)) ∧ Below w.heap.size w w' := by
  unfold maxLen at hm
  have HX := Lib.hid (show Below w.heap.size w (w.alloc (BkObj d x A n c)) from (Below.refl _ _).alloc (Nat.le_refl _) _)
  obtain ⟨x0, x1, x2, _⟩ := (BkBox.new w d x A n c).cells
  have HSZ := Lib.hid (fun k => szP_take_le ps k)
  have HALL := Lib.hid (show szP ps = szP (ps.take n) by rw [List.take_of_length_le (by rw [hr.len]; exact Nat.le_refl _)])
  have HR := Lib.hid hr
  clear hr
  unfold BkObj at *
  go_enter Try.func18, Try.ntmps18
  go_wp2_with fail
  clear x0 x1 x2
  go_loopw [3, 9] (fun v i wr => ∃ k : Nat, k ≤ n ∧ i = .int .i64 k ∧ v = .int .i64 ((8 + szP (ps.take k) : Nat) : Int) ∧ Hid (Below w.heap.size w wr)) (fun _ i _ => n - (intOf i).toNat)
  case atStart => exact ⟨0, Nat.zero_le _, rfl, rfl, HX⟩
  case round =>
    obtain ⟨k, hk, rfl, rfl, hb⟩ := hrel
    have hsk := HSZ.out k
    by_cases hlt : k < n
    · obtain ⟨b, off, rfl, hbB, hat⟩ := HR.out.2 (by omega)
      obtain ⟨y, hy⟩ : ∃ y, ps[k]? = some y := ⟨_, List.getElem?_eq_getElem (by rw [HR.out.len]; exact hlt)⟩
      have hst := Lib.hid (szP_step hy)
      have hs1 := HSZ.out (k + 1)
      rw [hst.out] at hs1
      obtain ⟨ka, kn, kc, va, vn, vc, h0, h1, h2, h3, h4, h5⟩ := (hat k y hy).keep hbB (fun b o hbb => hb.out.cell (p := ⟨b, o, none⟩) (Nat.lt_of_lt_of_le hbb hB))
      rw [h2.len, h4.len] at hst hs1
      clear hat hy h2 h4
      have HN := Lib.hid (hb.out.alloc hb.out.size (.cells #[.slice ka kn kc, .slice va vn vc] 48 (0, 0)))
      obtain ⟨h3a, h3b⟩ := h3
      obtain ⟨h5a, h5b⟩ := h5
      unfold maxLen at h3b h5b
      generalize szP (ps.take k) = s at hsk hst hs1 ⊢
      have hk64 : (k : Int) < (n : Int) := by omega
      go_wp2
      go_roundw
      case rel => exact ⟨k + 1, by omega, by go_num, by rw [hst.out]; congr 1; omega, HN⟩
      case measure => simp [intOf]; omega
    · obtain rfl : k = n := by omega
      rw [← HALL.out]
      go_wp2
      go_ret
      exact ⟨rfl, hb.out⟩

/-- A box stands while a function makes memory. -/
theorem BkBox.kept {w wr : World} {n c : Nat} {d x : Int} {A : Option Addr} (hb : Below (w.alloc (BkObj d x A n c)).heap.size (w.alloc (BkObj d x A n c)) wr) : BkBox wr w.heap.size d x A n c ∧ Below w.heap.size w wr :=
  ⟨(BkBox.new w d x A n c).below hb, ((Below.refl w.heap.size w).alloc (Nat.le_refl _) _).trans (hb.mono (by simp))⟩

set_option maxHeartbeats 800000 in
theorem bkFits_any {w : World} {B n : Nat} {A : Option Addr} {ps : List KV} (d x : Int) (c : Nat) (hr : RPairs w B A n ps) (hB : B ≤ w.heap.size) (hm : n ≤ maxLen) (hsz : szP ps ≤ 4611686018427387904) :
    Calls Try.prog 20 #[.agg #[.int .i64 d, .int .i64 x, .slice A n c]] w fun e w' => e = .returned (.bool (decide (8 + szP ps ≤ 240))) ∧ Below w.heap.size w w' := by
  have hX : Below w.heap.size w (w.alloc (BkObj d x A n c)) := (Below.refl _ _).alloc (Nat.le_refl _) _
  have HS := Lib.hid (bkSize_any d x c (hr.below (hX.mono hB)) (Nat.le_trans hB hX.size) hm hsz)
  have HX := Lib.hid hX
  obtain ⟨x0, x1, x2, _⟩ := (BkBox.new w d x A n c).cells
  have hd : decide (8 + szP ps ≤ 240) = decide (((8 + szP ps : Nat) : Int) ≤ 240) := by
    congr 1
    exact propext (by omega)
  rw [hd]
  clear hr hd hX
  generalize 8 + szP ps = s at HS ⊢
  unfold BkObj at *
  go_enter Try.func20, Try.ntmps20
  go_wp2_with fail
  refine HS.out.mono ?_
  rintro e w' ⟨rfl, hb⟩
  have HE := Lib.hid (HX.out.trans (hb.mono HX.out.size))
  clear hb x0 x1 x2
  go_wp2
  go_ret
  exact ⟨rfl, HE.out⟩

set_option maxHeartbeats 800000 in
theorem refBkSize_any {w : World} {B n : Nat} {A : Option Addr} {ps : List KV} (d x : Int) (c : Nat) (hr : RPairs w B A n ps) (hB : B ≤ w.heap.size) (hm : n ≤ maxLen) (hsz : szP ps ≤ 4611686018427387904) :
    Calls Try.prog 19 #[.agg #[.int .i64 d, .int .i64 x, .slice A n c]] w fun e w' => e = .returned (.int .i64 ((8 + szP ps : Nat) : Int)) ∧ Below w.heap.size w w' := by
  unfold maxLen at hm
  have HSZ := Lib.hid (fun k => szP_take_le ps k)
  have HALL := Lib.hid (show szP ps = szP (ps.take n) by rw [List.take_of_length_le (by rw [hr.len]; exact Nat.le_refl _)])
  have HR := Lib.hid hr
  have HK := Lib.hid (fun wr => BkBox.kept (w := w) (wr := wr) (n := n) (c := c) (d := d) (x := x) (A := A))
  clear hr
  unfold BkObj at HK
  go_enter Try.func19, Try.ntmps19
  go_wp2_with fail
  go_loopw [3, 4] (fun v i wr => ∃ k : Nat, k ≤ n ∧ i = .int .i64 k ∧ v = .int .i64 ((8 + szP (ps.take k) : Nat) : Int) ∧ Hid (Below (w.alloc (.cells #[.int .i64 d, .int .i64 x, .slice A n c] 31 (0, 0))).heap.size (w.alloc (.cells #[.int .i64 d, .int .i64 x, .slice A n c] 31 (0, 0))) wr)) (fun _ i _ => n - (intOf i).toNat)
  case atStart => exact ⟨0, Nat.zero_le _, rfl, rfl, Lib.hid (Below.refl _ _)⟩
  case round =>
    obtain ⟨k, hk, rfl, rfl, hb0⟩ := hrel
    obtain ⟨hbx, hb⟩ := HK.out wr hb0.out
    have hsk := HSZ.out k
    obtain ⟨x0, x1, x2, _⟩ := hbx.cells
    by_cases hlt : k < n
    · obtain ⟨b, off, rfl, hbB, hat⟩ := HR.out.2 (by omega)
      obtain ⟨y, hy⟩ : ∃ y, ps[k]? = some y := ⟨_, List.getElem?_eq_getElem (by rw [HR.out.len]; exact hlt)⟩
      have hst := Lib.hid (szP_step hy)
      have hs1 := HSZ.out (k + 1)
      rw [hst.out] at hs1
      obtain ⟨ka, kn, kc, va, vn, vc, h0, h1, h2, h3, h4, h5⟩ := (hat k y hy).keep hbB (fun b o hbb => hb.cell (p := ⟨b, o, none⟩) (Nat.lt_of_lt_of_le hbb hB))
      rw [h2.len, h4.len] at hst hs1
      clear hat hy h2 h4 hb hbx
      obtain ⟨h3a, h3b⟩ := h3
      obtain ⟨h5a, h5b⟩ := h5
      unfold maxLen at h3b h5b
      generalize szP (ps.take k) = s at hsk hst hs1 ⊢
      have hk64 : (k : Int) < (n : Int) := by omega
      go_wp2_with fail
      go_quiet (fail)
      go_wp2
      go_roundw
      case rel => exact ⟨k + 1, by omega, by go_num, by rw [hst.out]; congr 1; omega, Lib.hid (below_drewN hb0.out _)⟩
      case measure => simp [intOf]; omega
    · obtain rfl : k = n := by omega
      have HB := Lib.hid hb
      clear hb hbx
      rw [← HALL.out]
      go_wp2
      go_ret
      exact ⟨rfl, HB.out⟩
end Go.Proofs.Ythpgcdfbngngjaa
