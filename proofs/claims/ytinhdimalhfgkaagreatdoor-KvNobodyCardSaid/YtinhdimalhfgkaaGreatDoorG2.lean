/-
  The texts ExtNo, Ints, DiskP, NumP, NumA joined. Conditions: those that each part says at its head.
-/
import Derived.Test.YtinhdimalhfgkaaGreatDoorG1
import Derived.Deep.Slices
import Derived.Deep.Fields
import Derived.ChangeSame
import Derived.ProofKit
import Derived.Laws.BitsLemmas
import Derived.RowKit
import Derived.Test.YtinhdimalhfgkaaGreatDoorRows
import Derived.WalkKit
import Derived.WalkSpells
import Derived.WalkLawsBesides
import Derived.IntWalk
import Derived.Lib.Hide

/-
  What a store that no call made answers. No condition.
-/
namespace Go.Proofs.YtinhdimalhfgkaaGreatDoor
open Go.RowKit
set_option maxRecDepth 100000
set_option linter.unusedVariables false

set_option maxHeartbeats 400000 in
theorem extMade_nil (w : World) : Calls Tryz.prog 66 #[.pointer none] w fun e w' => e = .returned (.bool false) ∧ w = w' := by
  go_enter Tryz.func66, Tryz.ntmps66
  go_wp2
  go_ret
  exact ⟨rfl, rfl⟩
set_option maxHeartbeats 400000 in
theorem extMade_zero {w : World} {r : Nat} (h : w.cell? ⟨r, 0, none⟩ = some (.pointer none)) : Calls Tryz.prog 66 #[.pointer (some ⟨r, 0, none⟩)] w fun e w' => e = .returned (.bool false) ∧ w = w' := by
  go_enter Tryz.func66, Tryz.ntmps66
  go_wp2
  go_ret
  exact ⟨rfl, rfl⟩
/-- The Meta of no store. -/
def zeroMeta : Value := .agg #[.int .i64 0, .int .i64 0, .int .i64 0, .int .i64 0, .slice none 0 0]
/-- made says no of v, from w on. -/
def Unmade (w : World) (v : Value) : Prop := ∀ w1, Below w.heap.size w w1 → Calls Tryz.prog 66 #[v] w1 fun e w' => e = .returned (.bool false) ∧ w1 = w'
theorem Unmade.nil_ (w : World) : Unmade w (.pointer none) := fun w1 _ => extMade_nil w1
theorem Unmade.zero_ {w : World} {r : Nat} (h : w.cell? ⟨r, 0, none⟩ = some (.pointer none)) (hr : r < w.heap.size) : Unmade w (.pointer (some ⟨r, 0, none⟩)) := fun w1 hb => extMade_zero ((hb.cell (p := ⟨r, 0, none⟩) hr).trans h)
theorem Unmade.later {w w1 : World} {v : Value} (h : Unmade w v) (hb : Below w.heap.size w w1) : Unmade w1 v := fun w2 hb2 => h w2 (hb.trans (hb2.mono hb.size))
/-- A block of nought: a Meta. -/
theorem zbox (w : World) : (w.alloc (.cells #[.int .i64 0, .int .i64 0, .int .i64 0, .int .i64 0, .slice none 0 0] 41)).heap[w.heap.size]? = some (.cells #[.int .i64 0, .int .i64 0, .int .i64 0, .int .i64 0, .slice none 0 0] 41 (0, 0)) := heap_alloc_new _ _

theorem box_five {w : World} {b : Nat} {T : TypeId} {a0 a1 a2 a3 a4 : Value} (h : w.heap[b]? = some (.cells #[a0, a1, a2, a3, a4] T (0, 0))) (x0 x1 x2 x3 x4 : Value) : (((((w.setCell ⟨b, 0, none⟩ x0).setCell ⟨b, 1, none⟩ x1).setCell ⟨b, 2, none⟩ x2).setCell ⟨b, 3, none⟩ x3).setCell ⟨b, 4, none⟩ x4).heap[b]? = some (.cells #[x0, x1, x2, x3, x4] T (0, 0)) := by
  have h0 := heap_setCell_same _ b 0 _ _ x0 h
  have h1 := heap_setCell_same _ b 1 _ _ x1 h0
  have h2 := heap_setCell_same _ b 2 _ _ x2 h1
  have h3 := heap_setCell_same _ b 3 _ _ x3 h2
  have h4 := heap_setCell_same _ b 4 _ _ x4 h3
  simpa using h4
section
variable {w : World} {v : Value}
set_option maxHeartbeats 800000 in
theorem extHead_un (hm : Unmade w v) : Calls Tryz.prog 44 #[v] w fun e w' => e = .returned (.tuple #[.agg #[.int .i64 0, .int .i64 0, .int .i64 0, .int .i64 0, .slice none 0 0], .int .i64 2]) ∧ Below w.heap.size w w' := by
  have hX : Below w.heap.size w (w.alloc (.cells #[.int .i64 0, .int .i64 0, .int .i64 0, .int .i64 0, .slice none 0 0] 41)) := (Below.refl _ _).alloc (Nat.le_refl _) _
  have HM := Lib.hid (hm _ hX)
  have HX := Lib.hid hX
  have hb := zbox w
  clear hm hX
  go_enter Tryz.func44, Tryz.ntmps44
  go_wp2_with fail
  refine HM.out.mono ?_
  rintro e w1 ⟨rfl, rfl⟩
  go_wp2
  have d0 := cell_of_row _ w.heap.size 0 _ _ (0, 0) hb
  have d1 := cell_of_row _ w.heap.size 1 _ _ (0, 0) hb
  have d2 := cell_of_row _ w.heap.size 2 _ _ (0, 0) hb
  have d3 := cell_of_row _ w.heap.size 3 _ _ (0, 0) hb
  have d4 := cell_of_row _ w.heap.size 4 _ _ (0, 0) hb
  generalize w.alloc (.cells #[.int .i64 0, .int .i64 0, .int .i64 0, .int .i64 0, .slice none 0 0] 41) = X at *
  exact bodyPost_ret (v := .tuple #[.agg #[.int .i64 0, .int .i64 0, .int .i64 0, .int .i64 0, .slice none 0 0], .int .i64 2]) (by simp [results, Tryz.results44, go_sem, d0, d1, d2, d3, d4]) rfl ⟨rfl, HX.out⟩
set_option maxHeartbeats 800000 in
theorem extGet_un (hm : Unmade w v) (A : Option Addr) (n c : Nat) : Calls Tryz.prog 17 #[v, .slice A n c] w fun e w' => e = .returned (.tuple #[.slice none 0 0, .bool false, .int .i64 2]) ∧ Below w.heap.size w w' := by
  have HM := Lib.hid (extHead_un hm)
  clear hm
  go_enter Tryz.func17, Tryz.ntmps17
  go_wp2_with fail
  refine HM.out.mono ?_
  rintro e w1 ⟨rfl, hb1⟩
  have HB := Lib.hid hb1
  clear hb1 HM
  go_wp2
  exact bodyPost_ret (v := .tuple #[.slice none 0 0, .bool false, .int .i64 2]) (by simp [results, Tryz.results17, go_sem]) rfl ⟨rfl, HB.out.alloc HB.out.size _⟩
set_option maxHeartbeats 800000 in
theorem extDelete_un (hm : Unmade w v) (A : Option Addr) (n c : Nat) : Calls Tryz.prog 18 #[v, .slice A n c] w fun e w' => e = .returned (.tuple #[.bool false, .int .i64 2]) ∧ Below w.heap.size w w' := by
  have HM := Lib.hid (extHead_un hm)
  clear hm
  go_enter Tryz.func18, Tryz.ntmps18
  go_wp2_with fail
  refine HM.out.mono ?_
  rintro e w1 ⟨rfl, hb1⟩
  have HB := Lib.hid hb1
  clear hb1 HM
  go_wp2
  go_ret2
  exact ⟨rfl, HB.out.alloc HB.out.size _⟩
set_option maxHeartbeats 800000 in
theorem extPut_un (hm : Unmade w v) (A A' : Option Addr) (n c n' c' : Nat) : Calls Tryz.prog 20 #[v, .slice A n c, .slice A' n' c'] w fun e w' => e = .returned (.int .i64 2) ∧ w = w' := by
  have HM := Lib.hid (hm w (Below.refl _ _))
  clear hm
  go_enter Tryz.func20, Tryz.ntmps20
  go_wp2_with fail
  refine HM.out.mono ?_
  rintro e w1 ⟨rfl, rfl⟩
  go_wp2
  go_ret
  exact ⟨rfl, rfl⟩
set_option maxHeartbeats 800000 in
theorem extAll_un (hm : Unmade w v) : Calls Tryz.prog 12 #[v] w fun e w' => e = .returned (.tuple #[.slice none 0 0, .int .i64 2]) ∧ Below w.heap.size w w' := by
  have HM := Lib.hid (extHead_un hm)
  clear hm
  go_enter Tryz.func12, Tryz.ntmps12
  go_wp2_with fail
  refine HM.out.mono ?_
  rintro e w1 ⟨rfl, hb1⟩
  have HB := Lib.hid hb1
  clear hb1 HM
  go_wp2
  go_ret2
  exact ⟨rfl, HB.out.alloc HB.out.size _⟩
set_option maxHeartbeats 800000 in
theorem extMeta_un (hm : Unmade w v) : Calls Tryz.prog 14 #[v] w fun e w' => e = .returned (.agg #[.int .i64 0, .int .i64 0, .int .i64 0, .int .i64 0, .slice none 0 0]) ∧ Below w.heap.size w w' := by
  have hX : Below w.heap.size w (w.alloc (.cells #[.int .i64 0, .int .i64 0, .int .i64 0, .int .i64 0, .slice none 0 0] 41)) := (Below.refl _ _).alloc (Nat.le_refl _) _
  have HM := Lib.hid (extHead_un (hm.later hX))
  have HX := Lib.hid hX
  have HZ := Lib.hid (zbox w)
  clear hm hX
  go_enter Tryz.func14, Tryz.ntmps14
  go_wp2_with fail
  refine HM.out.mono ?_
  rintro e w1 ⟨rfl, hb1⟩
  have hz1 := (hb1.block w.heap.size (by simp)).trans HZ.out
  have HB := Lib.hid (HX.out.trans (hb1.mono HX.out.size))
  have hf : ∀ i, w1.frozen? ⟨w.heap.size, i, none⟩ = false := fun i => by simp [World.frozen?, hz1]
  have f0 := hf 0
  have f1 := hf 1
  have f2 := hf 2
  have f3 := hf 3
  have f4 := hf 4
  have d0 := cell_of_row _ w.heap.size 0 _ _ (0, 0) hz1
  have d1 := cell_of_row _ w.heap.size 1 _ _ (0, 0) hz1
  have d2 := cell_of_row _ w.heap.size 2 _ _ (0, 0) hz1
  have d3 := cell_of_row _ w.heap.size 3 _ _ (0, 0) hz1
  have d4 := cell_of_row _ w.heap.size 4 _ _ (0, 0) hz1
  have hlt : w.heap.size < w1.heap.size := (Array.getElem?_eq_some_iff.1 hz1).1
  have hz3 := box_five hz1 (.int .i64 0) (.int .i64 0) (.int .i64 0) (.int .i64 0) (.slice none 0 0)
  have hb3 := (((((HB.out.setCell (p := ⟨w.heap.size, 0, none⟩) (Nat.le_refl _) (.int .i64 0)).setCell (p := ⟨w.heap.size, 1, none⟩) (Nat.le_refl _) (.int .i64 0)).setCell (p := ⟨w.heap.size, 2, none⟩) (Nat.le_refl _) (.int .i64 0)).setCell (p := ⟨w.heap.size, 3, none⟩) (Nat.le_refl _) (.int .i64 0)).setCell (p := ⟨w.heap.size, 4, none⟩) (Nat.le_refl _) (.slice none 0 0))
  have hz4 := (Below.heap_alloc _ (.cells #[.int .i64 0, .int .i64 0, .int .i64 0, .int .i64 0, .slice none 0 0] 41) _ (Array.getElem?_eq_some_iff.1 hz3).1).trans hz3
  have HZ4 := Lib.hid hz4
  have HB4 := Lib.hid (hb3.alloc hb3.size (.cells #[.int .i64 0, .int .i64 0, .int .i64 0, .int .i64 0, .slice none 0 0] 41))
  clear hb1 hf hz3 hb3 hz4
  go_wp2
  have hz5 := HZ4.out
  have e0 := cell_of_row _ w.heap.size 0 _ _ (0, 0) hz5
  have e1 := cell_of_row _ w.heap.size 1 _ _ (0, 0) hz5
  have e2 := cell_of_row _ w.heap.size 2 _ _ (0, 0) hz5
  have e3 := cell_of_row _ w.heap.size 3 _ _ (0, 0) hz5
  have e4 := cell_of_row _ w.heap.size 4 _ _ (0, 0) hz5
  have hB := HB4.out
  clear d0 d1 d2 d3 d4 f0 f1 f2 f3 f4 hz1 hz5 HZ4 HB4 HB
  generalize (((((w1.setCell ⟨w.heap.size, 0, none⟩ (.int .i64 0)).setCell ⟨w.heap.size, 1, none⟩ (.int .i64 0)).setCell ⟨w.heap.size, 2, none⟩ (.int .i64 0)).setCell ⟨w.heap.size, 3, none⟩ (.int .i64 0)).setCell ⟨w.heap.size, 4, none⟩ (.slice none 0 0)).alloc (.cells #[.int .i64 0, .int .i64 0, .int .i64 0, .int .i64 0, .slice none 0 0] 41) = X at *
  exact bodyPost_ret (v := .agg #[.int .i64 0, .int .i64 0, .int .i64 0, .int .i64 0, .slice none 0 0]) (by simp [results, Tryz.results14, go_sem, e0, e1, e2, e3, e4]) rfl ⟨rfl, hB⟩
theorem metaCount_run (d f n c : Int) (A : Option Addr) (k cap : Nat) (w : World) : (Instr.field 41 (.agg #[.int .i64 d, .int .i64 f, .int .i64 n, .int .i64 c, .slice A k cap]) 3).run Tryz.prog w = .ok (.int .i64 c) w := by
  kernel_rfl
set_option maxHeartbeats 800000 in
theorem extLen_un (hm : Unmade w v) : Calls Tryz.prog 21 #[v] w fun e w' => e = .returned (.int .i64 0) ∧ Below w.heap.size w w' := by
  have HM := Lib.hid (extMeta_un hm)
  clear hm
  go_enter Tryz.func21, Tryz.ntmps21
  go_wp2_with fail
  refine HM.out.mono ?_
  rintro e w1 ⟨rfl, hb1⟩
  have HB := Lib.hid hb1
  clear hb1 HM
  have hfl := metaCount_run 0 0 0 0 none 0 0 w1
  go_wp2
  go_ret
  exact ⟨rfl, HB.out⟩
set_option maxHeartbeats 800000 in
theorem extOpen_nil (w : World) : Calls Tryz.prog 19 #[.pointer none] w fun e w' => e = .returned (.tuple #[.pointer none, .int .i64 2]) ∧ Below w.heap.size w w' := by
  have hX : Below w.heap.size w (w.alloc (.cells #[.pointer none] 48)) := (Below.refl _ _).alloc (Nat.le_refl _) _
  have hc : (w.alloc (.cells #[.pointer none] 48)).cell? ⟨w.heap.size, 0, none⟩ = some (.pointer none) := by
    rw [cell_of_row _ w.heap.size 0 _ _ (0, 0) (heap_alloc_new _ _)]; rfl
  have HM := Lib.hid (extHead_un (Unmade.zero_ hc (by simp)))
  have HX := Lib.hid hX
  clear hX hc
  go_enter Tryz.func19, Tryz.ntmps19
  go_wp2_with fail
  refine HM.out.mono ?_
  rintro e w1 ⟨rfl, hb1⟩
  have HB := Lib.hid (HX.out.trans (hb1.mono HX.out.size))
  clear hb1 HM
  go_wp2
  go_ret2
  exact ⟨rfl, HB.out.alloc HB.out.size _⟩
end
end Go.Proofs.YtinhdimalhfgkaaGreatDoor

/-
  Words for a slice of ints as it lies in memory; what keeps it. Plain facts; no condition beyond what each says.
-/
namespace Go.Proofs.YtinhdimalhfgkaaGreatDoor
open Go.RowKit
set_option maxRecDepth 100000
set_option linter.unusedVariables false

/-- The slice at A of n ints reads as the list l in w, and lies below block B. -/
def RI (w : World) (B : Nat) (A : Option Addr) (n : Nat) (l : List Int) : Prop :=
  l.length = n ∧ (∀ x ∈ l, -9223372036854775808 ≤ x ∧ x ≤ 9223372036854775807) ∧ (0 < n → ∃ b off, A = some ⟨b, off, none⟩ ∧ b < B ∧ ∀ j, j < n → w.cell? ⟨b, off + j, none⟩ = some (.int .i64 (l[j]?.getD 0)))

theorem RI.nil_ {w : World} {B : Nat} {A : Option Addr} : RI w B A 0 [] := ⟨rfl, (fun _ h => by cases h), fun h => absurd h (by omega)⟩
theorem RI.len {w : World} {B n : Nat} {A : Option Addr} {l : List Int} (h : RI w B A n l) : l.length = n := h.1
theorem RI.keep {w w' : World} {B n : Nat} {A : Option Addr} {l : List Int} (h : RI w B A n l) (hk : ∀ b o, b < B → w'.cell? ⟨b, o, none⟩ = w.cell? ⟨b, o, none⟩) : RI w' B A n l :=
  ⟨h.1, h.2.1, fun hn => by
    obtain ⟨b, off, e, hb, hc⟩ := h.2.2 hn
    exact ⟨b, off, e, hb, fun j hj => (hk _ _ hb).trans (hc j hj)⟩⟩
theorem RI.below {w w' : World} {B n : Nat} {A : Option Addr} {l : List Int} (h : RI w B A n l) (hb : Below B w w') : RI w' B A n l := h.keep fun b o hp => hb.cell (p := ⟨b, o, none⟩) hp
theorem RI.more {w : World} {B B' n : Nat} {A : Option Addr} {l : List Int} (h : RI w B A n l) (hB : B ≤ B') : RI w B' A n l :=
  ⟨h.1, h.2.1, fun hn => by
    obtain ⟨b, off, e, hb, hc⟩ := h.2.2 hn
    exact ⟨b, off, e, by omega, hc⟩⟩
theorem int_bounds {n : Int} (h : (Lit.int .i64 n).wf = true) : -9223372036854775808 ≤ n ∧ n ≤ 9223372036854775807 := by
  simp [Lit.wf, IntKind.min, IntKind.max, IntKind.signed, IntKind.bits] at h
  omega
theorem byte_bounds {n : Int} (h : (Lit.int .u8 n).wf = true) : 0 ≤ n ∧ n < 256 := by
  simp [Lit.wf, IntKind.min, IntKind.max, IntKind.signed, IntKind.bits] at h
  omega
theorem add_none (b off j : Nat) : Addr.add ⟨b, off, none⟩ j = ⟨b, off + j, none⟩ := by unfold Addr.add; split <;> simp_all

/-- A slice of ints as the statements open it. -/
theorem RI.of_cells {w : World} {x : Addr} {len cap : Nat} {zs : List Int} (hl : len ≤ cap) (hz : zs.length = cap) (hcell : ∀ i, i < zs.length → w.cell? (x.add i) = some (.int .i64 (zs.getD i 0))) (hw : ∀ n ∈ zs, (Lit.int .i64 n).wf = true) : RI w w.heap.size (some x) len (zs.take len) := by
  refine ⟨by simp; omega, fun y hy => int_bounds (hw y (List.mem_of_mem_take hy)), fun hn => ?_⟩
  obtain ⟨b, off, spot⟩ := x
  have hc := hcell 0 (by omega)
  have hspot : spot = none := by simpa [Addr.add] using World.cell?_spot hc
  subst hspot
  refine ⟨b, off, rfl, ?_, fun j hj => ?_⟩
  · rw [add_none] at hc
    exact World.block_lt_of_cell? _ _ hc
  · have := hcell j (by omega)
    have e : (zs.take len)[j]?.getD 0 = zs.getD j 0 := by simp [hj]
    rw [e, ← add_none]
    exact this

/-- n times the same byte. -/
def reps (n : Nat) (c : Int) : List Int := List.replicate n c
theorem reps_length (n : Nat) (c : Int) : (reps n c).length = n := List.length_replicate ..
theorem reps_bytes (n : Nat) {c : Int} (h : 0 ≤ c ∧ c < 256) : AllBytes (reps n c) := fun x hx => by
  obtain rfl := (List.mem_replicate.1 hx).2
  exact h
theorem reps_getD {n : Nat} {c : Int} {j : Nat} (h : j < n) : (reps n c)[j]?.getD 0 = c := by simp [reps, h]

theorem size_u8' : (Tryz.prog.info? 5).map (·.size) = some 1 := by kernel_rfl

end Go.Proofs.YtinhdimalhfgkaaGreatDoor

/-
  Plain: what a disk is and what each of its calls makes of it, as the document says. No program.
-/
namespace Go.Proofs.YtinhdimalhfgkaaGreatDoor
open Go.RowKit
set_option maxRecDepth 100000
set_option linter.unusedVariables false

/-- A disk: sectors; what is safe, and what was written last; which were written since, in order; its fuse; whether it is down; how many writes were done. -/
structure DS where
  n : Nat
  safe : Nat → List Int
  last : Nat → List Int
  pend : List Nat
  arm : Option Nat
  down : Bool
  writes : Nat

/-- A sector of noughts. -/
def nought : List Int := List.replicate 256 0
def DS.new (n : Nat) : DS := ⟨n, fun _ => nought, fun _ => nought, [], none, false, 0⟩

/-- What holds of every disk. -/
structure DS.Ok (S : DS) : Prop where
  size : 3 ≤ S.n ∧ S.n ≤ 65536
  safeBytes : ∀ i, (S.safe i).length = 256 ∧ AllBytes (S.safe i)
  lastBytes : ∀ i, (S.last i).length = 256 ∧ AllBytes (S.last i)
  pendLt : ∀ i ∈ S.pend, i < S.n
  pendNodup : S.pend.Nodup
  same : ∀ i, i ∉ S.pend → S.last i = S.safe i

def DS.has (S : DS) (i : Int) : Prop := 0 ≤ i ∧ i < S.n
instance (S : DS) (i : Int) : Decidable (S.has i) := by unfold DS.has; infer_instance

def DS.readE (S : DS) (i : Int) : Int := if S.down = true then 5 else if S.has i then 0 else 1
def DS.readL (S : DS) (i : Int) : List Int := if S.readE i = 0 then S.last i.toNat else []
def DS.put (S : DS) (i : Nat) (l : List Int) : DS :=
  { S with last := fun j => if j = i then l else S.last j, pend := if i ∈ S.pend then S.pend else S.pend ++ [i], arm := S.arm.map (· - 1), writes := S.writes + 1 }
def DS.writeE (S : DS) (i : Int) (l : List Int) : Int := if S.down = true then 5 else if ¬ (S.has i ∧ l.length = 256) then 1 else if S.arm = some 0 then 5 else 0
def DS.write (S : DS) (i : Int) (l : List Int) : DS :=
  if S.down = true then S else if ¬ (S.has i ∧ l.length = 256) then S else if S.arm = some 0 then { S with down := true } else S.put i.toNat l
def DS.flushE (S : DS) : Int := if S.down = true then 5 else 0
def DS.flush (S : DS) : DS := if S.down = true then S else { S with safe := S.last, pend := [] }
def DS.fuse (S : DS) (k : Int) : DS := { S with arm := if k < 0 then none else some k.toNat }
/-- Whether what was written to a sector is kept. -/
def DS.kept (S : DS) (keep : List Int) (i : Nat) : Prop := ∃ at_ : Nat, S.pend[at_]? = some i ∧ (at_ : Int) ∈ keep
open Classical in
noncomputable def DS.crash (S : DS) (keep : List Int) : DS :=
  { S with safe := fun i => if S.kept keep i then S.last i else S.safe i, last := fun i => if S.kept keep i then S.last i else S.safe i, pend := [], arm := none, down := false }
def DS.pending (S : DS) : List Int := S.pend.map Int.ofNat

theorem nought_ok : nought.length = 256 ∧ AllBytes nought := ⟨List.length_replicate .., fun x hx => by
  obtain rfl := (List.mem_replicate.1 hx).2
  decide⟩
theorem DS.new_ok {n : Nat} (h : 3 ≤ n ∧ n ≤ 65536) : (DS.new n).Ok := ⟨h, fun _ => nought_ok, fun _ => nought_ok, (fun _ h => by cases h), List.nodup_nil, fun _ _ => rfl⟩
theorem DS.put_ok {S : DS} (h : S.Ok) {i : Nat} {l : List Int} (hi : i < S.n) (hl : l.length = 256 ∧ AllBytes l) : (S.put i l).Ok := by
  refine ⟨h.size, h.safeBytes, fun j => ?_, fun j hj => ?_, ?_, fun j hj => ?_⟩
  · show (if j = i then l else S.last j).length = 256 ∧ AllBytes (if j = i then l else S.last j)
    split
    · exact hl
    · exact h.lastBytes j
  · have hj' : j ∈ (if i ∈ S.pend then S.pend else S.pend ++ [i]) := hj
    split at hj'
    · exact h.pendLt j hj'
    · rcases List.mem_append.1 hj' with a | a
      · exact h.pendLt j a
      · obtain rfl := List.mem_singleton.1 a
        exact hi
  · show (if i ∈ S.pend then S.pend else S.pend ++ [i]).Nodup
    split
    · exact h.pendNodup
    · rename_i hn
      refine List.nodup_append.2 ⟨h.pendNodup, by simp, fun a ha b hb => ?_⟩
      obtain rfl := List.mem_singleton.1 hb
      intro e
      subst e
      exact hn ha
  · have hj' : j ∉ (if i ∈ S.pend then S.pend else S.pend ++ [i]) := hj
    have hne : j ≠ i := by
      rintro rfl
      split at hj'
      · rename_i hm; exact hj' hm
      · exact hj' (by simp)
    have hjp : j ∉ S.pend := by
      split at hj'
      · exact hj'
      · intro hm; exact hj' (by simp [hm])
    show (if j = i then l else S.last j) = S.safe j
    rw [if_neg hne]
    exact h.same j hjp
theorem DS.write_ok {S : DS} (h : S.Ok) {i : Int} {l : List Int} (hl : AllBytes l) : (S.write i l).Ok := by
  unfold DS.write
  split
  · exact h
  split
  · exact h
  rename_i hn
  have hn' : S.has i ∧ l.length = 256 := by
    by_cases e : S.has i ∧ l.length = 256
    · exact e
    · exact absurd e hn
  split
  · exact ⟨h.size, h.safeBytes, h.lastBytes, h.pendLt, h.pendNodup, h.same⟩
  · exact DS.put_ok h (by have := hn'.1; unfold DS.has at this; omega) ⟨hn'.2, hl⟩
theorem DS.flush_ok {S : DS} (h : S.Ok) : S.flush.Ok := by
  unfold DS.flush
  split
  · exact h
  · exact ⟨h.size, h.lastBytes, h.lastBytes, (fun _ hm => by cases hm), List.nodup_nil, fun _ _ => rfl⟩
theorem DS.fuse_ok {S : DS} (h : S.Ok) (k : Int) : (S.fuse k).Ok := ⟨h.size, h.safeBytes, h.lastBytes, h.pendLt, h.pendNodup, h.same⟩
open Classical in
theorem DS.crash_ok {S : DS} (h : S.Ok) (keep : List Int) : (S.crash keep).Ok := by
  have each : ∀ i, ((S.crash keep).safe i).length = 256 ∧ AllBytes ((S.crash keep).safe i) := by
    intro i
    unfold DS.crash
    show (if S.kept keep i then S.last i else S.safe i).length = 256 ∧ AllBytes (if S.kept keep i then S.last i else S.safe i)
    split
    · exact h.lastBytes i
    · exact h.safeBytes i
  exact ⟨h.size, each, each, (fun _ hm => by cases hm), List.nodup_nil, fun _ _ => rfl⟩

/-! What changes when an object is worked on: its own blocks, and new ones. -/
/-- w' is w with new blocks, and with writes to blocks of F alone. -/
structure Touch (F : Nat → Prop) (w w' : World) : Prop where
  os : w'.os = w.os
  tape : w'.tape = w.tape
  output : w'.output = w.output
  size : w.heap.size ≤ w'.heap.size
  block : ∀ k, k < w.heap.size → ¬ F k → w'.heap[k]? = w.heap[k]?

theorem Touch.refl (F : Nat → Prop) (w : World) : Touch F w w := ⟨rfl, rfl, rfl, Nat.le_refl _, fun _ _ _ => rfl⟩
theorem Touch.below {F : Nat → Prop} {B : Nat} {w w' : World} (h : Touch F w w') (hF : ∀ k, F k → B ≤ k) (hB : B ≤ w.heap.size) : Below B w w' :=
  ⟨h.os, h.tape, h.output, h.size, fun k hk => h.block k (by omega) (fun hf => by have := hF k hf; omega)⟩
theorem Touch.of_below {F : Nat → Prop} {w w' : World} (h : Below w.heap.size w w') : Touch F w w' := ⟨h.os, h.tape, h.output, h.size, fun k hk _ => h.block k hk⟩

theorem nodup_lt : ∀ (N : Nat) (l : List Nat), l.Nodup → (∀ x ∈ l, x < N) → l.length ≤ N := by
  intro N
  induction N with
  | zero =>
    intro l _ h
    cases l with
    | nil => exact Nat.le_refl _
    | cons a l => exact absurd (h a (by simp)) (by omega)
  | succ N ih =>
    intro l hn h
    by_cases hm : N ∈ l
    · have h1 := ih (l.erase N) (hn.erase N) (fun x hx => by
        have := h x (List.mem_of_mem_erase hx)
        have hne : x ≠ N := fun e => by subst e; exact (List.Nodup.not_mem_erase hn) hx
        omega)
      have h2 := List.length_erase_of_mem hm
      omega
    · have := ih l hn (fun x hx => by
        have := h x hx
        have hne : x ≠ N := fun e => by subst e; exact hm hx
        omega)
      omega

/-- What a call that changes a disk leaves of a slice of ints that lies apart. -/
theorem RI.touch {w w' : World} {B n : Nat} {A : Option Addr} {l : List Int} {F : Nat → Prop} (h : RI w B A n l) (ht : Touch F w w') (hB : B ≤ w.heap.size) (hA : 0 < n → ∀ a, A = some a → ¬ F a.block) : RI w' B A n l :=
  ⟨h.1, h.2.1, fun hn => by
    obtain ⟨b, off, e, hb, hc⟩ := h.2.2 hn
    refine ⟨b, off, e, hb, fun j hj => ?_⟩
    rw [World.cell?_of_block (w := w) (ht.block b (by omega) (hA hn _ e))]
    exact hc j hj⟩

end Go.Proofs.YtinhdimalhfgkaaGreatDoor

/-
  Plain arithmetic of numbers as bytes, the highest first: what some bytes are as a number, what bytes a number has, and that the one undoes the other. No program, no condition.
-/
namespace Go.Proofs.YtinhdimalhfgkaaGreatDoor
open Go.RowKit
set_option maxRecDepth 100000

/-- One byte more behind a number. -/
def stepN (n c : Int) : Int := bits .or .i64 (wrap64 (n * 256)) c
/-- The number of some bytes. -/
def numOf (l : List Int) : Int := l.foldl stepN 0
/-- The same, not wrapped. -/
def beOf (l : List Int) : Int := l.foldl (fun n c => n * 256 + c) 0
/-- The last k bytes of a number, the highest first. -/
def putB (n : Int) : Nat → List Int | 0 => [] | k + 1 => putB (n / 256) k ++ [n % 256]

theorem numOf_snoc (l : List Int) (x : Int) : numOf (l ++ [x]) = stepN (numOf l) x := by simp [numOf]
theorem beOf_snoc (l : List Int) (x : Int) : beOf (l ++ [x]) = beOf l * 256 + x := by simp [beOf]
theorem numOf_step (l : List Int) (a k : Nat) (h : a + k < l.length) : numOf ((l.drop a).take (k + 1)) = stepN (numOf ((l.drop a).take k)) (l[a + k]?.getD 0) := by
  have e : (l.drop a).take (k + 1) = (l.drop a).take k ++ [l[a + k]?.getD 0] := by
    rw [List.take_succ_eq_append_getElem (by simp; omega)]
    simp [List.getElem?_eq_getElem h]
  rw [e, numOf_snoc]

theorem bits_or_nat64 (x y : Int) : bits .or .i64 x y = wrap64 (((x % 18446744073709551616).toNat ||| (y % 18446744073709551616).toNat : Nat) : Int) := by
  have e : ∀ z : Int, IntKind.i64.wrap z = wrap64 z := fun z => by rw [IntKind.wrap_i64]; first | rfl | (unfold wrap64; rfl) | unfold wrap64
  simp only [bits]
  rw [e, BitVec.toNat_or, BitVec.toNat_ofInt, BitVec.toNat_ofInt]
  rfl

theorem stepN_eq (n c : Int) (h0 : 0 ≤ c) (h1 : c < 256) : stepN n c = wrap64 (n * 256 + c) := by
  unfold stepN
  rw [bits_or_nat64]
  obtain ⟨q, hq⟩ : ∃ q : Nat, (wrap64 (n * 256) % 18446744073709551616).toNat = 256 * q := by
    refine ⟨(wrap64 (n * 256) % 18446744073709551616).toNat / 256, ?_⟩
    unfold wrap64
    omega
  obtain ⟨d, rfl⟩ := Int.eq_ofNat_of_zero_le h0
  have hd : ((d : Int) % 18446744073709551616).toNat = d := by omega
  rw [hq, hd]
  have hor : 256 * q ||| d = 256 * q + d := (Nat.two_pow_add_eq_or_of_lt (i := 8) (by omega) q).symm
  rw [hor]
  unfold wrap64 at hq ⊢
  omega

theorem numOf_eq (l : List Int) (h : ∀ x ∈ l, 0 ≤ x ∧ x < 256) : numOf l = wrap64 (beOf l) := by
  suffices H : ∀ k, k ≤ l.length → numOf (l.take k) = wrap64 (beOf (l.take k)) by
    have := H l.length (Nat.le_refl _); rwa [List.take_length] at this
  intro k
  induction k with
  | zero => intro _; simp [numOf, beOf, wrap64]
  | succ k ih =>
    intro hk
    rw [List.take_succ_eq_append_getElem (by omega), numOf_snoc, beOf_snoc, ih (by omega)]
    obtain ⟨a, b⟩ := h _ (List.getElem_mem (by omega : k < l.length))
    rw [stepN_eq _ _ a b]
    generalize beOf (List.take k l) = z
    unfold wrap64
    omega

theorem putB_length (n : Int) (k : Nat) : (putB n k).length = k := by
  induction k generalizing n with
  | zero => rfl
  | succ k ih => simp [putB, ih]
theorem putB_bytes (n : Int) (k : Nat) : ∀ x ∈ putB n k, 0 ≤ x ∧ x < 256 := by
  induction k generalizing n with
  | zero => intro x hx; cases hx
  | succ k ih =>
    intro x hx
    simp only [putB, List.mem_append, List.mem_singleton] at hx
    rcases hx with h | h
    · exact ih _ x h
    · subst h; omega
theorem beOf_putB (n : Int) (k : Nat) : beOf (putB n k) = n % 256 ^ k := by
  induction k generalizing n with
  | zero => simp [putB, beOf]
  | succ k ih =>
    rw [putB, beOf_snoc, ih, Int.pow_succ]
    have h1 := Int.emod_add_mul_ediv n 256
    have h2 := Int.emod_add_mul_ediv (n / 256) (256 ^ k)
    have hp : (0 : Int) < 256 ^ k := Int.pow_pos (by decide)
    have h3 : 0 ≤ n / 256 % 256 ^ k := Int.emod_nonneg _ (by omega)
    have h4 : n / 256 % 256 ^ k < 256 ^ k := Int.emod_lt_of_pos _ hp
    have h5 : n = (n / 256 % 256 ^ k * 256 + n % 256) + (256 ^ k * 256) * (n / 256 / 256 ^ k) := by
      have : 256 ^ k * 256 * (n / 256 / 256 ^ k) = 256 * (256 ^ k * (n / 256 / 256 ^ k)) := by
        rw [Int.mul_comm (256 ^ k) 256, Int.mul_assoc]
      rw [this]; omega
    have h6 : (n / 256 % 256 ^ k * 256 + n % 256) % (256 ^ k * 256) = n / 256 % 256 ^ k * 256 + n % 256 :=
      Int.emod_eq_of_lt (by omega) (by omega)
    rw [← h6]
    conv => rhs; rw [h5]
    rw [Int.add_mul_emod_self_left]

/-- n shifted j bytes down. -/
def shN (n : Int) : Nat → Int | 0 => n | j + 1 => shN n j / 256
theorem shN_front (n : Int) (j : Nat) : shN n (j + 1) = shN (n / 256) j := by
  induction j with
  | zero => rfl
  | succ j ih => rw [shN, ih]; rfl
theorem putB_front (n : Int) (j : Nat) : putB n (j + 1) = (shN n j % 256) :: putB n j := by
  induction j generalizing n with
  | zero => simp [putB, shN]
  | succ j ih =>
    rw [putB, ih, shN_front]
    conv => rhs; rw [putB]
    simp
theorem shN_bounds (n : Int) (h0 : -9223372036854775808 ≤ n) (h1 : n ≤ 9223372036854775807) (j : Nat) : -9223372036854775808 ≤ shN n j ∧ shN n j ≤ 9223372036854775807 := by
  induction j with
  | zero => exact ⟨h0, h1⟩
  | succ j ih => rw [shN]; omega

end Go.Proofs.YtinhdimalhfgkaaGreatDoor

/-
  Contracts of the small functions over sizes: what num.isSize, num.Right and the plain answers sized, pow, Right return, for every argument; none of them touches the memory. No condition.
-/
namespace Go.Proofs.YtinhdimalhfgkaaGreatDoor
open Go.RowKit
set_option maxRecDepth 100000

/-- A size that numbers have. -/
def sizeB (s : Int) : Bool := decide (s = 1 ∨ s = 2 ∨ s = 4 ∨ s = 8)

/-- A number that may stand in so many bytes. -/
def rightB (n s : Int) : Bool := decide (s = 8) || (decide (s = 1) && decide (0 ≤ n ∧ n < 256)) || (decide (s = 2) && decide (0 ≤ n ∧ n < 65536)) || (decide (s = 4) && decide (0 ≤ n ∧ n < 4294967296))

theorem size_cases {s : Int} (h : sizeB s = true) : s = 1 ∨ s = 2 ∨ s = 4 ∨ s = 8 := of_decide_eq_true h

set_option maxHeartbeats 400000 in
theorem isSize_any (s : Int) (w : World) :
    Calls Tryz.prog 198 #[.int .i64 s] w fun e w' => e = .returned (.bool (sizeB s)) ∧ w = w' := by
  by_cases h1 : s = 1
  · subst h1
    go_enter Tryz.func198, Tryz.ntmps198
    go_wp2; go_ret; exact ⟨rfl, rfl⟩
  by_cases h2 : s = 2
  · subst h2
    go_enter Tryz.func198, Tryz.ntmps198
    go_wp2; go_ret; exact ⟨rfl, rfl⟩
  by_cases h4 : s = 4
  · subst h4
    go_enter Tryz.func198, Tryz.ntmps198
    go_wp2; go_ret; exact ⟨rfl, rfl⟩
  by_cases h8 : s = 8
  · subst h8
    go_enter Tryz.func198, Tryz.ntmps198
    go_wp2; go_ret; exact ⟨rfl, rfl⟩
  have e : sizeB s = false := by simp [sizeB, h1, h2, h4, h8]
  have k1 : (s == 1) = false := by simpa using h1
  have k2 : (s == 2) = false := by simpa using h2
  have k4 : (s == 4) = false := by simpa using h4
  have k8 : (s == 8) = false := by simpa using h8
  rw [e]; clear e h1 h2 h4 h8
  go_enter Tryz.func198, Tryz.ntmps198
  go_wp2; go_ret; exact ⟨rfl, rfl⟩

set_option maxHeartbeats 400000 in
theorem sized_any (s : Int) (w : World) :
    Calls Tryz.prog 167 #[.int .i64 s] w fun e w' => e = .returned (.bool (sizeB s)) ∧ w = w' := by
  by_cases h1 : s = 1
  · subst h1
    go_enter Tryz.func167, Tryz.ntmps167
    go_wp2; go_ret; exact ⟨rfl, rfl⟩
  by_cases h2 : s = 2
  · subst h2
    go_enter Tryz.func167, Tryz.ntmps167
    go_wp2; go_ret; exact ⟨rfl, rfl⟩
  by_cases h4 : s = 4
  · subst h4
    go_enter Tryz.func167, Tryz.ntmps167
    go_wp2; go_ret; exact ⟨rfl, rfl⟩
  by_cases h8 : s = 8
  · subst h8
    go_enter Tryz.func167, Tryz.ntmps167
    go_wp2; go_ret; exact ⟨rfl, rfl⟩
  have e : sizeB s = false := by simp [sizeB, h1, h2, h4, h8]
  have k1 : (s == 1) = false := by simpa using h1
  have k2 : (s == 2) = false := by simpa using h2
  have k4 : (s == 4) = false := by simpa using h4
  have k8 : (s == 8) = false := by simpa using h8
  rw [e]; clear e h1 h2 h4 h8
  go_enter Tryz.func167, Tryz.ntmps167
  go_wp2; go_ret; exact ⟨rfl, rfl⟩

theorem rightB_none {n s : Int} (h : sizeB s = false) : rightB n s = false := by
  simp only [sizeB, decide_eq_false_iff_not, not_or] at h
  obtain ⟨a, b, c, d⟩ := h
  simp [rightB, a, b, c, d]

/-- 256 to the power of a size. -/
def powN : Nat → Int | 0 => 1 | k + 1 => powN k * 256

set_option maxHeartbeats 400000 in
theorem pow_any (k : Nat) (hk : k ≤ 7) (w : World) :
    Calls Tryz.prog 230 #[.int .i64 (k : Int)] w fun e w' => e = .returned (.int .i64 (powN k)) ∧ w = w' := by
  have hall : k = 0 ∨ k = 1 ∨ k = 2 ∨ k = 3 ∨ k = 4 ∨ k = 5 ∨ k = 6 ∨ k = 7 := by omega
  have hlt : ∀ j, j < 7 → 0 ≤ powN j ∧ powN j < 10000000000000000 := by
    intro j hj
    have : j = 0 ∨ j = 1 ∨ j = 2 ∨ j = 3 ∨ j = 4 ∨ j = 5 ∨ j = 6 := by omega
    rcases this with rfl | rfl | rfl | rfl | rfl | rfl | rfl <;> decide
  have HL := Lib.hid hlt
  clear hlt hall
  go_enter Tryz.func230, Tryz.ntmps230
  go_wp2
  go_loop [3, 4] (fun n i => ∃ j : Nat, j ≤ k ∧ i = .int .i64 j ∧ n = .int .i64 (powN j)) (fun _ i => k - (intOf i).toNat)
  case atStart => exact ⟨0, Nat.zero_le _, rfl, rfl⟩
  case round =>
    obtain ⟨j, hj, rfl, rfl⟩ := hrel
    by_cases hlt : j < k
    · obtain ⟨b0, b1⟩ := HL.out j (by omega)
      have H2 := Lib.hid (show powN (j + 1) = powN j * 256 from rfl)
      go_wp2
      go_round
      case rel => exact ⟨j + 1, by omega, by go_num, by rw [H2.out]⟩
      case measure => simp [intOf]; omega
    · go_wp2
      go_ret
      obtain rfl : j = k := by omega
      exact ⟨rfl, rfl⟩

theorem pow1 (w : World) : Calls Tryz.prog 230 #[.int .i64 1] w fun e w' => e = .returned (.int .i64 256) ∧ w = w' := pow_any 1 (by decide) w
theorem pow2 (w : World) : Calls Tryz.prog 230 #[.int .i64 2] w fun e w' => e = .returned (.int .i64 65536) ∧ w = w' := pow_any 2 (by decide) w
theorem pow4 (w : World) : Calls Tryz.prog 230 #[.int .i64 4] w fun e w' => e = .returned (.int .i64 4294967296) ∧ w = w' := pow_any 4 (by decide) w
theorem isSize_no (s : Int) (w : World) (h : sizeB s = false) :
    Calls Tryz.prog 198 #[.int .i64 s] w fun e w' => e = .returned (.bool false) ∧ w = w' := by
  have := isSize_any s w; rwa [h] at this
theorem isSize_yes (s : Int) (w : World) (h : sizeB s = true) :
    Calls Tryz.prog 198 #[.int .i64 s] w fun e w' => e = .returned (.bool true) ∧ w = w' := by
  have := isSize_any s w; rwa [h] at this
theorem sized_no (s : Int) (w : World) (h : sizeB s = false) :
    Calls Tryz.prog 167 #[.int .i64 s] w fun e w' => e = .returned (.bool false) ∧ w = w' := by
  have := sized_any s w; rwa [h] at this
theorem sized_yes (s : Int) (w : World) (h : sizeB s = true) :
    Calls Tryz.prog 167 #[.int .i64 s] w fun e w' => e = .returned (.bool true) ∧ w = w' := by
  have := sized_any s w; rwa [h] at this

set_option maxHeartbeats 1600000 in
theorem Right_any (n s : Int) (w : World) :
    Calls Tryz.prog 199 #[.int .i64 n, .int .i64 s] w fun e w' => e = .returned (.bool (rightB n s)) ∧ w = w' := by
  by_cases hs : sizeB s = true
  · rcases size_cases hs with rfl | rfl | rfl | rfl
    · clear hs
      by_cases h0 : 0 ≤ n
      · by_cases h1 : n < 256
        · have e : rightB n 1 = true := by simp [rightB, h0, h1]
          have k0 : decide (0 ≤ n) = true := by simp [h0]
          have k1 : decide (n < 256) = true := by simp [h1]
          rw [e]; clear e h0 h1
          go_enter Tryz.func199, Tryz.ntmps199; go_wp2_with (go_at_call 198; refine (isSize_any _ _).mono ?_; rintro e w' ⟨rfl, rfl⟩); go_ret; exact ⟨rfl, rfl⟩
        · have e : rightB n 1 = false := by simp [rightB, h1]
          have k0 : decide (0 ≤ n) = true := by simp [h0]
          have k1 : decide (n < 256) = false := by simp; omega
          rw [e]; clear e h0 h1
          go_enter Tryz.func199, Tryz.ntmps199; go_wp2_with (go_at_call 198; refine (isSize_any _ _).mono ?_; rintro e w' ⟨rfl, rfl⟩); go_ret; exact ⟨rfl, rfl⟩
      · have e : rightB n 1 = false := by simp [rightB, h0]
        have k0 : decide (0 ≤ n) = false := by simp; omega
        rw [e]; clear e h0
        go_enter Tryz.func199, Tryz.ntmps199; go_wp2_with (go_at_call 198; refine (isSize_any _ _).mono ?_; rintro e w' ⟨rfl, rfl⟩); go_ret; exact ⟨rfl, rfl⟩
    · clear hs
      by_cases h0 : 0 ≤ n
      · by_cases h1 : n < 65536
        · have e : rightB n 2 = true := by simp [rightB, h0, h1]
          have k0 : decide (0 ≤ n) = true := by simp [h0]
          have k1 : decide (n < 65536) = true := by simp [h1]
          rw [e]; clear e h0 h1
          go_enter Tryz.func199, Tryz.ntmps199; go_wp2_with (go_at_call 198; refine (isSize_any _ _).mono ?_; rintro e w' ⟨rfl, rfl⟩); go_ret; exact ⟨rfl, rfl⟩
        · have e : rightB n 2 = false := by simp [rightB, h1]
          have k0 : decide (0 ≤ n) = true := by simp [h0]
          have k1 : decide (n < 65536) = false := by simp; omega
          rw [e]; clear e h0 h1
          go_enter Tryz.func199, Tryz.ntmps199; go_wp2_with (go_at_call 198; refine (isSize_any _ _).mono ?_; rintro e w' ⟨rfl, rfl⟩); go_ret; exact ⟨rfl, rfl⟩
      · have e : rightB n 2 = false := by simp [rightB, h0]
        have k0 : decide (0 ≤ n) = false := by simp; omega
        rw [e]; clear e h0
        go_enter Tryz.func199, Tryz.ntmps199; go_wp2_with (go_at_call 198; refine (isSize_any _ _).mono ?_; rintro e w' ⟨rfl, rfl⟩); go_ret; exact ⟨rfl, rfl⟩
    · clear hs
      by_cases h0 : 0 ≤ n
      · by_cases h1 : n < 4294967296
        · have e : rightB n 4 = true := by simp [rightB, h0, h1]
          have k0 : decide (0 ≤ n) = true := by simp [h0]
          have k1 : decide (n < 4294967296) = true := by simp [h1]
          rw [e]; clear e h0 h1
          go_enter Tryz.func199, Tryz.ntmps199; go_wp2_with (go_at_call 198; refine (isSize_any _ _).mono ?_; rintro e w' ⟨rfl, rfl⟩); go_ret; exact ⟨rfl, rfl⟩
        · have e : rightB n 4 = false := by simp [rightB, h1]
          have k0 : decide (0 ≤ n) = true := by simp [h0]
          have k1 : decide (n < 4294967296) = false := by simp; omega
          rw [e]; clear e h0 h1
          go_enter Tryz.func199, Tryz.ntmps199; go_wp2_with (go_at_call 198; refine (isSize_any _ _).mono ?_; rintro e w' ⟨rfl, rfl⟩); go_ret; exact ⟨rfl, rfl⟩
      · have e : rightB n 4 = false := by simp [rightB, h0]
        have k0 : decide (0 ≤ n) = false := by simp; omega
        rw [e]; clear e h0
        go_enter Tryz.func199, Tryz.ntmps199; go_wp2_with (go_at_call 198; refine (isSize_any _ _).mono ?_; rintro e w' ⟨rfl, rfl⟩); go_ret; exact ⟨rfl, rfl⟩
    · clear hs
      have e : rightB n 8 = true := by simp [rightB]
      rw [e]; clear e
      go_enter Tryz.func199, Tryz.ntmps199; go_wp2_with (go_at_call 198; refine (isSize_any _ _).mono ?_; rintro e w' ⟨rfl, rfl⟩); go_ret; exact ⟨rfl, rfl⟩
  · have hs' : sizeB s = false := by simpa using hs
    rw [rightB_none hs']
    have k8 : (s == 8) = false := by
      simp only [sizeB, decide_eq_false_iff_not, not_or] at hs'
      simpa using hs'.2.2.2
    clear hs
    have HS := Lib.hid hs'
    clear hs'
    go_enter Tryz.func199, Tryz.ntmps199; go_wp2_with (go_at_call 198; refine (isSize_no _ _ HS.out).mono ?_; rintro e w' ⟨rfl, rfl⟩); go_ret; exact ⟨rfl, rfl⟩

set_option maxHeartbeats 1600000 in
theorem refRight_any (n s : Int) (w : World) :
    Calls Tryz.prog 213 #[.int .i64 n, .int .i64 s] w fun e w' => e = .returned (.bool (rightB n s)) ∧ w = w' := by
  by_cases hs : sizeB s = true
  · rcases size_cases hs with rfl | rfl | rfl | rfl
    · clear hs
      by_cases h0 : 0 ≤ n
      · by_cases h1 : n < 256
        · have e : rightB n 1 = true := by simp [rightB, h0, h1]
          have k0 : decide (0 ≤ n) = true := by simp [h0]
          have k1 : decide (n < 256) = true := by simp [h1]
          rw [e]; clear e h0 h1
          go_enter Tryz.func213, Tryz.ntmps213; go_wp2_with (first | (go_at_call 167; refine (sized_any _ _).mono ?_; rintro e w' ⟨rfl, rfl⟩) | (go_at_call 230; refine (pow1 _).mono ?_; rintro e w' ⟨rfl, rfl⟩)); go_ret; exact ⟨rfl, rfl⟩
        · have e : rightB n 1 = false := by simp [rightB, h1]
          have k0 : decide (0 ≤ n) = true := by simp [h0]
          have k1 : decide (n < 256) = false := by simp; omega
          rw [e]; clear e h0 h1
          go_enter Tryz.func213, Tryz.ntmps213; go_wp2_with (first | (go_at_call 167; refine (sized_any _ _).mono ?_; rintro e w' ⟨rfl, rfl⟩) | (go_at_call 230; refine (pow1 _).mono ?_; rintro e w' ⟨rfl, rfl⟩)); go_ret; exact ⟨rfl, rfl⟩
      · have e : rightB n 1 = false := by simp [rightB, h0]
        have k0 : decide (0 ≤ n) = false := by simp; omega
        rw [e]; clear e h0
        go_enter Tryz.func213, Tryz.ntmps213; go_wp2_with (first | (go_at_call 167; refine (sized_any _ _).mono ?_; rintro e w' ⟨rfl, rfl⟩) | (go_at_call 230; refine (pow1 _).mono ?_; rintro e w' ⟨rfl, rfl⟩)); go_ret; exact ⟨rfl, rfl⟩
    · clear hs
      by_cases h0 : 0 ≤ n
      · by_cases h1 : n < 65536
        · have e : rightB n 2 = true := by simp [rightB, h0, h1]
          have k0 : decide (0 ≤ n) = true := by simp [h0]
          have k1 : decide (n < 65536) = true := by simp [h1]
          rw [e]; clear e h0 h1
          go_enter Tryz.func213, Tryz.ntmps213; go_wp2_with (first | (go_at_call 167; refine (sized_any _ _).mono ?_; rintro e w' ⟨rfl, rfl⟩) | (go_at_call 230; refine (pow2 _).mono ?_; rintro e w' ⟨rfl, rfl⟩)); go_ret; exact ⟨rfl, rfl⟩
        · have e : rightB n 2 = false := by simp [rightB, h1]
          have k0 : decide (0 ≤ n) = true := by simp [h0]
          have k1 : decide (n < 65536) = false := by simp; omega
          rw [e]; clear e h0 h1
          go_enter Tryz.func213, Tryz.ntmps213; go_wp2_with (first | (go_at_call 167; refine (sized_any _ _).mono ?_; rintro e w' ⟨rfl, rfl⟩) | (go_at_call 230; refine (pow2 _).mono ?_; rintro e w' ⟨rfl, rfl⟩)); go_ret; exact ⟨rfl, rfl⟩
      · have e : rightB n 2 = false := by simp [rightB, h0]
        have k0 : decide (0 ≤ n) = false := by simp; omega
        rw [e]; clear e h0
        go_enter Tryz.func213, Tryz.ntmps213; go_wp2_with (first | (go_at_call 167; refine (sized_any _ _).mono ?_; rintro e w' ⟨rfl, rfl⟩) | (go_at_call 230; refine (pow2 _).mono ?_; rintro e w' ⟨rfl, rfl⟩)); go_ret; exact ⟨rfl, rfl⟩
    · clear hs
      by_cases h0 : 0 ≤ n
      · by_cases h1 : n < 4294967296
        · have e : rightB n 4 = true := by simp [rightB, h0, h1]
          have k0 : decide (0 ≤ n) = true := by simp [h0]
          have k1 : decide (n < 4294967296) = true := by simp [h1]
          rw [e]; clear e h0 h1
          go_enter Tryz.func213, Tryz.ntmps213; go_wp2_with (first | (go_at_call 167; refine (sized_any _ _).mono ?_; rintro e w' ⟨rfl, rfl⟩) | (go_at_call 230; refine (pow4 _).mono ?_; rintro e w' ⟨rfl, rfl⟩)); go_ret; exact ⟨rfl, rfl⟩
        · have e : rightB n 4 = false := by simp [rightB, h1]
          have k0 : decide (0 ≤ n) = true := by simp [h0]
          have k1 : decide (n < 4294967296) = false := by simp; omega
          rw [e]; clear e h0 h1
          go_enter Tryz.func213, Tryz.ntmps213; go_wp2_with (first | (go_at_call 167; refine (sized_any _ _).mono ?_; rintro e w' ⟨rfl, rfl⟩) | (go_at_call 230; refine (pow4 _).mono ?_; rintro e w' ⟨rfl, rfl⟩)); go_ret; exact ⟨rfl, rfl⟩
      · have e : rightB n 4 = false := by simp [rightB, h0]
        have k0 : decide (0 ≤ n) = false := by simp; omega
        rw [e]; clear e h0
        go_enter Tryz.func213, Tryz.ntmps213; go_wp2_with (first | (go_at_call 167; refine (sized_any _ _).mono ?_; rintro e w' ⟨rfl, rfl⟩) | (go_at_call 230; refine (pow4 _).mono ?_; rintro e w' ⟨rfl, rfl⟩)); go_ret; exact ⟨rfl, rfl⟩
    · clear hs
      have e : rightB n 8 = true := by simp [rightB]
      rw [e]; clear e
      go_enter Tryz.func213, Tryz.ntmps213; go_wp2_with (first | (go_at_call 167; refine (sized_any _ _).mono ?_; rintro e w' ⟨rfl, rfl⟩) | (go_at_call 230; refine (pow1 _).mono ?_; rintro e w' ⟨rfl, rfl⟩)); go_ret; exact ⟨rfl, rfl⟩
  · have hs' : sizeB s = false := by simpa using hs
    rw [rightB_none hs']
    have k8 : (s == 8) = false := by
      simp only [sizeB, decide_eq_false_iff_not, not_or] at hs'
      simpa using hs'.2.2.2
    clear hs
    have HS := Lib.hid hs'
    clear hs'
    go_enter Tryz.func213, Tryz.ntmps213; go_wp2_with (first | (go_at_call 167; refine (sized_no _ _ HS.out).mono ?_; rintro e w' ⟨rfl, rfl⟩) | (go_at_call 230; refine (pow1 _).mono ?_; rintro e w' ⟨rfl, rfl⟩)); go_ret; exact ⟨rfl, rfl⟩

theorem Right_yes (n s : Int) (w : World) (h : rightB n s = true) : Calls Tryz.prog 199 #[.int .i64 n, .int .i64 s] w fun e w' => e = .returned (.bool true) ∧ w = w' := by
  have := Right_any n s w; rwa [h] at this
theorem Right_no (n s : Int) (w : World) (h : rightB n s = false) : Calls Tryz.prog 199 #[.int .i64 n, .int .i64 s] w fun e w' => e = .returned (.bool false) ∧ w = w' := by
  have := Right_any n s w; rwa [h] at this
theorem refRight_yes (n s : Int) (w : World) (h : rightB n s = true) : Calls Tryz.prog 213 #[.int .i64 n, .int .i64 s] w fun e w' => e = .returned (.bool true) ∧ w = w' := by
  have := refRight_any n s w; rwa [h] at this
theorem refRight_no (n s : Int) (w : World) (h : rightB n s = false) : Calls Tryz.prog 213 #[.int .i64 n, .int .i64 s] w fun e w' => e = .returned (.bool false) ∧ w = w' := by
  have := refRight_any n s w; rwa [h] at this

end Go.Proofs.YtinhdimalhfgkaaGreatDoor
