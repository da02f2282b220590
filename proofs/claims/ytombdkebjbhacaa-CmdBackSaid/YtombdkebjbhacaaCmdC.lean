/-
  Contracts of a reading's cut and text: numbers read into cells, some bytes as a text; where the reading stands then. Conditions: the cells lie apart from the reading; the place is small.
-/
import Derived.Test.YtombdkebjbhacaaCmdB
namespace Go.Proofs.Ytombdkebjbhacaa
open Go.RowKit
set_option maxRecDepth 100000
set_option linter.unusedVariables false

/-- What a command is read from: a block of two cells, bytes and place. -/
def RdAt (w : World) (g : Nat) (A : Option Addr) (n c : Nat) (a : Nat) : Prop := w.heap[g]? = some (.cells #[.slice A n c, .int .i64 (a : Int)] 61 (0, 0))
theorem RdAt.cells {w : World} {g n c a : Nat} {A : Option Addr} (h : RdAt w g A n c a) : w.cell? ⟨g, 0, none⟩ = some (.slice A n c) ∧ w.cell? ⟨g, 1, none⟩ = some (.int .i64 (a : Int)) ∧ w.frozen? ⟨g, 1, none⟩ = false :=
  ⟨cell_of_row w g 0 _ _ (0, 0) h, cell_of_row w g 1 _ _ (0, 0) h, frozen_of_row w g 1 _ _ h⟩
theorem heap_setCell_congr {w w2 : World} {k : Nat} (h : w.heap[k]? = w2.heap[k]?) (p : Addr) (v : Value) : (w.setCell p v).heap[k]? = (w2.setCell p v).heap[k]? := by
  simp only [World.setCell, Array.getElem?_modify]
  rw [h]
/-- A cell that may be written. -/
def May (w : World) (b o : Nat) : Prop := (∃ v, w.cell? ⟨b, o, none⟩ = some v) ∧ w.frozen? ⟨b, o, none⟩ = false
theorem May.set {w : World} {b o : Nat} (h : May w b o) (p : Addr) (v : Value) : May (w.setCell p v) b o := by
  obtain ⟨⟨u, hu⟩, hf⟩ := h
  obtain ⟨u', hu'⟩ := cell?_setCell_some (x := v) (p := p) hu
  exact ⟨⟨u', hu'⟩, (World.frozen?_setCell _ _ _ _).trans hf⟩
theorem May.of_block {w w' : World} {b o : Nat} (h : May w b o) (hb : w'.heap[b]? = w.heap[b]?) : May w' b o := by
  obtain ⟨⟨u, hu⟩, hf⟩ := h
  exact ⟨⟨u, (World.cell?_of_block (a := ⟨b, o, none⟩) hb).trans hu⟩, (World.frozen?_of_block (a := ⟨b, o, none⟩) hb).trans hf⟩
theorem May.row {w : World} {b o : Nat} {cs : Array Value} {T : TypeId} (h : w.heap[b]? = some (.cells cs T (0, 0))) (ho : o < cs.size) : May w b o := by
  refine ⟨⟨cs[o], ?_⟩, frozen_of_row w b o cs T h⟩
  rw [cell_of_row w b o cs T (0, 0) h, Array.getElem?_eq_getElem ho]
/-- Numbers stored, each in its cell. -/
def setNums (w : World) (b : List Int) (s : Nat) : List (Nat × Nat) → Nat → World
  | [], _ => w
  | p :: r, a => setNums (w.setCell ⟨p.1, p.2, none⟩ (.int .i64 (rdN b a s))) b s r (a + s)
theorem setNums_snoc (b : List Int) (s : Nat) (x : Nat × Nat) : ∀ (ps : List (Nat × Nat)) (a : Nat) (w : World), setNums w b s (ps ++ [x]) a = (setNums w b s ps a).setCell ⟨x.1, x.2, none⟩ (.int .i64 (rdN b (a + s * ps.length) s))
  | [], a, w => by simp [setNums]
  | p :: r, a, w => by
    show setNums _ b s (r ++ [x]) (a + s) = _
    rw [setNums_snoc b s x r (a + s)]
    show _ = (setNums _ b s r (a + s)).setCell _ _
    rw [List.length_cons, Nat.mul_add, Nat.mul_one, show a + s + s * r.length = a + (s * r.length + s) by omega]
theorem setNums_may (b : List Int) (s : Nat) {B o : Nat} : ∀ (ps : List (Nat × Nat)) (a : Nat) (w : World), May w B o → May (setNums w b s ps a) B o
  | [], _, _, h => h
  | p :: r, a, w, h => setNums_may b s r (a + s) _ (h.set _ _)
theorem setNums_other (b : List Int) (s : Nat) {k : Nat} : ∀ (ps : List (Nat × Nat)) (a : Nat) (w : World), (∀ p ∈ ps, p.1 ≠ k) → (setNums w b s ps a).heap[k]? = w.heap[k]?
  | [], _, _, _ => rfl
  | p :: r, a, w, h => (setNums_other b s r (a + s) _ fun q hq => h q (List.mem_cons_of_mem _ hq)).trans (heap_setCell_other _ _ _ _ (fun e => h p (List.mem_cons_self ..) e.symm))

/-- What cut leaves. -/
structure Cut (w w' : World) (g : Nat) (A : Option Addr) (n c a : Nat) (b : List Int) (s : Nat) (ps : List (Nat × Nat)) : Prop where
  os : w'.os = w.os
  tape : w'.tape = w.tape
  output : w'.output = w.output
  size : w'.heap.size = w.heap.size
  rd : RdAt w' g A n c (a + s * ps.length)
  block : ∀ k, k ≠ g → w'.heap[k]? = (setNums w b s ps a).heap[k]?

def ptV (p : Nat × Nat) : Value := .pointer (some ⟨p.1, p.2, none⟩)
set_option maxHeartbeats 1600000 in
theorem cut_any {w : World} {g n c a : Nat} {A : Option Addr} {B : Nat} {b : List Int} {s : Nat} {ps : List (Nat × Nat)} (h : RdAt w g A n c a) (hr : RB w B A n b) (hB : B ≤ g) (hc : n ≤ c) (hm : n ≤ 1000000) (ha : a + s * ps.length ≤ 1000000) (hs : s ≤ 8) (hpl : ps.length ≤ 100)
    (hp : ∀ p ∈ ps, p.1 ≠ g ∧ B ≤ p.1 ∧ May w p.1 p.2) {q : Nat} (hq : w.heap[q]? = some (.cells (ps.map ptV).toArray 63 (0, 0))) (hqg : q ≠ g) (hqp : ∀ p ∈ ps, p.1 ≠ q) :
    Calls Try.prog 34 #[.pointer (some ⟨g, 0, none⟩), .int .i64 (s : Int), .slice (some ⟨q, 0, none⟩) ps.length ps.length] w fun e w' => e = .returned (.tuple #[]) ∧ Cut w w' g A n c a b s ps := by
  have HP := Lib.hid hp
  have HQ := Lib.hid (And.intro hq (And.intro hqg hqp))
  have HR := Lib.hid hr
  have H0 := Lib.hid h
  have HA := Lib.hid ha
  clear hp hq hqg hqp hr h ha
  generalize hN : ps.length = m
  go_enter Try.func34, Try.ntmps34
  go_wp2_with fail
  go_loopw [10] (fun i wr => ∃ j : Nat, j ≤ m ∧ i = .int .i64 j ∧ Hid (Cut w wr g A n c a b s (ps.take j))) (fun i _ => m - (intOf i).toNat)
  case atStart => exact ⟨0, Nat.zero_le _, rfl, Lib.hid ⟨rfl, rfl, rfl, rfl, H0.out, fun _ _ => rfl⟩⟩
  case round =>
    obtain ⟨j, hj, rfl, hla⟩ := hrel
    by_cases hlt : j < m
    · have hla' := hla.out
      obtain ⟨p, hpj⟩ : ∃ p, ps[j]? = some p := ⟨_, List.getElem?_eq_getElem (by omega)⟩
      have htl : (ps.take j).length = j := by rw [List.length_take]; omega
      have htk : ps.take (j + 1) = ps.take j ++ [p] := by
        rw [List.take_succ_eq_append_getElem (by omega)]
        obtain ⟨_, e⟩ := List.getElem?_eq_some_iff.1 hpj
        rw [e]
      obtain ⟨hpg, hpB, hpm⟩ := HP.out p (List.mem_of_getElem? hpj)
      have hqb : wr.heap[q]? = w.heap[q]? := (hla'.block q HQ.out.2.1).trans (setNums_other b s _ _ _ fun x hx => HQ.out.2.2 x (List.mem_of_mem_take hx))
      have hqc : wr.cell? ⟨q, j, none⟩ = some (ptV p) := by
        rw [cell_of_row wr q j _ _ (0, 0) (hqb.trans HQ.out.1)]
        simp [hpj]
      have hrd := hla'.rd
      rw [htl] at hrd
      have hmul : s * j ≤ s * m := Nat.mul_le_mul_left s hj
      have hA := HA.out
      rw [hN] at hA
      have hat : a + s * j ≤ 1000000 := by omega
      obtain ⟨d0, d1, f1⟩ := hrd.cells
      have hmay : May wr p.1 p.2 := (setNums_may b s (ps.take j) a w hpm).of_block (hla'.block p.1 hpg)
      obtain ⟨⟨u, hu⟩, hfu⟩ := hmay
      have hrb : RB wr B A n b := HR.out.keep fun k o hk => World.cell?_of_block (a := ⟨k, o, none⟩) ((hla'.block k (by omega)).trans (setNums_other b s _ _ _ fun x hx e => by
        have := (HP.out x (List.mem_of_mem_take hx)).2.1
        omega))
      obtain ⟨pb, po⟩ := p
      simp only at hpg hpB hu hfu
      have HG := Lib.hid (Get_any A n c B b ((a + s * j : Nat) : Int) (s : Int) wr.drew (hrb.drew) hc (by unfold maxLen; omega))
      have hE : ∀ W, W.os = wr.os → W.tape = wr.tape → W.output = wr.output → W.heap = ((wr.setCell ⟨pb, po, none⟩ (.int .i64 (rdN b (a + s * j) s))).setCell ⟨g, 1, none⟩ (.int .i64 ((a + s * (j + 1) : Nat) : Int))).heap → Cut w W g A n c a b s (ps.take (j + 1)) := fun W h1 h2 h3 h4 => by
        refine ⟨h1.trans hla'.os, h2.trans hla'.tape, h3.trans hla'.output, ?_, ?_, fun k hk => ?_⟩
        · rw [h4]; simpa [World.setCell] using hla'.size
        · rw [htk, List.length_append, htl]
          unfold RdAt
          rw [h4]
          have hg1 : (wr.setCell ⟨pb, po, none⟩ (.int .i64 (rdN b (a + s * j) s))).heap[g]? = some (.cells #[.slice A n c, .int .i64 ((a + s * j : Nat) : Int)] 61 (0, 0)) := (heap_setCell_other _ _ _ _ (fun e => hpg e.symm)).trans hrd
          rw [heap_setCell_same _ g 1 _ _ _ hg1]
          rfl
        · rw [h4, heap_setCell_other _ _ _ _ hk, htk, setNums_snoc, htl]
          exact heap_setCell_congr (hla'.block k hk) _ _
      have HE := Lib.hid hE
      have hval : (getR b ((a + s * j : Nat) : Int) (s : Int)).1 = rdN b (a + s * j) s := rfl
      have hstep : a + s * (j + 1) = a + s * j + s := by rw [Nat.mul_add, Nat.mul_one]; omega
      rw [hstep] at HE
      generalize a + s * j = at_ at hat d0 d1 f1 HG HE hval
      have hfar : ∀ (o : Nat) (v : Value), (wr.drew.setCell ⟨pb, po, none⟩ v).cell? ⟨g, o, none⟩ = wr.cell? ⟨g, o, none⟩ := fun o v => World.cell?_setCell_far wr.drew _ _ _ hpg
      have f2 : (wr.drew.setCell ⟨pb, po, none⟩ (.int .i64 (rdN b at_ s))).frozen? ⟨g, 1, none⟩ = false := (World.frozen?_setCell _ _ _ _).trans f1
      have e1 := (hfar 1 (.int .i64 (rdN b at_ s))).trans d1
      clear hla hla' hpj htl htk hpm hqb hrd hmul hA hrb hE hstep
      unfold ptV at hqc
      go_wp2_with fail
      go_region_held3 (fun W => W.cell? ⟨g, 0, none⟩ = some (.slice A n c) ∧ W.cell? ⟨g, 1, none⟩ = some (.int .i64 (at_ : Int)))
        (first | exact ⟨d0, d1⟩ | exact ⟨(hfar 0 _).trans d0, (hfar 1 _).trans d1⟩)
        ((go_at_call 39; refine HG.out.mono ?_; rintro e w' ⟨rfl, rfl⟩; rw [hval]))
      go_wp2_with fail
      go_roundw
      case rel => exact ⟨j + 1, by omega, by go_num, Lib.hid (HE.out _ rfl rfl rfl (by rw [Int.natCast_add]; rfl))⟩
      case measure => simp [intOf]; omega
    · obtain rfl : j = m := by omega
      have HE := Lib.hid (show Cut w wr g A n c a b s ps by
        have := hla.out
        rwa [List.take_of_length_le (by omega)] at this)
      clear hla
      go_wp2_with fail
      go_end0
      exact ⟨rfl, HE.out⟩

theorem Cut.one {w w' : World} {g n c a s : Nat} {A : Option Addr} {b : List Int} {ps : List (Nat × Nat)} (h : Cut w w' g A n c a b s ps) {k : Nat} (hk : k ≠ g) (hp : ∀ p ∈ ps, p.1 ≠ k) : w'.heap[k]? = w.heap[k]? :=
  (h.block k hk).trans (setNums_other b s ps a w hp)

theorem take_drop_of (b : List Int) (n a k from_ to_ : Nat) (hb : b.length = n) (hf : from_ = min a n) (ht : to_ = min (from_ + k) n) : (b.drop from_).take (to_ - from_) = (b.drop a).take k := by
  subst hb
  rcases Nat.lt_or_ge a b.length with h | h
  · have e : from_ = a := by omega
    subst e
    rcases Nat.lt_or_ge (from_ + k) b.length with g | g
    · rw [show to_ - from_ = k by omega]
    · rw [List.take_of_length_le (by rw [List.length_drop]; omega), List.take_of_length_le (by rw [List.length_drop]; omega)]
  · have e : from_ = b.length := by omega
    subst e
    rw [List.drop_eq_nil_of_le (Nat.le_refl _), List.drop_eq_nil_of_le h]
    simp

set_option maxHeartbeats 1600000 in
theorem text_any {w : World} {g n c a : Nat} {A : Option Addr} {B : Nat} {b : List Int} (k : Nat) (h : RdAt w g A n c a) (hr : RB w B A n b) (hB : B ≤ g) (hc : n ≤ c) (hm : n ≤ 1000000) (ha : a ≤ 1000000) (hk : k ≤ 1000000) :
    Calls Try.prog 35 #[.pointer (some ⟨g, 0, none⟩), .int .i64 (k : Int)] w fun e w' => e = .returned (.string (strOfNums ((b.drop a).take k))) ∧ w'.heap = (w.setCell ⟨g, 1, none⟩ (.int .i64 ((a : Int) + (k : Int)))).heap ∧ w'.os = w.os ∧ w'.tape = w.tape ∧ w'.output = w.output := by
  obtain ⟨d0, d1, f1⟩ := h.cells
  have hlen := hr.len
  have hrW : ∀ v : Value, RB (w.setCell ⟨g, 1, none⟩ v).drew B A n b := fun v => (hr.keep fun j o hj => World.cell?_of_block (a := ⟨j, o, none⟩) (heap_setCell_other w ⟨g, 1, none⟩ j v (by show j ≠ g; omega))).drew
  have HC0 : ∀ (X : Option Addr) (m' : Nat) (W : World), (convert 28 9 (.slice X 0 m')).run Try.prog W = .ok (.string (strOfNums [])) W := fun X m' W => RB.conv (RB.nil_ (w := W) (B := 0) (A := X)) m'
  by_cases h1 : n ≤ a
  · have hE : (b.drop a).take k = [] := by rw [List.drop_eq_nil_of_le (by omega)]; simp
    rw [hE]
    go_enter Try.func35, Try.ntmps35
    go_wp2_with fail
    go_region
    rw [show (if n < a then (n : Int) else (a : Int)) = (n : Int) from by split <;> omega]
    by_cases hcn : c = n
    · subst hcn
      by_cases hk0 : k = 0
      · subst hk0
        go_wp2_with fail
        go_ret
        exact ⟨rfl, rfl, rfl, rfl, rfl⟩
      · go_wp2_with fail
        go_ret
        exact ⟨rfl, rfl, rfl, rfl, rfl⟩
    · by_cases hk0 : k = 0
      · subst hk0
        go_wp2_with fail
        go_ret
        exact ⟨rfl, rfl, rfl, rfl, rfl⟩
      · go_wp2_with fail
        go_ret
        exact ⟨rfl, rfl, rfl, rfl, rfl⟩
  · have hca : ¬ c = a := by omega
    have hr2 : IntKind.i64.wrap ((a : Int) + (k : Int)) = (a : Int) + (k : Int) := IntWalk.i64_in _ (by omega)
    obtain ⟨b0, o0, rfl, hb0, hcell⟩ := hr.2.2 (by omega)
    have hsub : ∀ (m : Nat) (v : Value), a + m ≤ n → RB (w.setCell ⟨g, 1, none⟩ v).drew B (some ⟨b0, o0 + a, none⟩) m ((b.drop a).take m) := fun m v hm => by
      obtain ⟨_, _, h3⟩ := hrW v
      obtain ⟨b1, o1, e1, hb1, hc1⟩ := h3 (by omega)
      cases e1
      refine ⟨by rw [List.length_take, List.length_drop]; omega, (hr.bytes.drop a).take m, fun hm0 => ⟨b0, o0 + a, rfl, hb1, fun j hj => ?_⟩⟩
      rw [Nat.add_assoc, hc1 (a + j) (by omega), List.getElem?_take, if_pos hj, List.getElem?_drop]
    by_cases h2 : a + k ≤ n
    · have h3 : ¬ ((n : Int) < (a : Int) + (k : Int)) := by omega
      have h4 : ((a : Int) + (k : Int)).toNat = a + k := by omega
      have HC := RB.conv (hsub k (.int .i64 ((a : Int) + (k : Int))) h2) (c - a)
      go_enter Try.func35, Try.ntmps35
      go_wp2_with fail
      go_region
      go_wp2_with fail
      go_ret
      exact ⟨rfl, rfl, rfl, rfl, rfl⟩
    · have h3 : ((n : Int) < (a : Int) + (k : Int)) := by omega
      have h4 : ((a : Int) + (k : Int)).toNat = a + k := by omega
      have HC := RB.conv (hsub (n - a) (.int .i64 ((a : Int) + (k : Int))) (by omega)) (c - a)
      go_enter Try.func35, Try.ntmps35
      go_wp2_with fail
      go_region
      go_wp2_with fail
      go_ret
      refine ⟨?_, rfl, rfl, rfl, rfl⟩
      rw [List.take_of_length_le (by rw [List.length_drop]; omega), List.take_of_length_le (by rw [List.length_drop]; omega)]
      rfl
end Go.Proofs.Ytombdkebjbhacaa
