/-
  The texts Dos22, YearsStayW joined. Conditions: those that each part says at its head.
-/
import Derived.Test.YtbhjmplhmoikbaaGreatInts
import Derived.Deep.Slices
import Derived.Deep.Fields
import Derived.ChangeSame
import Derived.ProofKit
import Derived.Test.YtbhjmplhmoikbaaGreatYrF
import Derived.Test.YtbhjmplhmoikbaaGreatViewN
import Derived.Test.YtbhjmplhmoikbaaGreatEqInts

/-
  Words for the statements' list of calls: a slice of calls as it lies in memory; how the statements' opening gives it; what keeps it. Plain facts; no condition beyond what each says.
-/
namespace Go.Proofs.YtbhjmplhmoikbaaGreat
open Go.RowKit
set_option maxRecDepth 100000
set_option linter.unusedVariables false

/-- A call of a statement's list. -/
structure Do22 where
  op : Int
  y : Int

/-- How it lies in memory. -/
def Do22At (w : World) (b off : Nat) (d : Do22) : Prop :=
  w.cell? ⟨b, off, none⟩ = some (.int .i64 d.op) ∧ w.cell? ⟨b, off + 1, none⟩ = some (.int .i64 d.y) ∧
  (-9223372036854775808 ≤ d.op ∧ d.op ≤ 9223372036854775807) ∧ (-9223372036854775808 ≤ d.y ∧ d.y ≤ 9223372036854775807)
/-- The slice at A of n calls reads as the list ds in w, and lies below block B. -/
def RDos22 (w : World) (B : Nat) (A : Option Addr) (n : Nat) (ds : List Do22) : Prop :=
  ds.length = n ∧ (0 < n → ∃ b off, A = some ⟨b, off, none⟩ ∧ b < B ∧ ∀ j, j < n → ∃ d, ds[j]? = some d ∧ Do22At w b (off + j * 2) d)

theorem Do22At.keep {w w' : World} {B b off : Nat} {d : Do22} (h : Do22At w b off d) (hb : b < B) (hk : ∀ b o, b < B → w'.cell? ⟨b, o, none⟩ = w.cell? ⟨b, o, none⟩) : Do22At w' b off d := by
  obtain ⟨h0, h1, h3⟩ := h
  exact ⟨(hk _ _ hb).trans h0, (hk _ _ hb).trans h1, h3⟩
theorem RDos22.nil_ {w : World} {B : Nat} {A : Option Addr} : RDos22 w B A 0 [] := ⟨rfl, fun h => absurd h (by omega)⟩
theorem RDos22.len {w : World} {B n : Nat} {A : Option Addr} {ds : List Do22} (h : RDos22 w B A n ds) : ds.length = n := h.1
theorem RDos22.keep {w w' : World} {B n : Nat} {A : Option Addr} {ds : List Do22} (h : RDos22 w B A n ds) (hk : ∀ b o, b < B → w'.cell? ⟨b, o, none⟩ = w.cell? ⟨b, o, none⟩) : RDos22 w' B A n ds :=
  ⟨h.1, fun hn => by
    obtain ⟨b, off, e, hb, hc⟩ := h.2 hn
    refine ⟨b, off, e, hb, fun j hj => ?_⟩
    obtain ⟨d, hd, hat⟩ := hc j hj
    exact ⟨d, hd, hat.keep hb hk⟩⟩
theorem RDos22.below {w w' : World} {B n : Nat} {A : Option Addr} {ds : List Do22} (h : RDos22 w B A n ds) (hb : Below B w w') : RDos22 w' B A n ds := h.keep fun b o hp => hb.cell (p := ⟨b, o, none⟩) hp
theorem cellInt22 : Tryz.prog.cellsOf 3 = 1 := by kernel_rfl
theorem do22Cells : Tryz.prog.cellsOf 46 = 2 := by kernel_rfl
open Go.ChangeShapes Go.WideShapes Go.Deep in
theorem open_dos22 {H : Type} {enc : TypeId × Value → H} {w : World} {fuel : Nat} {cs : List Value} {x : DataW H × List MemPlace} (h : DataW.trod enc Tryz.prog w 0 (fun _ => true) true fuel 37 cs = some x) :
    cs = [.slice none 0 0] ∨ ∃ (a : Addr) (len cap : Nat) (ds : List Do22), cs = [.slice (some a) len cap] ∧ len ≤ cap ∧ cap ≤ maxLen ∧ RDos22 w w.heap.size (some a) len ds := by
  obtain ⟨fs, hfs⟩ : ∃ fs, Tryz.prog.underlying 46 = some (.struct fs) := ⟨_, Tryz.underlying46⟩
  rcases open_slice Tryz.underlying37 h with ⟨h0, _⟩ | ⟨a, len, cap, m, n, D, Pl, hcs, hb, hl, hm, hmm, hx, hi⟩
  · exact .inl h0
  · right
    have hmc : m = cap := by simpa using hmm
    have each : ∀ i, i < len → ∃ d, ∀ b off, a = ⟨b, off, none⟩ → Do22At w b (off + i * 2) d := by
      intro i hilen
      obtain ⟨cs', hc, ht'⟩ := hi i (by omega)
      rw [do22Cells] at hc
      obtain ⟨ys, n', hn', hy, hlen, hyl, hf⟩ := DataW.trod_struct Tryz.underlying46 ht'
      obtain ⟨_, hcl, hat⟩ := World.cells?_some hc
      match cs', hcl with
      | [c0, c1], _ =>
        match ys, hyl with
        | [y0, y1], _ =>
          have f0 : DataW.trod enc Tryz.prog w 0 (fun _ => true) true n' 3 (([c0, c1].drop 0).take (Tryz.prog.cellsOf 3)) = [y0, y1][0]? := hf 0 _ rfl
          rw [cellInt22] at f0
          have f1 : DataW.trod enc Tryz.prog w 0 (fun _ => true) true n' 3 (([c0, c1].drop 1).take (Tryz.prog.cellsOf 3)) = [y0, y1][1]? := hf 1 _ rfl
          rw [cellInt22] at f1
          simp only [List.drop_zero, List.take_succ_cons, List.take_zero, List.drop_succ_cons, List.getElem?_cons_zero, List.getElem?_cons_succ] at f0 f1
          obtain ⟨n0, e0, _, w0⟩ := DataW.trod_int Tryz.underlying3 f0
          obtain ⟨n1, e1, _, w1⟩ := DataW.trod_int Tryz.underlying3 f1
          simp only [List.cons.injEq, and_true] at e0 e1
          subst e0 e1
          refine ⟨⟨n0, n1⟩, fun b off ha => ?_⟩
          subst ha
          have a0 := hat 0 (by decide)
          have a1 := hat 1 (by decide)
          simp only [add_none, List.getElem?_cons_zero, List.getElem?_cons_succ, Nat.add_zero] at a0 a1
          exact ⟨a0, a1, int_bounds w0, int_bounds w1⟩
    obtain ⟨f, hf⟩ : ∃ f : Nat → Do22, ∀ i, i < len → ∀ b off, a = ⟨b, off, none⟩ → Do22At w b (off + i * 2) (f i) := by
      refine ⟨fun i => if h : i < len then (each i h).choose else ⟨0, 0⟩, fun i hil => ?_⟩
      simp only [hil, dif_pos]
      exact (each i hil).choose_spec
    refine ⟨a, len, cap, (List.range len).map f, hcs, hl, hm, by simp, fun hn => ?_⟩
    obtain ⟨cs', hc, _⟩ := hi 0 (by omega)
    rw [do22Cells] at hc
    obtain ⟨_, hcl, hat⟩ := World.cells?_some hc
    have h0 := hat 0 (by decide)
    have hlt0 : 0 < cs'.length := by omega
    rw [List.getElem?_eq_getElem hlt0] at h0
    obtain ⟨b, off, spot⟩ := a
    have hspot : spot = none := by simpa [Addr.add] using World.cell?_spot h0
    subst hspot
    refine ⟨b, off, rfl, ?_, fun j hj => ⟨f j, by simp [hj], hf j hj b off rfl⟩⟩
    have := World.block_lt_of_cell? _ _ h0
    simpa [Addr.add] using this
end Go.Proofs.YtbhjmplhmoikbaaGreat

/-
  YearsStay by the walk: it returns true. Condition: what came in is a byte, and a slice of calls as the statement opens it.
-/
namespace Go.Proofs.YtbhjmplhmoikbaaGreat
open Go.RowKit Go.Maps
set_option maxRecDepth 100000
set_option linter.unusedVariables false

theorem yAll_any {w : World} {X : Nat → Prop} {v m c : Nat} {S : VS} (h : ViewAt w X v m c S) (hS : ScanOk S) :
    Calls Tryz.prog 29 #[.pointer (some ⟨v, 0, none⟩)] w fun e w' => ∃ A c, e = .returned (.slice A (yearsK ((S.scan (tx [89])).map kvOf)).length c) ∧ (yearsK ((S.scan (tx [89])).map kvOf)).length ≤ c ∧ RI w' w'.heap.size A (yearsK ((S.scan (tx [89])).map kvOf)).length (yearsK ((S.scan (tx [89])).map kvOf)) ∧ Below w.heap.size w w' := by
  refine (yAll_of (ps := (S.scan (tx [89])).map kvOf) (fun W A k hb hr => vScan_any (h.below hb) hS.wf hS.wk hS.cf hS.ck hr (Nat.le_refl _)) (by rw [List.length_map]; have := scan_len S (tx [89]); have := hS.wf; have := hS.cf; omega) kv_bytes).mono ?_
  rintro e w' ⟨u, rfl, ho, hb⟩
  obtain ⟨A, k, rfl, hk⟩ := int_own_shape ho
  exact ⟨A, k, rfl, hk, (RI.of_own ho (yearsK_ints kv_bytes)).1, hb⟩
/-- Behind k rounds. -/
def StayAt (w0 wr : World) (X : Nat → Prop) (v m c : Nat) (y : Int) (k : Nat) : Prop := ∃ S, ViewAt wr X v m c S ∧ YearS S (k + 2) ∧ stV (S.now (yKey y)) = 2 ∧ Below w0.heap.size w0 wr
set_option maxHeartbeats 6400000 in
theorem yearsStay_any {w : World} {A : Option Addr} {n cap : Nat} {ds : List Do22} {a : Int} (ha : 0 ≤ a ∧ a < 256) (hr : RDos22 w w.heap.size A n ds) (hcap : n ≤ cap) (hn : n ≤ maxLen) :
    Calls Tryz.prog 5 #[.int .u8 a, .slice A n cap] w fun e w' => e = .returned (.bool true) ∧ Below w.heap.size w w' := by
  unfold maxLen at hn
  by_cases big : 60 < n
  · have k1 : decide ((n : Int) > 60) = true := decide_eq_true (by omega)
    clear hr
    go_enter Tryz.func5, Tryz.ntmps5
    go_wp2_with fail
    refine (yrAwake_any _).mono ?_
    rintro e w1 ⟨rfl, hb⟩
    have HE := Lib.hid hb
    clear hb
    go_wp2
    go_ret
    exact ⟨rfl, HE.out⟩
  have k1 : decide ((n : Int) > 60) = false := decide_eq_false (by omega)
  have HN := Lib.hid (vNew_any w (fun _ => False) (fun k h => h.elim))
  obtain ⟨q, hq, hqx⟩ : ∃ q : Int, (0 ≤ q ∧ q < 100) ∧ a.tmod 100 = q := ⟨a % 100, by omega, Int.tmod_eq_emod_of_nonneg ha.1⟩
  have wr1 : IntKind.u8.wrap q = q := by simp [IntKind.wrap, IntKind.bits, IntKind.signed]; omega
  have wr2 : IntKind.i64.wrap q = q := by rw [IntKind.wrap_i64]; first | (unfold wrap64; omega) | omega
  have wr3 : IntKind.i64.wrap (2000 + q) = 2000 + q := by rw [IntKind.wrap_i64]; first | (unfold wrap64; omega) | omega
  have hyb : yearB (2000 + q) = true := by unfold yearB; rw [decide_eq_true (by omega), decide_eq_true (by omega)]; rfl
  obtain ⟨y, hy⟩ : ∃ y, y = 2000 + q := ⟨_, rfl⟩
  go_enter Tryz.func5, Tryz.ntmps5
  go_wp2_with fail
  rw [← hy]
  rw [← hy] at hyb wr3
  have hy64 : (0 ≤ y ∧ y < 4294967296) := by omega
  clear hy hq hqx wr1 wr2 wr3
  refine HN.out.mono ?_
  rintro e w1 ⟨v, m, c, rfl, h1, hb1, hv, hm, hc⟩
  obtain ⟨X, hX⟩ : ∃ X : Nat → Prop, X = fun k => False ∨ k = v ∨ k = m ∨ k = c := ⟨_, rfl⟩
  rw [← hX] at h1
  have Y0 := YearS.start
  obtain ⟨a1, a2, a3⟩ := opened Y0.ok hyb rfl
  have Y1 := Y0.open_ y
  have a4 := closed Y1.ok a3
  have Y2 := Y1.shut y
  have HA := Lib.hid (yOpen_any h1 y (by omega) (by decide))
  rw [a1] at HA
  obtain ⟨S1, hS1⟩ : ∃ S1, S1 = (⟨[], []⟩ : VS).open_ y := ⟨_, rfl⟩
  rw [← hS1] at HA a3 Y1 a4 Y2
  have HY := Lib.hid (And.intro a3 (And.intro Y1 (And.intro a4 Y2)))
  have HB := Lib.hid (And.intro hb1 hc)
  clear h1 hb1 hX hv hm hc HN a1 a2 a3 a4 Y0 Y1 Y2 hS1 hyb
  go_wp2_with fail
  refine HA.out.mono ?_
  rintro e w2 ⟨rfl, h2, t2⟩
  have HB2 := Lib.hid (HB.out.1.trans (t2.below (fun k e => by rw [e]; exact HB.out.2) HB.out.1.size))
  have HS := Lib.hid (yShut_any h2 y (by omega) (Nat.lt_of_le_of_lt HY.out.2.1.c (by decide)))
  rw [HY.out.1, show chkE 1 = 0 from rfl] at HS
  clear h2 t2 HA
  go_wp2_with fail
  refine HS.out.mono ?_
  rintro e w3 ⟨rfl, h3, t3⟩
  have H0 : Hid (StayAt w w3 X v m c y 0) := Lib.hid ⟨_, h3, HY.out.2.2.2, HY.out.2.2.1, HB2.out.trans (t3.below (fun k e => by rw [e]; exact HB.out.2) HB2.out.size)⟩
  have HC := Lib.hid HB.out.2
  clear h3 t3 HS HB2 HB HY
  go_wp2_with fail
  go_loopw [30] (fun i wr => ∃ k : Nat, k ≤ n ∧ i = .int .i64 k ∧ Hid (StayAt w wr X v m c y k)) (fun i _ => n - (intOf i).toNat)
  case atStart => exact ⟨0, Nat.zero_le _, rfl, H0⟩
  case round =>
    obtain ⟨k, hk, rfl, ho⟩ := hrel
    by_cases hlt : k < n
    · have hlt' : (k : Int) < (n : Int) := by omega
      obtain ⟨S, hvw, hs, hst, hbw⟩ := ho.out
      obtain ⟨b, off, rfl, hb, hat⟩ := hr.2 (by omega)
      obtain ⟨dd, _, hda⟩ := hat k hlt
      obtain ⟨d0, d1, o64, y64⟩ := hda.keep hb (fun b o hbb => hbw.cell (p := ⟨b, o, none⟩) hbb)
      obtain ⟨op, z⟩ := dd
      obtain ⟨w2, hw2⟩ : ∃ w2, w2 = wr.alloc (.cells #[.int .i64 op, .int .i64 z] 46) := ⟨_, rfl⟩
      have hba : Below wr.heap.size wr w2 := by rw [hw2]; exact (Below.refl _ _).alloc (Nat.le_refl _) _
      have q0 : w2.cell? ⟨wr.heap.size, 0, none⟩ = some (.int .i64 op) := by rw [hw2]; exact cell_of_row _ _ 0 _ _ (0, 0) (heap_alloc_new wr _)
      have q1 : w2.cell? ⟨wr.heap.size, 1, none⟩ = some (.int .i64 z) := by rw [hw2]; exact cell_of_row _ _ 1 _ _ (0, 0) (heap_alloc_new wr _)
      have hC : S.C.length < maxLen := Nat.lt_of_le_of_lt hs.c (by unfold maxLen; omega)
      have HO := Lib.hid (yOpen_any (hvw.below hba) z y64 hC)
      have HS := Lib.hid (yShut_any (hvw.below hba) z y64 hC)
      have s1 := stay_open hs.ok hst z
      have s2 := stay_shut hs.ok hst z
      have Y1 := hs.open_ z
      have Y2 := hs.shut z
      generalize openE (S.now (yKey z)) z = oe at HO
      generalize chkE (stV (S.now (yKey z))) = se at HS
      generalize S.open_ z = SO at HO s1 Y1
      generalize S.shut z = SS at HS s2 Y2
      have HY := Lib.hid (And.intro s1 (And.intro Y1 (And.intro s2 Y2)))
      have HB := Lib.hid (hbw.trans (hba.mono hbw.size))
      have d0 : wr.cell? ⟨b, off + k * 2, none⟩ = some (.int .i64 op) := d0
      have d1 : wr.cell? ⟨b, off + k * 2 + 1, none⟩ = some (.int .i64 z) := d1
      clear hat hda hvw hs hst hbw hba s1 s2 Y1 Y2 hC ho
      by_cases hop : op = 0
      · subst hop
        go_wp2_with fail
        rw [← hw2]
        go_wp2_with fail
        refine HO.out.mono ?_
        rintro e w4 ⟨rfl, h4, t4⟩
        have hE : StayAt w w4 X v m c y (k + 1) := ⟨_, h4, HY.out.2.1, HY.out.1, HB.out.trans (t4.below (fun k e => by rw [e]; exact HC.out) HB.out.size)⟩
        have HST := Lib.hid (yState_any h4 y (by omega))
        rw [HY.out.1] at HST
        have HE := Lib.hid hE
        clear h4 t4 hE HO HS HB hw2 q0 q1 HY d0 d1
        go_wp2_with fail
        refine HST.out.mono ?_
        rintro e w5 ⟨rfl, hb5⟩
        have HE5 := Lib.hid (show StayAt w w5 X v m c y (k + 1) from by
          obtain ⟨S5, e1, e2, e3, e4⟩ := HE.out
          exact ⟨S5, e1.below hb5, e2, e3, e4.trans (hb5.mono e4.size)⟩)
        clear hb5 HE HST
        go_wp2_with fail
        go_roundw
        case rel => exact ⟨k + 1, by omega, by go_num, HE5⟩
        case measure => simp [intOf]; omega
      · have hop2 : (op == 0) = false := by simp [hop]
        clear hop
        go_wp2_with fail
        rw [← hw2]
        go_wp2_with fail
        refine HS.out.mono ?_
        rintro e w4 ⟨rfl, h4, t4⟩
        have hE : StayAt w w4 X v m c y (k + 1) := ⟨_, h4, HY.out.2.2.2, HY.out.2.2.1, HB.out.trans (t4.below (fun k e => by rw [e]; exact HC.out) HB.out.size)⟩
        have HST := Lib.hid (yState_any h4 y (by omega))
        rw [HY.out.2.2.1] at HST
        have HE := Lib.hid hE
        clear h4 t4 hE HO HS HB hw2 q0 q1 HY d0 d1
        go_wp2_with fail
        refine HST.out.mono ?_
        rintro e w5 ⟨rfl, hb5⟩
        have HE5 := Lib.hid (show StayAt w w5 X v m c y (k + 1) from by
          obtain ⟨S5, e1, e2, e3, e4⟩ := HE.out
          exact ⟨S5, e1.below hb5, e2, e3, e4.trans (hb5.mono e4.size)⟩)
        clear hb5 HE HST
        go_wp2_with fail
        go_roundw
        case rel => exact ⟨k + 1, by omega, by go_num, HE5⟩
        case measure => simp [intOf]; omega
    · obtain rfl : k = n := by omega
      obtain ⟨S, hvw, hs, hst, hbw⟩ := ho.out
      have HALL := Lib.hid (yAll_any hvw (hs.scanOk (by omega)))
      have hmem : y ∈ yearsK ((S.scan (tx [89])).map kvOf) := (years_mem hs.ok).2 ⟨hy64, by rw [hst]; decide⟩
      have hlen : (yearsK ((S.scan (tx [89])).map kvOf)).length ≤ 4294967296 := Nat.le_trans (yearsK_len _) (by rw [List.length_map]; have := scan_len S (tx [89]); have := (hs.scanOk (by omega)).wf; have := (hs.scanOk (by omega)).cf; omega)
      have HB := Lib.hid hbw
      generalize yearsK ((S.scan (tx [89])).map kvOf) = l at HALL hmem hlen
      have hdec : decide (y ∈ l) = true := decide_eq_true hmem
      obtain ⟨N, hN⟩ : ∃ N, N = l.length := ⟨_, rfl⟩
      rw [← hN] at HALL hlen
      clear hvw hs hst hbw ho hmem
      go_wp2_with fail
      refine HALL.out.mono ?_
      rintro e w4 ⟨A4, c4, rfl, _, hr4, hb4⟩
      have HCO := Lib.hid (Contains_any c4 y hr4 (by unfold maxLen; omega))
      rw [hdec] at HCO
      have HB4 := Lib.hid (HB.out.trans (hb4.mono HB.out.size))
      clear hr4 hb4 HALL hdec hN
      go_wp2_with fail
      refine HCO.out.mono ?_
      rintro e w5 ⟨rfl, rfl⟩
      go_wp2_with fail
      refine (yrAwake_any _).mono ?_
      rintro e w6 ⟨rfl, hb6⟩
      have HE := Lib.hid (HB4.out.trans (hb6.mono HB4.out.size))
      clear hb6 HB4 HCO
      go_wp2_with fail
      go_ret
      exact ⟨rfl, HE.out⟩
end Go.Proofs.YtbhjmplhmoikbaaGreat
