/-
  The texts LinA, PreA, PreB, PreC, PreD joined. Conditions: those that each part says at its head.
-/
import Derived.Test.YtlcbmobdokicaaaGreatAmtV
import Derived.Test.YtlcbmobdokicaaaGreatIntApp
import Derived.Test.YtlcbmobdokicaaaGreatEqual
import Derived.Maps.AppendAt
import Derived.Deep.AppendLies
import Derived.Laws.AppendOwnNone
import Derived.Test.YtlcbmobdokicaaaGreatPreO
import Derived.StillTailTactics
import Derived.Test.YtlcbmobdokicaaaGreatDocC
import Derived.Test.YtlcbmobdokicaaaGreatYrB
import Derived.Deep.RegionHeld3
import Derived.Lib.AppendZeros

/-
  Words for a slice of lines as it lies in memory, and for a row of lines that a call builds by append: what keeps it, how it grows, how it is read. Condition of an append: fewer than 2^32 lines.
-/
namespace Go.Proofs.YtlcbmobdokicaaaGreat
open Go.RowKit
set_option maxRecDepth 100000
set_option linter.unusedVariables false

/-- A line at some place. -/
def LnAt (w : World) (b off : Nat) (x : Ln) : Prop :=
  w.cell? ⟨b, off, none⟩ = some (.int .i64 x.f) ∧ w.cell? ⟨b, off + 1, none⟩ = some (.int .i64 x.o) ∧ w.cell? ⟨b, off + 2, none⟩ = some (.int .i64 x.n) ∧ w.cell? ⟨b, off + 3, none⟩ = some (.int .i64 x.a)
/-- The slice at A of n lines reads as the list l in w, and lies below block B. -/
def RL (w : World) (B : Nat) (A : Option Addr) (n : Nat) (l : List Ln) : Prop :=
  l.length = n ∧ (∀ x ∈ l, LnOk x) ∧ (0 < n → ∃ b off, A = some ⟨b, off, none⟩ ∧ b < B ∧ ∀ j x, l[j]? = some x → LnAt w b (off + j * 4) x)

section
variable {w w' : World} {B B' n base : Nat} {A : Option Addr} {l : List Ln}
theorem LnAt.keep {b off : Nat} {x : Ln} (h : LnAt w b off x) (hb : b < B) (hk : ∀ b o, b < B → w'.cell? ⟨b, o, none⟩ = w.cell? ⟨b, o, none⟩) : LnAt w' b off x := by
  obtain ⟨h0, h1, h2, h3⟩ := h
  exact ⟨(hk _ _ hb).trans h0, (hk _ _ hb).trans h1, (hk _ _ hb).trans h2, (hk _ _ hb).trans h3⟩
theorem RL.nil_ : RL w B A 0 [] := ⟨rfl, (fun _ h => by cases h), fun h => absurd h (by omega)⟩
theorem RL.len (h : RL w B A n l) : l.length = n := h.1
theorem RL.ok (h : RL w B A n l) : ∀ x ∈ l, LnOk x := h.2.1
theorem RL.keep (h : RL w B A n l) (hk : ∀ b o, b < B → w'.cell? ⟨b, o, none⟩ = w.cell? ⟨b, o, none⟩) : RL w' B A n l :=
  ⟨h.1, h.2.1, fun hn => by
    obtain ⟨b, off, e, hb, hc⟩ := h.2.2 hn
    exact ⟨b, off, e, hb, fun j x hx => (hc j x hx).keep hb hk⟩⟩
theorem RL.below (h : RL w B A n l) (hb : Below B w w') : RL w' B A n l := h.keep fun b o hp => hb.cell (p := ⟨b, o, none⟩) hp
theorem RL.more (h : RL w B A n l) (hB : B ≤ B') : RL w B' A n l :=
  ⟨h.1, h.2.1, fun hn => by
    obtain ⟨b, off, e, hb, hc⟩ := h.2.2 hn
    exact ⟨b, off, e, by omega, hc⟩⟩
end

open Go.ChangeShapes Go.WideShapes Go.Deep in
theorem cellIntL : Tryz.prog.cellsOf 3 = 1 := by kernel_rfl
theorem lineCells : Tryz.prog.cellsOf 43 = 4 := by kernel_rfl
open Go.ChangeShapes Go.WideShapes Go.Deep in
/-- A slice of lines as the statements open it. -/
theorem open_lines {H : Type} {enc : TypeId × Value → H} {w : World} {fuel : Nat} {cs : List Value} {x : DataW H × List MemPlace} (h : DataW.trod enc Tryz.prog w 0 (fun _ => true) true fuel 30 cs = some x) :
    cs = [.slice none 0 0] ∨ ∃ (a : Addr) (len cap : Nat) (ls : List Ln), cs = [.slice (some a) len cap] ∧ len ≤ cap ∧ cap ≤ maxLen ∧ RL w w.heap.size (some a) len ls := by
  rcases open_slice Tryz.underlying30 h with ⟨h0, _⟩ | ⟨a, len, cap, m, n, D, Pl, hcs, hb, hl, hm, hmm, hx, hi⟩
  · exact .inl h0
  · right
    have hmc : m = cap := by simpa using hmm
    have each : ∀ i, i < len → ∃ d : Ln, LnOk d ∧ ∀ b off, a = ⟨b, off, none⟩ → LnAt w b (off + i * 4) d := by
      intro i hilen
      obtain ⟨cs', hc, ht'⟩ := hi i (by omega)
      rw [lineCells] at hc
      obtain ⟨ys, n', hn', hy, hlen, hyl, hf⟩ := DataW.trod_struct Tryz.underlying43 ht'
      obtain ⟨_, hcl, hat⟩ := World.cells?_some hc
      match cs', hcl with
      | [c0, c1, c2, c3], _ =>
        match ys, hyl with
        | [y0, y1, y2, y3], _ =>
          have f0 : DataW.trod enc Tryz.prog w 0 (fun _ => true) true n' 3 (([c0, c1, c2, c3].drop 0).take (Tryz.prog.cellsOf 3)) = [y0, y1, y2, y3][0]? := hf 0 _ rfl
          rw [cellIntL] at f0
          have f1 : DataW.trod enc Tryz.prog w 0 (fun _ => true) true n' 3 (([c0, c1, c2, c3].drop 1).take (Tryz.prog.cellsOf 3)) = [y0, y1, y2, y3][1]? := hf 1 _ rfl
          rw [cellIntL] at f1
          have f2 : DataW.trod enc Tryz.prog w 0 (fun _ => true) true n' 3 (([c0, c1, c2, c3].drop 2).take (Tryz.prog.cellsOf 3)) = [y0, y1, y2, y3][2]? := hf 2 _ rfl
          rw [cellIntL] at f2
          have f3 : DataW.trod enc Tryz.prog w 0 (fun _ => true) true n' 3 (([c0, c1, c2, c3].drop 3).take (Tryz.prog.cellsOf 3)) = [y0, y1, y2, y3][3]? := hf 3 _ rfl
          rw [cellIntL] at f3
          simp only [List.drop_zero, List.take_succ_cons, List.take_zero, List.drop_succ_cons, List.getElem?_cons_zero, List.getElem?_cons_succ] at f0 f1 f2 f3
          obtain ⟨n0, e0, _, w0⟩ := DataW.trod_int Tryz.underlying3 f0
          obtain ⟨n1, e1, _, w1⟩ := DataW.trod_int Tryz.underlying3 f1
          obtain ⟨n2, e2, _, w2⟩ := DataW.trod_int Tryz.underlying3 f2
          obtain ⟨n3, e3, _, w3⟩ := DataW.trod_int Tryz.underlying3 f3
          simp only [List.cons.injEq, and_true] at e0 e1 e2 e3
          subst e0 e1 e2 e3
          refine ⟨⟨n0, n1, n2, n3⟩, ⟨int_bounds w0, int_bounds w1, int_bounds w2, int_bounds w3⟩, fun b off ha => ?_⟩
          subst ha
          have a0 := hat 0 (by decide)
          have a1 := hat 1 (by decide)
          have a2 := hat 2 (by decide)
          have a3 := hat 3 (by decide)
          simp only [add_none, List.getElem?_cons_zero, List.getElem?_cons_succ, Nat.add_zero] at a0 a1 a2 a3
          exact ⟨a0, a1, a2, a3⟩
    obtain ⟨f, hf⟩ : ∃ f : Nat → Ln, ∀ i, i < len → LnOk (f i) ∧ ∀ b off, a = ⟨b, off, none⟩ → LnAt w b (off + i * 4) (f i) := by
      refine ⟨fun i => if h : i < len then (each i h).choose else ⟨0, 0, 0, 0⟩, fun i hil => ?_⟩
      simp only [hil, dif_pos]
      exact (each i hil).choose_spec
    refine ⟨a, len, cap, (List.range len).map f, hcs, hl, hm, by simp, fun y hy => ?_, fun hn => ?_⟩
    · obtain ⟨i, hi, rfl⟩ := List.mem_map.1 hy
      exact (hf i (List.mem_range.1 hi)).1
    obtain ⟨cs', hc, _⟩ := hi 0 (by omega)
    rw [lineCells] at hc
    obtain ⟨_, hcl, hat⟩ := World.cells?_some hc
    have h0 := hat 0 (by decide)
    have hlt0 : 0 < cs'.length := by omega
    rw [List.getElem?_eq_getElem hlt0] at h0
    obtain ⟨b, off, spot⟩ := a
    have hspot : spot = none := by simpa [Addr.add] using World.cell?_spot h0
    subst hspot
    refine ⟨b, off, rfl, ?_, fun j y hy => ?_⟩
    · have := World.block_lt_of_cell? _ _ h0
      simpa [Addr.add] using this
    · rw [List.getElem?_map] at hy
      obtain ⟨i, hi, rfl⟩ := Option.map_eq_some_iff.1 hy
      obtain ⟨hlt, e⟩ := List.getElem?_eq_some_iff.1 hi
      rw [List.getElem_range] at e
      subst e
      rw [List.length_range] at hlt
      exact (hf j hlt).2 b off rfl
end Go.Proofs.YtlcbmobdokicaaaGreat

/-
  Contracts of pre.Check and of the document's Check of lines. No condition but that lengths are ints.
-/
namespace Go.Proofs.YtlcbmobdokicaaaGreat
open Go.RowKit Go.Maps
set_option maxRecDepth 100000
set_option linter.unusedVariables false

def badA (x : Ln) : Bool := !amtRightB x.a
set_option maxHeartbeats 400000 in
theorem preBad_any (x : Ln) (w : World) : Calls Tryz.prog 42 #[.agg #[.int .i64 x.f, .int .i64 x.o, .int .i64 x.n, .int .i64 x.a]] w fun e w' => e = .returned (.bool (badA x)) ∧ Below w.heap.size w w' := by
  have HA := Lib.hid (fun W => amtRight_any x.a W)
  have HX := Lib.hid (show Below w.heap.size w (w.alloc (.cells #[.int .i64 x.f, .int .i64 x.o, .int .i64 x.n, .int .i64 x.a] 43 (0, 0))) from (Below.refl _ _).alloc (Nat.le_refl _) _)
  have c3 : (w.alloc (.cells #[.int .i64 x.f, .int .i64 x.o, .int .i64 x.n, .int .i64 x.a] 43 (0, 0))).cell? ⟨w.heap.size, 3, none⟩ = some (.int .i64 x.a) := cell_of_row _ _ 3 _ _ (0, 0) (heap_alloc_new w _)
  unfold badA
  generalize amtRightB x.a = bb at HA ⊢
  go_enter Tryz.func42, Tryz.ntmps42
  go_wp2_with fail
  refine (HA.out _).mono ?_
  rintro e w' ⟨rfl, rfl⟩
  go_wp2_with fail
  go_ret
  exact ⟨rfl, HX.out⟩
set_option maxHeartbeats 800000 in
theorem preIdx_any {w : World} {B n : Nat} {A : Option Addr} {ps : List Ln} (c : Nat) (hr : RL w B A n ps) (hm : n ≤ maxLen) (hB : B ≤ w.heap.size) :
    Calls Tryz.prog 83 #[.slice A n c, .func (.func 42) #[] #[]] w fun e w' => ∃ i : Int, e = .returned (.int .i64 i) ∧ decide (0 ≤ i) = ps.any badA ∧ Below w.heap.size w w' := by
  unfold maxLen at hm
  have HR := Lib.hid hr
  clear hr
  go_enter Tryz.func83, Tryz.ntmps83
  go_wp2_with fail
  go_loopw [8] (fun i wr => ∃ j : Nat, j ≤ n ∧ i = .int .i64 j ∧ Hid (∀ (m : Nat) (y : Ln), m < j → ps[m]? = some y → badA y = false) ∧ Hid (Below w.heap.size w wr)) (fun i _ => n - (intOf i).toNat)
  case atStart => exact ⟨0, Nat.zero_le _, rfl, Lib.hid (fun m y hm => absurd hm (by omega)), Lib.hid (Below.refl _ _)⟩
  case round =>
    obtain ⟨j, hj, rfl, hbef, hbw⟩ := hrel
    by_cases hlt : j < n
    · obtain ⟨b, off, rfl, hb, hat⟩ := HR.out.2.2 (by omega)
      obtain ⟨y, hy⟩ : ∃ y, ps[j]? = some y := ⟨_, List.getElem?_eq_getElem (by rw [HR.out.1]; exact hlt)⟩
      obtain ⟨c0, c1, c2, c3⟩ := (hat j y hy).keep hb (fun b o hbb => hbw.out.cell (p := ⟨b, o, none⟩) (Nat.lt_of_lt_of_le hbb hB))
      have HF := Lib.hid (preBad_any y wr)
      have HY := Lib.hid hy
      clear hat hy
      have hlt' : (j : Int) < (n : Int) := by omega
      cases hk : badA y
      · rw [hk] at HF
        have hn := Lib.hid (fun (m : Nat) (z : Ln) (hm : m < j + 1) => show ps[m]? = some z → badA z = false by
          intro hz
          rcases Nat.lt_or_ge m j with h | h
          · exact hbef.out m z h hz
          · obtain rfl : m = j := by omega
            rw [HY.out] at hz
            cases hz
            exact hk)
        clear hk
        go_wp2_with fail
        refine HF.out.mono ?_
        rintro e w' ⟨rfl, hb'⟩
        have HE := Lib.hid (hbw.out.trans (hb'.mono hbw.out.size))
        clear hb' c0 c1 c2 c3
        go_wp2
        go_roundw
        case rel => exact ⟨j + 1, by omega, by go_num, hn, HE⟩
        case measure => simp [intOf]; omega
      · rw [hk] at HF
        have HEX := Lib.hid (show ps.any badA = true from List.any_eq_true.2 ⟨y, List.mem_of_getElem? HY.out, hk⟩)
        clear hk
        go_wp2_with fail
        refine HF.out.mono ?_
        rintro e w' ⟨rfl, hb'⟩
        have HE := Lib.hid (hbw.out.trans (hb'.mono hbw.out.size))
        clear hb' c0 c1 c2 c3
        go_wp2
        go_ret
        exact ⟨_, rfl, by rw [HEX.out]; exact decide_eq_true (by omega), HE.out⟩
    · obtain rfl : j = n := by omega
      have HEX := Lib.hid (show ps.any badA = false from List.any_eq_false.2 (fun y hy => by
        obtain ⟨k, hk, rfl⟩ := List.getElem_of_mem hy
        rw [hbef.out k _ (by rw [HR.out.1] at hk; exact hk) (List.getElem?_eq_getElem hk)]
        decide))
      go_wp2
      go_ret
      exact ⟨_, rfl, by rw [HEX.out]; decide, hbw.out⟩
set_option maxHeartbeats 800000 in
theorem preCheck_any {w : World} {B n : Nat} {A : Option Addr} {ps : List Ln} (c : Nat) (hr : RL w B A n ps) (hm : n ≤ maxLen) (hB : B ≤ w.heap.size) :
    Calls Tryz.prog 12 #[.slice A n c] w fun e w' => e = .returned (.int .i64 (preChk ps)) ∧ Below w.heap.size w w' := by
  have hI := Lib.hid (fun W (hW : Below w.heap.size w W) => preIdx_any c (hr.below (hW.mono hB)) hm (Nat.le_trans hB hW.size))
  have HC : Hid (∀ W, Below w.heap.size w W → Calls Tryz.prog 44 #[.slice A n c, .func (.func 42) #[] #[]] W fun e w' => e = .returned (.bool (ps.any badA)) ∧ Below w.heap.size w w') := Lib.hid (fun W hW => by
    have hI := Lib.hid (hI.out W hW)
    have HW := Lib.hid hW
    clear hW
    generalize ps.any badA = bb at hI ⊢
    clear hr
    go_enter Tryz.func44, Tryz.ntmps44
    go_wp2_with fail
    refine hI.out.mono ?_
    rintro e w' ⟨i, rfl, hi, hb⟩
    have HI := Lib.hid hi
    clear hi
    go_wp2
    go_ret
    rw [← HI.out]
    exact ⟨rfl, HW.out.trans (hb.mono HW.out.size)⟩)
  have hs : preChk ps = if n < 1 ∨ n > 6 ∨ ps.any badA = true then 1 else 0 := by unfold preChk; rw [hr.1]; rfl
  rw [hs]
  clear hs hr hI
  unfold maxLen at hm
  generalize ps.any badA = bb at HC ⊢
  by_cases h : n < 1
  · have k0 : (n : Int) < 1 := by omega
    rw [if_pos (.inl h)]
    clear h HC
    go_enter Tryz.func12, Tryz.ntmps12
    go_wp2_with fail
    go_ret
    exact ⟨rfl, Below.refl _ _⟩
  · have k0 : ¬ (n : Int) < 1 := by omega
    by_cases h6 : n > 6
    · have k1 : (n : Int) > 6 := by omega
      rw [if_pos (.inr (.inl h6))]
      clear h h6 HC
      go_enter Tryz.func12, Tryz.ntmps12
      go_wp2_with fail
      go_ret
      exact ⟨rfl, Below.refl _ _⟩
    · have k1 : ¬ (n : Int) > 6 := by omega
      have hb0 : Below w.heap.size w w := Below.refl _ _
      have HCW := Lib.hid (HC.out w hb0)
      clear HC hb0
      cases bb with
      | true =>
        rw [if_pos (.inr (.inr rfl))]
        clear h h6
        go_enter Tryz.func12, Tryz.ntmps12
        go_wp2_with fail
        refine HCW.out.mono ?_
        rintro e w' ⟨rfl, hb⟩
        have HE := Lib.hid hb
        clear hb
        go_wp2_with fail
        go_ret
        exact ⟨rfl, HE.out⟩
      | false =>
        rw [if_neg (by rintro (a | a | a); exact h a; exact h6 a; cases a)]
        clear h h6
        go_enter Tryz.func12, Tryz.ntmps12
        go_wp2_with fail
        refine HCW.out.mono ?_
        rintro e w' ⟨rfl, hb⟩
        have HE := Lib.hid hb
        clear hb
        go_wp2_with fail
        go_ret
        exact ⟨rfl, HE.out⟩
theorem ramtRight_any (a : Int) (w : World) : Calls Tryz.prog 45 #[.int .i64 a] w fun e w' => e = .returned (.bool (amtRightB a)) ∧ w = w' := by
  unfold amtRightB
  by_cases h : 1 ≤ a
  · go_enter Tryz.func45, Tryz.ntmps45
    go_wp2
    go_ret
    simp [h]
  · go_enter Tryz.func45, Tryz.ntmps45
    go_wp2
    go_ret
    simp; omega
end Go.Proofs.YtlcbmobdokicaaaGreat

/-
  Contracts of a pre-encumbrance's order: charge. Conditions: which numbers are ints; how many keys a view has.
-/
namespace Go.Proofs.YtlcbmobdokicaaaGreat
open Go.RowKit Go.Maps
set_option maxRecDepth 100000
set_option linter.unusedVariables false

/-- An order's cells. -/
def ordC (v : Nat) (k y f : Int) (wn : Bool) : Array Value := #[.pointer (some ⟨v, 0, none⟩), .int .i64 0, .int .i64 k, .int .i64 y, .int .i64 f, .int .i64 0, .bool wn]
def OrdAt (w : World) (T : TypeId) (g v : Nat) (k y f : Int) (wn : Bool) : Prop := w.heap[g]? = some (.cells (ordC v k y f wn) T (0, 0))
section
variable {w w' : World} {X X' : Nat → Prop} {v m c g : Nat} {S : VS} {T : TypeId} {k y f : Int} {wn : Bool}
theorem OrdAt.cells (h : OrdAt w T g v k y f wn) : w.cell? ⟨g, 0, none⟩ = some (.pointer (some ⟨v, 0, none⟩)) ∧ w.cell? ⟨g, 1, none⟩ = some (.int .i64 0) ∧ w.cell? ⟨g, 2, none⟩ = some (.int .i64 k) ∧ w.cell? ⟨g, 3, none⟩ = some (.int .i64 y) ∧ w.cell? ⟨g, 4, none⟩ = some (.int .i64 f) ∧ w.cell? ⟨g, 5, none⟩ = some (.int .i64 0) ∧ w.cell? ⟨g, 6, none⟩ = some (.bool wn) :=
  ⟨cell_of_row w _ 0 _ _ (0, 0) h, cell_of_row w _ 1 _ _ (0, 0) h, cell_of_row w _ 2 _ _ (0, 0) h, cell_of_row w _ 3 _ _ (0, 0) h, cell_of_row w _ 4 _ _ (0, 0) h, cell_of_row w _ 5 _ _ (0, 0) h, cell_of_row w _ 6 _ _ (0, 0) h⟩
theorem OrdAt.lt (h : OrdAt w T g v k y f wn) : g < w.heap.size := (Array.getElem?_eq_some_iff.1 h).1
theorem OrdAt.keep (h : OrdAt w T g v k y f wn) (hk : w'.heap[g]? = w.heap[g]?) : OrdAt w' T g v k y f wn := hk.trans h
theorem OrdAt.warn (h : OrdAt w T g v k y f wn) (b : Bool) : OrdAt (w.setCell ⟨g, 6, none⟩ (.bool b)) T g v k y f b := by
  unfold OrdAt at h ⊢
  rw [heap_setCell_same w g 6 _ _ _ h]
  rfl
theorem ViewAt.box (h : ViewAt w X v m c S) (o : Obj) : ViewAt (w.alloc o) (fun k => X k ∨ k = w.heap.size) v m c S :=
  h.keep (by simp) (fun k hk hn he => by rcases he with he | he; exact hn he; omega) (fun k hk => .inl hk) (fun k hk => by
    rcases hk with hk | hk
    · have := h.lt k hk; simp; omega
    · simp; omega) (fun k hk _ => ((Below.refl _ _).alloc (Nat.le_refl _) o).block k hk)
theorem ViewAt.less (h : ViewAt w X' v m c S) (hx : ∀ k, X k → X' k) (hv : X v) (hm : X m) (hc : X c) : ViewAt w X v m c S := by
  have hsv : ∀ (u : Value) (l : List Int), SV w X' u l → SV w X u l := fun u l hu => by
    obtain ⟨A, n, k, e, h1, h2, h3, h4⟩ := hu
    exact ⟨A, n, k, e, h1, h2, h3, fun a ha hn hxa => h4 a ha hn (hx _ hxa)⟩
  refine ⟨h.me, ?_, ?_, h.mc, hv, hm, hc, h.ok, fun k hk => h.lt k (hx k hk)⟩
  · obtain ⟨f, h1, h2⟩ := h.mem
    refine ⟨f, h1, fun x => ⟨(h2 x).1, fun d hd => ?_⟩⟩
    obtain ⟨u, e, hu⟩ := (h2 x).2 d hd
    exact ⟨u, e, hsv u d hu⟩
  · obtain ⟨f, h1, h2⟩ := h.chg
    refine ⟨f, h1, fun x => ⟨(h2 x).1, fun d hd => ?_⟩⟩
    obtain ⟨u, e, hu⟩ := (h2 x).2 d hd
    refine ⟨u, e, ?_⟩
    cases d with
    | none => exact hu
    | some l =>
      obtain ⟨z, e2, hz⟩ := hu
      exact ⟨z, e2, hsv z l hz⟩
theorem ViewAt.boxSet (h : ViewAt w X v m c S) (hg : X g) (hgv : g ≠ v ∧ g ≠ m ∧ g ≠ c) (i : Nat) (x : Value) : ViewAt (w.setCell ⟨g, i, none⟩ x) X v m c S :=
  h.keep (by simp) (fun _ _ h => h) (fun _ h => h) (fun k hk => by have := h.lt k hk; simpa using this) (fun k hk hh => by
    rw [heap_setCell_other _ _ _ _ (show k ≠ g from fun e => by
      subst e
      rcases hh with hh | hh | hh | hh
      · exact hgv.1 hh
      · exact hgv.2.1 hh
      · exact hgv.2.2 hh
      · exact hh hg)])
set_option maxHeartbeats 3200000 in
theorem preCharge_any (h : ViewAt w X v m c S) (hg : X g) (hgv : g ≠ v ∧ g ≠ m ∧ g ≠ c) (ho : OrdAt w 79 g v k y f wn) (hy : Nd64 y) (x : Ln) (hx : LnOk x) (hC : S.C.length ≤ 1000000) :
    Calls Tryz.prog 75 #[.pointer (some ⟨g, 0, none⟩), .agg #[.int .i64 x.f, .int .i64 x.o, .int .i64 x.n, .int .i64 x.a]] w fun e w' => e = .returned (.int .i64 (chargeR S y x.n x.a 0 0).1.2) ∧ ViewAt w' X v m c (chargeR S y x.n x.a 0 0).2 ∧ OrdAt w' 79 g v k y f (wn || (chargeR S y x.n x.a 0 0).1.1) ∧ Touch (fun k => k = c ∨ k = g) w w' := by
  obtain ⟨w1, hw1⟩ : ∃ w1, w1 = w.alloc (.cells #[.int .i64 x.f, .int .i64 x.o, .int .i64 x.n, .int .i64 x.a] 43) := ⟨_, rfl⟩
  have hb1 : Below w.heap.size w w1 := by rw [hw1]; exact (Below.refl _ _).alloc (Nat.le_refl _) _
  have hs1 : w1.heap.size = w.heap.size + 1 := by rw [hw1]; simp
  have hblk : w1.heap[w.heap.size]? = some (.cells #[.int .i64 x.f, .int .i64 x.o, .int .i64 x.n, .int .i64 x.a] 43 (0, 0)) := by rw [hw1]; exact heap_alloc_new w _
  have ho1 := ho.keep (hb1.block g ho.lt)
  have hcw := h.lt c h.xc
  have hgw := ho.lt
  have hd1 : Below w1.heap.size w1 w1.drew := (Below.refl _ _).drew
  have HCH := Lib.hid (charge_any ((h.below hb1).below hd1) y x.n x.a 0 0 hy hx.2.2.1 hx.2.2.2 (by unfold Nd64; omega) (by unfold Nd64; omega) hC)
  have K := Lib.hid (show ∀ W, Touch (fun k => k = c) w1 W → (W.cell? ⟨g, 0, none⟩ = some (.pointer (some ⟨v, 0, none⟩)) ∧ W.cell? ⟨g, 3, none⟩ = some (.int .i64 y) ∧ W.cell? ⟨w.heap.size, 2, none⟩ = some (.int .i64 x.n) ∧ W.cell? ⟨w.heap.size, 3, none⟩ = some (.int .i64 x.a)) ∧ OrdAt W 79 g v k y f wn from fun W ht => by
    have hb := (ht.block w.heap.size (by omega) (by omega)).trans hblk
    have ho2 := ho1.keep (ht.block g (by omega) (fun e => hgv.2.2 e))
    obtain ⟨c0, c1, c2, c3, c4, c5, c6⟩ := ho2.cells
    exact ⟨⟨c0, c3, cell_of_row W _ 2 _ _ (0, 0) hb, cell_of_row W _ 3 _ _ (0, 0) hb⟩, ho2⟩)
  have HT1 := Lib.hid (show Touch (fun k => k = c ∨ k = g) w w1 from Touch.of_below hb1)
  have HG := Lib.hid (And.intro hg hgv)
  have c5 := (K.out _ (Touch.of_below hd1)).1
  clear h ho hb1 hblk ho1 hd1 hC hy
  generalize chargeR S y x.n x.a 0 0 = R at HCH ⊢
  obtain ⟨⟨r1, r2⟩, S'⟩ := R
  obtain ⟨xf, xo, xn, xa⟩ := x
  simp only at HCH K c5 hw1 ⊢
  go_enter Tryz.func75, Tryz.ntmps75
  go_wp2_with fail
  rw [← hw1]
  clear hw1
  go_region_held3 (fun W => W.cell? ⟨g, 0, none⟩ = some (.pointer (some ⟨v, 0, none⟩)) ∧ W.cell? ⟨g, 3, none⟩ = some (.int .i64 y) ∧ W.cell? ⟨w.heap.size, 2, none⟩ = some (.int .i64 xn) ∧ W.cell? ⟨w.heap.size, 3, none⟩ = some (.int .i64 xa))
    (first | with_reducible exact c5 | exact c5)
    (first | (go_at_call 116; refine Calls.mono HCH.out ?_; rintro e w2 ⟨rfl, h2, t2⟩; have t2 := (Touch.of_below (F := fun k => k = c) ((Below.refl w1.heap.size w1).drew)).trans t2; have c5 := (K.out _ t2).1))
  have ho2 := (K.out _ t2).2
  obtain ⟨z0, z1, z2, z3, z4, z5, z6⟩ := ho2.cells
  have f6 : w2.frozen? ⟨g, 6, none⟩ = false := by simp [World.frozen?, show w2.heap[g]? = _ from ho2]
  have HE := Lib.hid (show ∀ b : Bool, ViewAt (w2.setCell ⟨g, 6, none⟩ (.bool b)) X v m c S' ∧ OrdAt (w2.setCell ⟨g, 6, none⟩ (.bool b)) 79 g v k y f b ∧ Touch (fun k => k = c ∨ k = g) w (w2.setCell ⟨g, 6, none⟩ (.bool b)) from fun b =>
    ⟨h2.boxSet HG.out.1 HG.out.2 6 _, ho2.warn b, HT1.out.trans ((t2.mono fun k hk => .inl hk).trans ⟨rfl, rfl, rfl, by simp, fun k hk hn => heap_setCell_other _ _ _ _ (fun e => hn (.inr e))⟩)⟩)
  clear c5 h2 t2 ho2 z0 z1 z2 z3 z4 z5 K HCH HG HT1
  cases wn with
  | true =>
    go_wp2_with fail
    go_ret
    exact ⟨rfl, HE.out true⟩
  | false =>
    go_wp2_with fail
    go_ret
    exact ⟨rfl, HE.out r1⟩
end
end Go.Proofs.YtlcbmobdokicaaaGreat

/-
  Contract of a pre-encumbrance's place, and of pre.New. Conditions: which numbers are ints; how many keys a view has.
-/
namespace Go.Proofs.YtlcbmobdokicaaaGreat
open Go.RowKit Go.Maps
set_option maxRecDepth 100000
set_option linter.unusedVariables false

section
variable {w w' : World} {X X' : Nat → Prop} {v m c g : Nat} {S : VS} {T : TypeId} {k y f : Int} {wn : Bool}
theorem runC_pref {y : Int} {S : VS} {wn : Bool} {l : List Chg} {j : Nat} {x : Chg} (hx : l[j]? = some x) (h : (runC y S wn (l.take j)).1.2 = 0) (h2 : (chargeR (runC y S wn (l.take j)).2 y x.i x.p x.e x.q).1.2 = 0) :
    runC y S wn (l.take (j + 1)) = (((runC y S wn (l.take j)).1.1 || (chargeR (runC y S wn (l.take j)).2 y x.i x.p x.e x.q).1.1, 0), (chargeR (runC y S wn (l.take j)).2 y x.i x.p x.e x.q).2) := by
  rw [runC_take hx h, if_pos h2]
theorem charge_len (S : VS) (y i p e q : Int) : (chargeR S y i p e q).2.C.length ≤ S.C.length + 8 := by
  unfold chargeR
  split
  · exact Nat.le_add_right _ _
  · split
    · exact Nat.le_add_right _ _
    · split
      · have h1 := fillN_len ((pathN S y 8 i).map fun x => growN x p e q) S
        have h2 := path_len S y 8 i
        rw [List.length_map] at h1
        show (((pathN S y 8 i).map fun x => growN x p e q).foldl VS.putN S).C.length ≤ _
        omega
      · exact Nat.le_add_right _ _
theorem runC_len (y : Int) : ∀ (l : List Chg) (S : VS) (wn : Bool), (runC y S wn l).2.C.length ≤ S.C.length + 8 * l.length
  | [], S, wn => Nat.le_refl _
  | x :: r, S, wn => by
    unfold runC
    rw [List.length_cons]
    have h1 := charge_len S y x.i x.p x.e x.q
    split
    · have h2 := runC_len y r (chargeR S y x.i x.p x.e x.q).2 (wn || (chargeR S y x.i x.p x.e x.q).1.1)
      omega
    · show (chargeR S y x.i x.p x.e x.q).2.C.length ≤ _
      omega
/-- A row of a caller's grows beside a view. -/
theorem ViewAt.grow (h : ViewAt w X v m c S) {row : Option Nat} (hg : w.grownBy w' row) (hrow : ∀ b, row = some b → X b ∧ b ≠ v ∧ b ≠ m ∧ b ≠ c) : ViewAt w' (fun k => X k ∨ (k = w.heap.size ∧ k < w'.heap.size)) v m c S :=
  h.keep hg.size (fun k hk hn he => by rcases he with he | he; exact hn he; omega) (fun k hk => .inl hk) (fun k hk => by
    rcases hk with hk | hk
    · exact Nat.lt_of_lt_of_le (h.lt k hk) hg.size
    · exact hk.2) (fun k hk hh => hg.block k hk fun e => by
    obtain ⟨a1, a2, a3, a4⟩ := hrow k e.symm
    rcases hh with hh | hh | hh | hh
    · exact a2 hh
    · exact a3 hh
    · exact a4 hh
    · exact hh a1)
/-- What an order's charges have left so far, beside a row of lines u. -/
def OrdRun (w wr : World) (X : Nat → Prop) (v m c g : Nat) (T : TypeId) (S : VS) (k y f : Int) (cs : List Chg) (u : Value) : Prop :=
  (runC y S false cs).1.2 = 0 ∧ (∃ X', (∀ k, X k → X' k) ∧ (∀ k, X' k → X k ∨ w.heap.size ≤ k) ∧ (∀ b, u.ownBlock = some b → X' b) ∧ ViewAt wr X' v m c (runC y S false cs).2) ∧ OrdAt wr T g v k y f (runC y S false cs).1.1 ∧ Touch (fun k => k = c ∨ k = g) w wr
/-- What place leaves. -/
def PlaceDone (w w' : World) (X : Nat → Prop) (v m c g : Nat) (T : TypeId) (k y f : Int) (R : (Int × Bool × Int) × VS) (e : Ending) : Prop :=
  ∃ id : Int, e = .returned (.tuple #[.int .i64 id, .int .i64 R.1.2.2]) ∧ ViewAt w' X v m c R.2 ∧ (R.1.2.2 = 0 → id = R.1.1 ∧ OrdAt w' T g v k y f R.1.2.1) ∧ Touch (fun k => k = c ∨ k = g) w w'
theorem orderR_bad {S S2 : VS} {y k f r : Int} {b : Bool} {cs : List Chg} {ls : List Dl} (h : runC y S false cs = ((b, r), S2)) (hr : r ≠ 0) : orderR S y k f cs ls = ((0, false, r), S2) := by
  unfold orderR
  rw [h]
  dsimp only
  rw [if_neg hr]
theorem orderR_put {S S2 : VS} {y k f : Int} {b : Bool} {cs : List Chg} {ls : List Dl} (h : runC y S false cs = ((b, 0), S2)) : orderR S y k f cs ls = if (putDoc S2 ⟨0, k, y, f, 0⟩ ls).1.2 = 0 then (((putDoc S2 ⟨0, k, y, f, 0⟩ ls).1.1, b, 0), (putDoc S2 ⟨0, k, y, f, 0⟩ ls).2) else ((0, false, (putDoc S2 ⟨0, k, y, f, 0⟩ ls).1.2), (putDoc S2 ⟨0, k, y, f, 0⟩ ls).2) := by
  unfold orderR
  rw [h]
  dsimp only
  rw [if_pos rfl]
theorem dl_lines_ok {l : List Ln} (h : ∀ x ∈ l, LnOk x) : ∀ z ∈ l.map lineD, DlOk z := fun z hz => by
  obtain ⟨x, hx, rfl⟩ := List.mem_map.1 hz
  exact lineD_ok (h x hx)
theorem snoc_map {α β : Type} {f : α → β} {l : List α} {j : Nat} {x : α} (h : l[j]? = some x) : (l.take (j + 1)).map f = (l.take j).map f ++ [f x] := by
  obtain ⟨hj, rfl⟩ := List.getElem?_eq_some_iff.1 h
  rw [List.take_succ_eq_append_getElem hj, List.map_append]
  rfl
set_option maxHeartbeats 12800000 in
theorem prePlace_any (h : ViewAt w X v m c S) (hg : X g) (hgv : g ≠ v ∧ g ≠ m ∧ g ≠ c) (ho : OrdAt w 79 g v 1 y 0 false) (hy : Nd64 y) {A : Option Addr} {n cap : Nat} {l : List Ln} (hl : ∀ W, Touch (fun k => k = c ∨ k = g) w W → RL W W.heap.size A n l) (hcap : n ≤ cap) (hn : n ≤ maxLen) (hC : S.C.length ≤ 100000) :
    Calls Tryz.prog 37 #[.pointer (some ⟨g, 0, none⟩), .slice A n cap] w fun e w' => PlaceDone w w' X v m c g 79 1 y 0 (preNew S y l) e := by
  have hd := (Below.refl w.heap.size w).drew
  have hcw := h.lt c h.xc
  have hgw := ho.lt
  have HY := Lib.hid (yCheck_any (h.below hd) y hy)
  have HYR := Lib.hid (show chkE (stV (S.now (yKey y))) = yChk S y from rfl)
  have K := Lib.hid (show ∀ W, Below w.heap.size w W → (W.cell? ⟨g, 0, none⟩ = some (.pointer (some ⟨v, 0, none⟩)) ∧ W.cell? ⟨g, 3, none⟩ = some (.int .i64 y)) ∧ OrdAt W 79 g v 1 y 0 false ∧ ViewAt W X v m c S ∧ Touch (fun k => k = c ∨ k = g) w W from fun W hW => by
    have ho2 := ho.keep (hW.block g hgw)
    obtain ⟨c0, c1, c2, c3, c4, c5, c6⟩ := ho2.cells
    exact ⟨⟨c0, c3⟩, ho2, h.below hW, Touch.of_below hW⟩)
  have HL := Lib.hid hl
  have HG := Lib.hid (And.intro hg hgv)
  have hlen : l.length = n := (hl w (Touch.refl _ _)).len
  have hlok := (hl w (Touch.refl _ _)).ok
  have HLEN := Lib.hid (And.intro hlen (And.intro hlok hC))
  have e1 : yChk S y ≠ 0 → preNew S y l = ((0, false, yChk S y), S) := fun h => by unfold preNew; rw [if_neg h]
  have e2 : yChk S y = 0 → preChk l ≠ 0 → preNew S y l = ((0, false, 1), S) := fun h g => by unfold preNew; rw [if_pos h, if_neg g]
  have e3 : yChk S y = 0 → preChk l = 0 → preNew S y l = orderR S y 1 0 (l.map preC) (l.map lineD) := fun h g => by unfold preNew; rw [if_pos h, if_pos g]
  have HPC := Lib.hid (fun W (hW : Below w.heap.size w W) => preCheck_any cap (hl W (Touch.of_below hW)) hn (Nat.le_refl W.heap.size))
  have hp01 : preChk l = 0 ∨ preChk l = 1 := by unfold preChk; split; exact .inr rfl; exact .inl rfl
  have HP6 := Lib.hid (fun h => preChk_len (l := l) h)
  have E := Lib.hid (And.intro e1 (And.intro e2 e3))
  have c5 := (K.out _ hd).1
  have HYY := Lib.hid hy
  have HM3 := Lib.hid (And.intro (h.lt v h.xv) (And.intro (h.lt m h.xm) (And.intro h.xv (And.intro h.xm h.xc))))
  clear e1 e2 e3 h ho hl hlok hC hd hy
  obtain ⟨R, hR⟩ : ∃ R, R = preNew S y l := ⟨_, rfl⟩
  rw [← hR] at E ⊢
  clear hR
  unfold maxLen at hn
  obtain ⟨yc, hyc⟩ : ∃ yc, yc = yChk S y := ⟨_, rfl⟩
  rw [HYR.out, ← hyc] at HY
  rw [← hyc] at E
  clear hyc HYR
  obtain ⟨pc, hpc⟩ : ∃ pc, pc = preChk l := ⟨_, rfl⟩
  rw [← hpc] at E HPC hp01 HP6
  clear hpc
  go_enter Tryz.func37, Tryz.ntmps37
  go_wp2_with fail
  go_region_held3 (fun W => W.cell? ⟨g, 0, none⟩ = some (.pointer (some ⟨v, 0, none⟩)) ∧ W.cell? ⟨g, 3, none⟩ = some (.int .i64 y))
    (first | with_reducible exact c5 | exact c5)
    (first | (go_at_call 74; refine Calls.mono HY.out ?_; rintro e w2 ⟨rfl, h2⟩; have h2 := ((Below.refl w.heap.size w).drew).trans h2; have c5 := (K.out _ h2).1))
  have H2 := Lib.hid h2
  clear c5 h2 HY
  by_cases h0 : yc = 0
  · subst h0
    have HPC2 := Lib.hid (HPC.out w2 H2.out)
    clear HPC
    go_wp2_with fail
    refine HPC2.out.mono ?_
    rintro e w3 ⟨rfl, h3⟩
    have H3 := Lib.hid (H2.out.trans (h3.mono H2.out.size))
    clear h3 HPC2 H2
    rcases hp01 with rfl | rfl
    · have hER := E.out.2.2 (by first | rfl | trivial) (by first | rfl | trivial)
      have HER := Lib.hid hER
      clear hER
      obtain ⟨n1, n6, hra⟩ := HP6.out (by first | rfl | trivial)
      rw [HLEN.out.1] at n1 n6
      have H0 := Lib.hid (show OrdRun w w3 X v m c g 79 S 1 y 0 ((l.map preC).take 0) (.slice none 0 0) from ⟨rfl, ⟨X, fun _ h => h, fun _ h => .inl h, (fun b hb => by cases hb), (K.out w3 H3.out).2.2.1⟩, (K.out w3 H3.out).2.1, (K.out w3 H3.out).2.2.2⟩)
      clear E K HP6 H3 hra
      go_wp2_with fail
      go_loopw [8, 32] (fun uv iv wr => ∃ j : Nat, j ≤ n ∧ iv = .int .i64 j ∧ (∃ A' k', uv = .slice A' j k') ∧ Hid (DlE.Own 58 wr w.heap.size uv ((l.take j).map lineD) ∧ OrdRun w wr X v m c g 79 S 1 y 0 ((l.map preC).take j) uv)) (fun _ iv _ => n - (intOf iv).toNat)
      case atStart => exact ⟨0, Nat.zero_le _, rfl, ⟨none, 0, rfl⟩, Lib.hid ⟨Enc.Own.start _ _ _, H0.out⟩⟩
      case round =>
        clear H0
        obtain ⟨j, hj, rfl, ⟨A', k', rfl⟩, HJ⟩ := hrel
        by_cases hlt : j < n
        · have hlt' : (j : Int) < (n : Int) := by omega
          have hj0 : (0 : Int) ≤ (j : Int) := by omega
          obtain ⟨hown, hz, ⟨X1, hx1, hx2, hx3, hv⟩, hor, ht⟩ := HJ.out
          obtain ⟨x, hx⟩ : ∃ x, l[j]? = some x := ⟨_, List.getElem?_eq_getElem (by rw [HLEN.out.1]; exact hlt)⟩
          have hxok := HLEN.out.2.1 x (List.mem_of_getElem? hx)
          obtain ⟨b, off, rfl, hb, hat⟩ := (HL.out wr ht).2.2 (by omega)
          obtain ⟨c0, c1, c2, c3⟩ := hat j x hx
          obtain ⟨wb, hwb⟩ : ∃ wb, wb = wr.alloc (.cells #[.int .i64 x.f, .int .i64 x.o, .int .i64 x.n, .int .i64 x.a] 43 (0, 0)) := ⟨_, rfl⟩
          have hbb : Below wr.heap.size wr wb := by rw [hwb]; exact (Below.refl _ _).alloc (Nat.le_refl _) _
          have hblk : wb.heap[wr.heap.size]? = some (.cells #[.int .i64 x.f, .int .i64 x.o, .int .i64 x.n, .int .i64 x.a] 43 (0, 0)) := by rw [hwb]; exact heap_alloc_new wr _
          have hsz : wb.heap.size = wr.heap.size + 1 := by rw [hwb]; simp
          have hCj := runC_len y ((l.map preC).take j) S false
          rw [List.length_take] at hCj
          have hxm : (l.map preC)[j]? = some (preC x) := by rw [List.getElem?_map, hx]; rfl
          have hwr := ht.size
          have HCH := Lib.hid (preCharge_any (hv.below hbb) (hx1 _ HG.out.1) HG.out.2 (hor.keep (hbb.block g (Nat.lt_of_lt_of_le hgw ht.size))) HYY.out x hxok (by have := HLEN.out.2.2; omega))
          have HOK := Lib.hid (show (chargeR (runC y S false ((l.map preC).take j)).2 y x.n x.a 0 0).1.2 = 0 → runC y S false ((l.map preC).take (j + 1)) = (((runC y S false ((l.map preC).take j)).1.1 || (chargeR (runC y S false ((l.map preC).take j)).2 y x.n x.a 0 0).1.1, 0), (chargeR (runC y S false ((l.map preC).take j)).2 y x.n x.a 0 0).2) from fun h2 => runC_pref hxm hz h2)
          have HBAD := Lib.hid (show (chargeR (runC y S false ((l.map preC).take j)).2 y x.n x.a 0 0).1.2 ≠ 0 → runC y S false (l.map preC) = (((runC y S false ((l.map preC).take j)).1.1, (chargeR (runC y S false ((l.map preC).take j)).2 y x.n x.a 0 0).1.2), (chargeR (runC y S false ((l.map preC).take j)).2 y x.n x.a 0 0).2) from fun h2 => runC_bad hxm hz h2)
          have HSN := Lib.hid (show (l.take (j + 1)).map lineD = (l.take j).map lineD ++ [(⟨x.n, x.a, 0, 0⟩ : Dl)] from snoc_map (f := lineD) hx)
          have HDO := Lib.hid (show DlOk ⟨x.n, x.a, 0, 0⟩ from lineD_ok hxok)
          have htk : (l.take j).length = j := by rw [List.length_take]; have := HLEN.out.1; omega
          have hown' := hown.below hbb
          have HOW := Lib.hid (show ∀ W, Touch (fun k => k = c ∨ k = g) wb W → DlE.Own 58 W w.heap.size (.slice A' j k') ((l.take j).map lineD) from fun W hW => hown'.stays fun q hq => hW.block q (hown'.at_ q hq).2 (fun e => by have := (hown'.at_ q hq).1; rcases e with e | e <;> omega))
          have HX1 := Lib.hid (And.intro hx1 (And.intro hx2 hx3))
          have HT := Lib.hid (show Touch (fun k => k = c ∨ k = g) w wb from ht.trans (Touch.of_below hbb))
          have HBL := Lib.hid (show ∀ W, Touch (fun k => k = c ∨ k = g) wb W → W.cell? ⟨wr.heap.size, 2, none⟩ = some (.int .i64 x.n) ∧ W.cell? ⟨wr.heap.size, 3, none⟩ = some (.int .i64 x.a) from fun W hW => by
            have hb := (hW.block wr.heap.size (by omega) (by omega)).trans hblk
            exact ⟨cell_of_row W _ 2 _ _ (0, 0) hb, cell_of_row W _ 3 _ _ (0, 0) hb⟩)
          have HAB := Lib.hid (And.intro (show ∀ q, (Value.slice A' j k').ownBlock = some q → w.heap.size ≤ q ∧ q < wb.heap.size from fun q hq => hown'.at_ q hq) (And.intro htk (Nat.le_trans hwr hbb.size)))
          clear hown hz hx1 hx2 hx3 hv hor ht hx hb hat hbb hblk hsz hCj hxm HJ htk hown' hxok
          generalize runC y S false ((l.map preC).take j) = Rj at HCH HOK HBAD
          obtain ⟨⟨bj, ej⟩, Sj⟩ := Rj
          simp only at HCH HOK HBAD
          generalize chargeR Sj y x.n x.a 0 0 = R2 at HCH HOK HBAD
          obtain ⟨⟨r1, r2⟩, S2⟩ := R2
          obtain ⟨xf, xo, xn, xa⟩ := x
          simp only at HCH HOK HBAD hwb HBL HSN HDO c0 c1 c2 c3
          go_wp2_with fail
          rw [← hwb]
          clear hwb c0 c1 c2 c3
          refine HCH.out.mono ?_
          rintro e w4 ⟨rfl, h4, o4, t4⟩
          obtain ⟨d2, d3⟩ := HBL.out w4 t4
          clear HCH
          by_cases hr2 : r2 = 0
          · subst hr2
            have hR := HOK.out (by first | rfl | trivial)
            have hw4 := t4.size
            obtain ⟨w5, hw5⟩ : ∃ w5, w5 = w4.alloc (.cells #[.int .i64 xn, .int .i64 xa, .int .i64 0, .int .i64 0] 58 (0, 0)) := ⟨_, rfl⟩
            have hb5 : Below w4.heap.size w4 w5 := by rw [hw5]; exact (Below.refl _ _).alloc (Nat.le_refl _) _
            have hs5 : w5.heap.size = w4.heap.size + 1 := by rw [hw5]; simp
            have hk5 : w5.heap[w4.heap.size]? = some (.cells #[.int .i64 xn, .int .i64 xa, .int .i64 0, .int .i64 0] 58 (0, 0)) := by rw [hw5]; exact heap_alloc_new w4 _
            have hown4 := HOW.out w4 t4
            have hl4 : ((l.take j).map lineD).length = j := by rw [List.length_map]; exact HAB.out.2.1
            obtain ⟨v', w6, hrun, hown6, hb6, hgr, hgn⟩ := (hown4.below hb5).append1 DlT (x := ⟨xn, xa, 0, 0⟩) hk5 rfl HDO.out (by omega) (by have := HAB.out.2.2; omega) 52
            obtain ⟨A6, k6, rfl, hk6⟩ := hown6.shape
            have hl6 : ((l.take j).map lineD ++ [(⟨xn, xa, 0, 0⟩ : Dl)]).length = j + 1 := by rw [List.length_append, hl4]; rfl
            rw [hl6] at hrun hown6 hgn
            have hga : g < w4.heap.size := by have := HAB.out.2.2; omega
            have hrun2 := hrun
            rw [hw5] at hrun2
            have HRUN := Lib.hid hrun2
            clear hrun2
            have hv6 := (h4.below hb5).grow hgr (fun q hq => by
              have := (HAB.out.1 q hq).1
              have h3 := HM3.out
              exact ⟨HX1.out.2.2 q hq, by omega, by omega, by omega⟩)
            have ho6 : OrdAt w6 79 g v 1 y 0 (bj || r1) := (o4.keep (hb5.block g hga)).keep (hgr.block g (Nat.lt_of_lt_of_le hga hb5.size) (fun q => by have := (HAB.out.1 g q.symm).1; omega))
            have htw4 := HT.out.trans t4
            have ht6 : Touch (fun k => k = c ∨ k = g) w w6 := ⟨hb6.os.trans (hb5.os.trans htw4.os), hb6.tape.trans (hb5.tape.trans htw4.tape), hb6.output.trans (hb5.output.trans htw4.output), Nat.le_trans htw4.size (Nat.le_trans hb5.size hb6.size), fun k hk hn => (hb6.block k hk).trans ((hb5.block k (Nat.lt_of_lt_of_le hk htw4.size)).trans (htw4.block k hk hn))⟩
            have HJ := Lib.hid (show DlE.Own 58 w6 w.heap.size (.slice A6 (j + 1) k6) ((l.take (j + 1)).map lineD) ∧ OrdRun w w6 X v m c g 79 S 1 y 0 ((l.map preC).take (j + 1)) (.slice A6 (j + 1) k6) from by
              rw [HSN.out]
              refine ⟨hown6, ?_⟩
              unfold OrdRun
              rw [hR]
              refine ⟨rfl, ⟨_, fun k hk => .inl (HX1.out.1 k hk), fun k hk => ?_, fun q hq => ?_, hv6⟩, ho6, ht6⟩
              · rcases hk with hk | hk
                · exact HX1.out.2.1 k hk
                · exact .inr (by have := HAB.out.2.2; omega)
              · rcases hgn with hgn | hgn
                · exact .inl (HX1.out.2.2 q (hgn.symm.trans hq))
                · rw [hgn] at hq
                  cases hq
                  exact .inr ⟨rfl, (hown6.at_ _ hgn).2⟩)
            clear htw4 hga hw5 hR h4 o4 t4 hw4 hb5 hk5 hown4 hown6 hb6 hgr hgn hrun hv6 ho6 ht6 HOW HX1 HT HBL HAB HBAD HOK HSN HDO hl4 hl6 hk6
            go_wp2_with (at_builtin; refine Lib.wpList_append_run _ rfl _ _ _ _ rfl _ _ rfl rfl _ _ HRUN.out ?_)
            go_roundw
            case rel => exact ⟨j + 1, by omega, by go_num, ⟨A6, k6, rfl⟩, HJ⟩
            case measure => simp [intOf]; omega
          · have k1 : (r2 != 0) = true := by simp [hr2]
            have hR := HER.out.trans (orderR_bad (HBAD.out hr2) hr2)
            have HE := Lib.hid (show PlaceDone w w4 X v m c g 79 1 y 0 R (.returned (.tuple #[.int .i64 0, .int .i64 r2])) from by
              rw [hR]
              exact ⟨0, rfl, h4.less HX1.out.1 HM3.out.2.2.1 HM3.out.2.2.2.1 HM3.out.2.2.2.2, fun h => absurd h hr2, HT.out.trans t4⟩)
            clear hR h4 o4 t4 HOW HX1 HT HBL HAB HBAD HOK HSN HDO HER hr2
            go_wp2_with fail
            go_ret2
            exact HE.out
        · obtain rfl : j = n := by omega
          obtain ⟨hown, hz, ⟨X1, hx1, hx2, hx3, hv⟩, hor, ht⟩ := HJ.out
          have htk : l.take j = l := List.take_of_length_le (by have := HLEN.out.1; omega)
          have htm : (l.map preC).take j = l.map preC := List.take_of_length_le (by rw [List.length_map]; have := HLEN.out.1; omega)
          rw [htk] at hown
          rw [htm] at hz hv hor
          have hCj := runC_len y (l.map preC) S false
          rw [List.length_map] at hCj
          have hER := HER.out
          obtain ⟨Rj, hRj⟩ : ∃ Rj, Rj = runC y S false (l.map preC) := ⟨_, rfl⟩
          rw [← hRj] at hz hv hor hCj
          obtain ⟨⟨bj, ej⟩, Sj⟩ := Rj
          simp only at hz hv hor hCj
          subst hz
          rw [orderR_put hRj.symm] at hER
          have hdr := (Below.refl wr.heap.size wr).drew
          have hlen := HLEN.out.1
          have hrd := (hown.below hdr).read (dl_lines_ok HLEN.out.2.1)
          have hDOK : DcOk ⟨0, 1, y, 0, 0⟩ := by
            intro q hq
            simp only [List.mem_cons, List.not_mem_nil, or_false] at hq
            rcases hq with rfl | rfl | rfl | rfl | rfl
            · omega
            · omega
            · exact HYY.out
            · omega
            · omega
          have HPUT := Lib.hid (docsPut_any (hv.below hdr) ⟨0, 1, y, 0, 0⟩ hDOK hrd.2.2 hrd.2.1 (by unfold maxLen; omega) (by have := HLEN.out.2.2; omega))
          have hog := hor.lt
          have hcv := hv.lt c (hx1 _ HM3.out.2.2.2.2)
          have K := Lib.hid (show ∀ W, Touch (fun k => k = c) wr.drew W → (W.cell? ⟨g, 0, none⟩ = some (.pointer (some ⟨v, 0, none⟩)) ∧ W.cell? ⟨g, 1, none⟩ = some (.int .i64 0) ∧ W.cell? ⟨g, 2, none⟩ = some (.int .i64 1) ∧ W.cell? ⟨g, 3, none⟩ = some (.int .i64 y) ∧ W.cell? ⟨g, 4, none⟩ = some (.int .i64 0) ∧ W.cell? ⟨g, 5, none⟩ = some (.int .i64 0)) ∧ OrdAt W 79 g v 1 y 0 bj from fun W hW => by
            have ho2 := (hor.keep (hdr.block g hog)).keep (hW.block g (Nat.lt_of_lt_of_le hog hdr.size) (fun e => HG.out.2.2.2 e))
            obtain ⟨c0, c1, c2, c3, c4, c5, c6⟩ := ho2.cells
            exact ⟨⟨c0, c1, c2, c3, c4, c5⟩, ho2⟩)
          have c5 := (K.out _ (Touch.refl _ _)).1
          have HT := Lib.hid (show Touch (fun k => k = c ∨ k = g) w wr.drew from ht.trans (Touch.of_below hdr))
          have HX1 := Lib.hid hx1
          have HER2 := Lib.hid hER
          clear HJ hown hx1 hx2 hx3 hv hor ht htk htm hCj hRj hrd hDOK hog hcv hdr hER HER hlen
          generalize putDoc Sj ⟨0, 1, y, 0, 0⟩ (l.map lineD) = PD at HPUT HER2
          obtain ⟨⟨pa, pb⟩, PS⟩ := PD
          simp only at HPUT HER2
          go_wp2_with fail
          go_region_held3 (fun W => W.cell? ⟨g, 0, none⟩ = some (.pointer (some ⟨v, 0, none⟩)) ∧ W.cell? ⟨g, 1, none⟩ = some (.int .i64 0) ∧ W.cell? ⟨g, 2, none⟩ = some (.int .i64 1) ∧ W.cell? ⟨g, 3, none⟩ = some (.int .i64 y) ∧ W.cell? ⟨g, 4, none⟩ = some (.int .i64 0) ∧ W.cell? ⟨g, 5, none⟩ = some (.int .i64 0))
            (first | with_reducible exact c5 | exact c5)
            (first | (go_at_call 76; refine Calls.mono HPUT.out ?_; rintro e w5 ⟨rfl, h5, t5⟩; have c5 := (K.out _ t5).1))
          have HE := Lib.hid (show PlaceDone w w5 X v m c g 79 1 y 0 R (.returned (.tuple #[.int .i64 pa, .int .i64 pb])) from by
            have hl5 := h5.less HX1.out HM3.out.2.2.1 HM3.out.2.2.2.1 HM3.out.2.2.2.2
            have ht5 : Touch (fun k => k = c ∨ k = g) w w5 := HT.out.trans (t5.mono fun k hk => .inl hk)
            rw [HER2.out]
            by_cases hb : pb = 0
            · rw [if_pos hb]
              subst hb
              exact ⟨pa, rfl, hl5, fun _ => ⟨rfl, (K.out _ t5).2⟩, ht5⟩
            · rw [if_neg hb]
              exact ⟨pa, rfl, hl5, fun h => absurd h hb, ht5⟩)
          clear c5 h5 t5 K HT HX1 HER2 HPUT
          go_wp2_with fail
          go_ret2
          exact HE.out
    · have hER := E.out.2.1 (by first | rfl | trivial) (by decide)
      have HE := Lib.hid (show PlaceDone w w3 X v m c g 79 1 y 0 R (.returned (.tuple #[.int .i64 0, .int .i64 1])) from by
        rw [hER]
        exact ⟨0, rfl, (K.out w3 H3.out).2.2.1, fun h => absurd (show (1 : Int) = 0 from h) (by decide), (K.out w3 H3.out).2.2.2⟩)
      clear hER E K HP6 H3
      go_wp2_with fail
      go_ret2
      exact HE.out
  · have k1 : (yc != 0) = true := by simp [h0]
    have hER := E.out.1 h0
    have HE := Lib.hid (show PlaceDone w w2 X v m c g 79 1 y 0 R (.returned (.tuple #[.int .i64 0, .int .i64 yc])) from by
      rw [hER]
      exact ⟨0, rfl, (K.out w2 H2.out).2.2.1, fun h => absurd h h0, (K.out w2 H2.out).2.2.2⟩)
    clear hER E K HP6 H2 h0
    go_wp2_with fail
    go_ret2
    exact HE.out
theorem touch_new {o : Obj} (h : Touch (fun k => k = c ∨ k = w.heap.size) (w.alloc o) w') : Touch (fun k => k = c) w w' :=
  ⟨h.os, h.tape, h.output, Nat.le_trans (by simp) h.size, fun k hk hn => (h.block k (by simp; omega) (fun e => by rcases e with e | e; exact hn e; omega)).trans (((Below.refl w.heap.size w).alloc (Nat.le_refl _) o).block k hk)⟩
end
end Go.Proofs.YtlcbmobdokicaaaGreat

/-
  pre.New by contract over a view in memory. Conditions: which numbers are ints; how many keys a view has.
-/
namespace Go.Proofs.YtlcbmobdokicaaaGreat
open Go.RowKit Go.Maps
set_option maxRecDepth 100000
set_option linter.unusedVariables false

section
variable {w w' : World} {X X' : Nat → Prop} {v m c g : Nat} {S : VS}
set_option maxHeartbeats 6400000 in
theorem preNew_any (h : ViewAt w X v m c S) {y : Int} (hy : Nd64 y) {A : Option Addr} {n cap : Nat} {l : List Ln} (hl : ∀ W, Touch (fun k => k = c) w W → RL W W.heap.size A n l) (hcap : n ≤ cap) (hn : n ≤ maxLen) (hC : S.C.length ≤ 100000) :
    Calls Tryz.prog 10 #[.pointer (some ⟨v, 0, none⟩), .int .i64 y, .slice A n cap] w fun e w' => e = .returned (.tuple #[.int .i64 (preNew S y l).1.1, .bool (preNew S y l).1.2.1, .int .i64 (preNew S y l).1.2.2]) ∧ ViewAt w' X v m c (preNew S y l).2 ∧ Touch (fun k => k = c) w w' := by
  have hbad : (preNew S y l).1.2.2 ≠ 0 → (preNew S y l).1.1 = 0 ∧ (preNew S y l).1.2.1 = false := fun h => by
    unfold preNew at h ⊢
    split
    · split
      · rename_i a b
        rw [if_pos a, if_pos b] at h
        unfold orderR at h ⊢
        split
        · split
          · rename_i p q
            rw [if_pos p, if_pos q] at h
            exact absurd rfl h
          · exact ⟨rfl, rfl⟩
        · exact ⟨rfl, rfl⟩
      · exact ⟨rfl, rfl⟩
    · exact ⟨rfl, rfl⟩
  obtain ⟨w1, hw1⟩ : ∃ w1, w1 = w.alloc (.cells #[.pointer (some ⟨v, 0, none⟩), .int .i64 0, .int .i64 1, .int .i64 y, .int .i64 0, .int .i64 0, .bool false] 79 (0, 0)) := ⟨_, rfl⟩
  have hb1 : Below w.heap.size w w1 := by rw [hw1]; exact (Below.refl _ _).alloc (Nat.le_refl _) _
  have ho1 : OrdAt w1 79 w.heap.size v 1 y 0 false := by rw [hw1]; exact heap_alloc_new w _
  have hv1 : ViewAt w1 (fun k => X k ∨ k = w.heap.size) v m c S := by rw [hw1]; exact h.box _
  have htn : ∀ W, Touch (fun k => k = c ∨ k = w.heap.size) w1 W → Touch (fun k => k = c) w W := fun W hW => by rw [hw1] at hW; exact touch_new hW
  have hlt := (And.intro (h.lt v h.xv) (And.intro (h.lt m h.xm) (h.lt c h.xc)))
  have HP := Lib.hid (prePlace_any hv1 (.inr rfl) (by omega) ho1 hy (fun W hW => hl W (htn W hW)) hcap hn hC)
  have HX := Lib.hid (And.intro h.xv (And.intro h.xm h.xc))
  have HTN := Lib.hid htn
  have HBAD := Lib.hid hbad
  clear h hl hC hb1 ho1 hv1 htn hbad hlt
  generalize preNew S y l = R at HP HBAD ⊢
  go_enter Tryz.func10, Tryz.ntmps10
  go_wp2_with fail
  rw [← hw1]
  clear hw1
  refine HP.out.mono ?_
  rintro e w2 ⟨id, rfl, h2, ho2, t2⟩
  have HE := Lib.hid (show ∀ W, Below w2.heap.size w2 W → ViewAt W X v m c R.2 ∧ Touch (fun k => k = c) w W from fun W hW => ⟨(h2.below hW).less (fun k hk => .inl hk) HX.out.1 HX.out.2.1 HX.out.2.2, (HTN.out w2 t2).trans (Touch.of_below hW)⟩)
  obtain ⟨⟨ra, rb, re⟩, RS⟩ := R
  simp only at ho2 HE HBAD ⊢
  clear h2 t2 HP HTN HX
  by_cases h0 : re = 0
  · subst h0
    obtain ⟨rfl, ho⟩ := ho2 (by first | rfl | trivial)
    obtain ⟨c0, c1, c2, c3, c4, c5, c6⟩ := ho.cells
    have hd := (Below.refl w2.heap.size w2).drew
    have d6 : w2.drew.cell? ⟨w.heap.size, 6, none⟩ = some (.bool rb) := (hd.cell (p := ⟨w.heap.size, 6, none⟩) ho.lt).trans c6
    have HE2 := Lib.hid (And.intro (HE.out w2 (Below.refl _ _)) (HE.out w2.drew hd))
    clear HBAD HE c0 c1 c2 c3 c4 c5 hd ho ho2
    go_wp2_with fail
    have c5 := d6
    go_region_held3 (fun W => W.cell? ⟨w.heap.size, 6, none⟩ = some (.bool rb))
      (first | with_reducible exact c5 | exact c5)
      (first | fail)
    clear c5 d6
    go_wp2_with fail
    go_ret3
    exact ⟨rfl, HE2.out.2⟩
  · have k1 : (re != 0) = true := by simp [h0]
    obtain ⟨rfl, rfl⟩ := HBAD.out h0
    have HE2 := Lib.hid (HE.out w2 (Below.refl _ _))
    clear HBAD HE ho2 h0
    go_wp2_with fail
    go_ret3
    exact ⟨rfl, HE2.out⟩
end
end Go.Proofs.YtlcbmobdokicaaaGreat
