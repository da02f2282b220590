/-
  The texts DirAw, DiskDevB, Dos11, MetaOpen joined. Conditions: those that each part says at its head.
-/
import Derived.Test.YtkpmfobmlaldfaaDoorG6
import Derived.Test.YtkpmfobmlaldfaaDoorG4
import Derived.Test.YtkpmfobmlaldfaaDoorG3
import Derived.Test.YtkpmfobmlaldfaaDoorG1
import Derived.Deep.Slices
import Derived.Deep.Fields
import Derived.ChangeSame
import Derived.ProofKit
import Derived.OpenShut

/-
  The directory laws' own check: it returns true; the directory of 18 pages that DirKeeps uses, call by call. Condition: the table that crc.Step reads holds what the program's text lays in it.
-/
namespace Go.Proofs.YtkpmfobmlaldfaaDoor
open Go.RowKit
set_option maxRecDepth 100000
set_option linter.unusedVariables false

theorem RI.lit (w : World) (e : TypeId) (l : List Int) (cs : Array Value) (hcs : cs = (l.map (Value.int .i64)).toArray) (h : ∀ x ∈ l, -9223372036854775808 ≤ x ∧ x ≤ 9223372036854775807) : RI (w.alloc (.cells cs e)) (w.heap.size + 1) (some ⟨w.heap.size, 0, none⟩) l.length l := by
  subst hcs
  refine ⟨rfl, h, fun _ => ⟨w.heap.size, 0, rfl, Nat.lt_succ_self _, fun j hj => ?_⟩⟩
  rw [Nat.zero_add, cell_of_row (w.alloc (.cells _ e)) w.heap.size j _ e (0, 0) (heap_alloc_new w _)]
  simp [List.getElem?_eq_getElem hj]

theorem RI.there {w w' : World} {g B n : Nat} {l : List Int} (h : RI w B (some ⟨g, 0, none⟩) n l) (e : w'.heap[g]? = w.heap[g]?) : RI w' B (some ⟨g, 0, none⟩) n l :=
  ⟨h.1, h.2.1, fun h0 => by
    obtain ⟨b, off, e', hb, hc⟩ := h.2.2 h0
    cases e'
    exact ⟨g, 0, rfl, hb, fun j hj => (World.cell?_of_block (a := ⟨g, 0 + j, none⟩) e).trans (hc j hj)⟩⟩

theorem got_ok {S : DS} {L : List (Int × List Int)} (hn : S.n = 61) (hR : Rests S fresh1) {i : Int} (h : 0 ≤ i ∧ i < 30) : (getPg S L i).2 = 0 ∧ i < S.P := by
  have hP : S.P = 30 := by unfold DS.P; rw [hn]; decide
  refine ⟨?_, by omega⟩
  unfold getPg
  cases ha : atL L i with
  | some l => rfl
  | none =>
    simp only
    rw [load_rests (n := S.n) rfl hR ⟨h.1, by have e : S.P = pagesOf S.n := rfl; omega⟩]

/-- A directory whose pages are there, no page twice. -/
def GoodD (d : Int) (k : Nat) (l : List Int) : Prop := ∀ i : Nat, i < k → 0 ≤ l[i]?.getD 0 ∧ l[i]?.getD 0 < 30 ∧ ∀ j : Nat, j < k → l[i]?.getD 0 = l[j]?.getD 0 → i = j
theorem good_keeps {S : DS} {L : List (Int × List Int)} {d : Int} {k : Nat} {l : List Int} (hg : GoodD d k l) (hn : S.n = 61) (hR : Rests S fresh1) (hall : ∀ y ∈ L, y.2.length = 240) {slot page : Int} (hS : okD d k slot = true) (hp : 0 ≤ page ∧ page < 4294967296) :
    (dirSetR S L d k l slot page).1 = 0 ∧ ∀ j, okD d k j = true → dirGetR S (dirSetR S L d k l slot page).2 d k l j = if j = slot then (page, 0) else dirGetR S L d k l j := by
  have hown : ∀ j, okD d k j = true → ∃ a : Nat, a < k ∧ j / 60 = (a : Int) ∧ ownD l j = l[a]?.getD 0 := fun j hj => by
    obtain ⟨a, _, ha, _, hak, _⟩ := okD_nat hj
    exact ⟨a, hak, ha, by unfold ownD; rw [ha, Int.toNat_natCast]⟩
  obtain ⟨k1, k2, _⟩ := dir_keeps (L := L) (l := l) hS hp (got_len hn hR hall) (fun j hj => by
    obtain ⟨a, hak, _, e⟩ := hown j hj
    obtain ⟨g0, g1, _⟩ := hg a hak
    rw [e]
    obtain ⟨h1, h2⟩ := got_ok (L := L) hn hR ⟨g0, g1⟩
    exact ⟨g0, h2, h1⟩) (fun i j hi hj e => by
    obtain ⟨a, hak, ha, e1⟩ := hown i hi
    obtain ⟨b, hbk, hb, e2⟩ := hown j hj
    obtain ⟨_, _, g2⟩ := hg a hak
    have := g2 b hbk (by rw [← e1, ← e2]; exact e)
    omega)
  exact ⟨k1, k2⟩
theorem good_get {S : DS} {L : List (Int × List Int)} {d : Int} {k : Nat} {l : List Int} (hg : GoodD d k l) (hn : S.n = 61) (hR : Rests S fresh1) {j : Int} (hj : okD d k j = true) : (dirGetR S L d k l j).2 = 0 := by
  obtain ⟨a, _, ha, _, hak, _⟩ := okD_nat hj
  have e : ownD l j = l[a]?.getD 0 := by unfold ownD; rw [ha, Int.toNat_natCast]
  obtain ⟨g0, g1, _⟩ := hg a hak
  rw [dirGet_ok hj (by rw [e]; exact (got_ok hn hR ⟨g0, g1⟩).1)]
theorem good2 : GoodD 6 2 [3, 5] := by
  have : ∀ i : Fin 2, 0 ≤ ([3, 5] : List Int)[(i : Nat)]?.getD 0 ∧ ([3, 5] : List Int)[(i : Nat)]?.getD 0 < 30 ∧ ∀ j : Fin 2, ([3, 5] : List Int)[(i : Nat)]?.getD 0 = ([3, 5] : List Int)[(j : Nat)]?.getD 0 → i = j := by decide
  intro i hi
  obtain ⟨a, b, c⟩ := this ⟨i, hi⟩
  exact ⟨a, b, fun j hj e => congrArg Fin.val (c ⟨j, hj⟩ e)⟩
def d18 : List Int := [1, 2, 3, 4, 5, 6, 7, 8, 9, 10, 11, 12, 13, 14, 15, 16, 17, 18]
theorem good18 : GoodD 10 18 d18 := by
  have : ∀ i : Fin 18, 0 ≤ d18[(i : Nat)]?.getD 0 ∧ d18[(i : Nat)]?.getD 0 < 30 ∧ ∀ j : Fin 18, d18[(i : Nat)]?.getD 0 = d18[(j : Nat)]?.getD 0 → i = j := by decide +kernel
  intro i hi
  obtain ⟨a, b, c⟩ := this ⟨i, hi⟩
  exact ⟨a, b, fun j hj e => congrArg Fin.val (c ⟨j, hj⟩ e)⟩
theorem ok18 {j : Nat} (h : j < 1024) : okD 10 18 (j : Int) = true := by
  unfold okD
  rw [show depD 10 = 10 by decide, show needD 10 = 18 by decide]
  exact decide_eq_true ⟨by decide, ⟨by omega, by omega⟩, rfl⟩

/-- In a law: its pager, and a directory in a variable of the law's own. -/
structure KIn (D : World → (Nat → Prop) → Addr → DS → Prop) (w wr : World) (F O : Nat → Prop) (p : Addr) (S : DS) (q r b : Nat) (L : List (Int × List Int)) (g bx : Nat) (d : Int) (k : Nat) (l : List Int) : Prop where
  law : LawP D w wr F O p S q 1 r b L
  box : DBox wr bx d 0 0 0 (.slice (some ⟨g, 0, none⟩) k k)
  ri : RI wr (g + 1) (some ⟨g, 0, none⟩) k l
  nO : ¬ O bx ∧ ¬ O g
  lt : g + 1 ≤ wr.heap.size
  few : k ≤ 18

section
variable {D : World → (Nat → Prop) → Addr → DS → Prop} {w wr : World} {F O : Nat → Prop} {p : Addr} {S : DS} {q r b g bx : Nat} {L : List (Int × List Int)} {d : Int} {k : Nat} {l : List Int}
theorem KIn.get (api : DiskApi D) (h : KIn D w wr F O p S q r b L g bx d k l) (hn : S.n = 61) (hR : Rests S fresh1) (slot : Int) :
    Calls Tryd.prog 9 #[.pointer (some ⟨r, 0, none⟩), .agg #[.int .i64 d, .int .i64 0, .int .i64 0, .int .i64 0, .slice (some ⟨g, 0, none⟩) k k], .int .i64 slot] wr fun e w' => e = .returned (.tuple #[.int .i64 (dirGetR S L d k l slot).1, .int .i64 (dirGetR S L d k l slot).2]) ∧ KIn D w w' F O p S q r b L g bx d k l := by
  refine (ldirGet (cap := k) api h.law hn hR d 0 0 0 slot h.ri h.lt (Nat.le_refl _) (by have := h.few; unfold maxLen; omega)).mono ?_
  rintro e w' ⟨rfl, h1, hb⟩
  exact ⟨rfl, h1, h.box.below hb, h.ri.below (hb.mono h.lt), h.nO, Nat.le_trans h.lt hb.size, h.few⟩
theorem KIn.set (api : DiskApi D) (h : KIn D w wr F O p S q r b L g bx d k l) (hn : S.n = 61) (hR : Rests S fresh1) (slot page : Int) (hpg : -9223372036854775808 ≤ page ∧ page ≤ 9223372036854775807) :
    Calls Tryd.prog 7 #[.pointer (some ⟨r, 0, none⟩), .agg #[.int .i64 d, .int .i64 0, .int .i64 0, .int .i64 0, .slice (some ⟨g, 0, none⟩) k k], .int .i64 slot, .int .i64 page] wr fun e w' => e = .returned (.int .i64 (dirSetR S L d k l slot page).1) ∧ ∃ O', KIn D w w' F O' p S q r b (dirSetR S L d k l slot page).2 g bx d k l := by
  refine (ldirSet (cap := k) api h.law hn hR d 0 0 0 slot page hpg h.ri h.lt (Nat.le_refl _) (by have := h.few; unfold maxLen; omega)).mono ?_
  rintro e w' ⟨rfl, O', h1, ht, hO⟩
  have hbx := h.box.cells.2.2.2.2.2
  have hgl : g < wr.heap.size := by have := h.lt; omega
  refine ⟨rfl, O', h1, (ht.block bx hbx h.nO.1).trans h.box, h.ri.there (ht.block g hgl h.nO.2), ⟨fun a => ?_, fun a => ?_⟩, Nat.le_trans h.lt ht.size, h.few⟩
  · rcases hO _ a with a | a
    · exact h.nO.1 a
    · omega
  · rcases hO _ a with a | a
    · exact h.nO.2 a
    · omega

set_option maxHeartbeats 4000000 in
theorem dirAwake_any (api : DiskApi D) (w : World) (ht : Tab w ∧ 0 < w.heap.size) : Calls Tryd.prog 6 #[] w fun e w' => e = .returned (.bool true) ∧ Below w.heap.size w w' := by
  obtain ⟨_, r5, _, r7⟩ := S0_facts (n := 61) (by decide)
  have HFR := Lib.hid (fresh11_any api w ht)
  generalize S0 61 = S at *
  have hok : okD 6 2 61 = true := by decide
  obtain ⟨k1, k2⟩ := good_keeps (L := []) (slot := 61) (page := 9) good2 r5 r7 (fun y hy => by cases hy) hok (by decide)
  have HQ := Lib.hid (And.intro k1 (show dirGetR S (dirSetR S [] 6 2 [3, 5] 61 9).2 6 2 [3, 5] 61 = (9, 0) from (k2 61 hok).trans (if_pos rfl)))
  have HS := Lib.hid (And.intro r5 r7)
  have HN6 := Lib.hid (fun w => Need_any 6 w)
  have HN10 := Lib.hid (fun w => Need_any 10 w)
  rw [show needD 6 = 2 by decide] at HN6
  rw [show needD 10 = 18 by decide] at HN10
  clear k1 k2 r5 r7 hok
  go_enter Tryd.func6, Tryd.ntmps6
  go_wp2_with fail
  refine HFR.out.mono ?_
  rintro e w1 ⟨r, xr, b, q, q', F, O, G, p, xa, rfl, h1⟩
  have hOl := h1.pg.lt
  have hX : Below w1.heap.size w1 ((w1.alloc (.cells #[.int .i64 3, .int .i64 5] 3)).alloc (.cells #[.int .i64 6, .int .i64 0, .int .i64 0, .int .i64 0, .slice (some ⟨w1.heap.size, 0, none⟩) 2 2] 24)) := ((Below.refl _ _).alloc (Nat.le_refl _) _).alloc (by simp) _
  have hri := RI.lit w1 3 [3, 5] #[.int .i64 3, .int .i64 5] rfl (by decide)
  have hri2 := hri.below (((Below.refl _ _).alloc (by simp) (.cells #[.int .i64 6, .int .i64 0, .int .i64 0, .int .i64 0, .slice (some ⟨w1.heap.size, 0, none⟩) 2 2] 24)) : Below (w1.heap.size + 1) _ _)
  have hbox := DBox.new (w1.alloc (.cells #[.int .i64 3, .int .i64 5] 3)) 6 0 0 0 (.slice (some ⟨w1.heap.size, 0, none⟩) 2 2)
  have hs1 : (w1.alloc (.cells #[.int .i64 3, .int .i64 5] 3)).heap.size = w1.heap.size + 1 := by simp
  rw [hs1] at hbox
  have HK := Lib.hid (show KIn D w ((w1.alloc (.cells #[.int .i64 3, .int .i64 5] 3)).alloc (.cells #[.int .i64 6, .int .i64 0, .int .i64 0, .int .i64 0, .slice (some ⟨w1.heap.size, 0, none⟩) 2 2] 24)) F O p S q r b [] w1.heap.size (w1.heap.size + 1) 6 2 [3, 5] from ⟨h1.toLawP.later api hX, hbox, hri2, ⟨fun a => by have := hOl _ a; omega, fun a => by have := hOl _ a; omega⟩, by simp, by decide⟩)
  obtain ⟨z0, z1, z2, z3, z4, _⟩ := hbox.cells
  have HST := Lib.hid (HK.out.set api HS.out.1 HS.out.2 61 9 (by decide))
  rw [HQ.out.1] at HST
  clear h1 hOl hX hri hri2 hbox hs1 HFR
  go_wp2_with fail
  refine HST.out.mono ?_
  rintro e w2 ⟨rfl, O2, h2⟩
  have HG := Lib.hid (h2.get api HS.out.1 HS.out.2 61)
  rw [HQ.out.2] at HG
  obtain ⟨y0, y1, y2, y3, y4, _⟩ := h2.box.cells
  clear h2 HST z0 z1 z2 z3 z4
  go_wp2_with fail
  refine HG.out.mono ?_
  rintro e w3 ⟨rfl, h3⟩
  have HB := Lib.hid h3.law.bel
  clear h3 HG y0 y1 y2 y3 y4
  go_wp2_with fail
  refine (HN6.out _).mono ?_
  rintro e w4 ⟨rfl, rfl⟩
  go_wp2_with fail
  refine (Per_any _).mono ?_
  rintro e w4 ⟨rfl, rfl⟩
  go_wp2_with fail
  refine (HN10.out _).mono ?_
  rintro e w4 ⟨rfl, rfl⟩
  go_wp2
  go_ret
  exact ⟨rfl, HB.out⟩
end
end Go.Proofs.YtkpmfobmlaldfaaDoor

/-
  The program's disk answers as it is to. Conditions: those of the contracts (a list of at most 2^63 - 1 places; fewer than 2^63 - 1 writes; a sector of at most 4,096 bytes).
-/
namespace Go.Proofs.YtkpmfobmlaldfaaDoor
open Go.RowKit
set_option maxRecDepth 100000
set_option linter.unusedVariables false

theorem disk_said : ∃ D, DiskApi D := by
  refine ⟨DAt, ?_⟩
  exact {
    keep := fun w w' F p S h hk => h.keep hk
    lt := fun w F p S h => by
      obtain ⟨b, sb, fb, left, pv, sN, fN, sf, ff, rfl, hrow, hrest, harm, hok, hdom, hcnt, hFb, hlt⟩ := h
      exact hlt
    ok := fun w F p S h => by
      obtain ⟨b, sb, fb, left, pv, sN, fN, sf, ff, rfl, hrow, hrest, harm, hok, hdom, hcnt, hFb, hlt⟩ := h
      exact hok
    new := fun n w h1 h2 => by
      obtain ⟨k, rfl⟩ := Int.eq_ofNat_of_zero_le (show 0 ≤ n by omega)
      refine (new_yes k w (by omega) (by omega)).mono ?_
      rintro e w' ⟨p, rfl, F', hd, ht, hF⟩
      refine ⟨p, F', rfl, hd, ht.below (fun k h => absurd h id) (Nat.le_refl _), fun k hk => ?_⟩
      rcases hF k hk with a | a
      · exact absurd a id
      · exact a
    newNo := fun n w h => new_no n w h
    read := read_dev
    readAt := read_at
    write := fun i A n c B l w F p S h hr hc hn hw hA => write_dev i A n c B l w F p S h hr hc hn hw hA
    flush := flush_dev
    sizes := size_dev
    sizeSame := size_same }

end Go.Proofs.YtkpmfobmlaldfaaDoor

/-
  Words for the statements' list of calls: a slice of calls as it lies in memory; how the statements' opening gives it; what keeps it; a call in a block of its own. Plain facts; no condition beyond what each says.
-/
namespace Go.Proofs.YtkpmfobmlaldfaaDoor
open Go.RowKit
set_option maxRecDepth 100000
set_option linter.unusedVariables false

/-- A call of a statement's list. -/
structure Do11 where
  st : Bool
  i : Int
  b : Int

/-- How it lies in memory. -/
def Do11At (w : World) (b off : Nat) (d : Do11) : Prop :=
  w.cell? ⟨b, off, none⟩ = some (.bool d.st) ∧ w.cell? ⟨b, off + 1, none⟩ = some (.int .i64 d.i) ∧ w.cell? ⟨b, off + 2, none⟩ = some (.int .i64 d.b) ∧
  (-9223372036854775808 ≤ d.i ∧ d.i ≤ 9223372036854775807) ∧ (-9223372036854775808 ≤ d.b ∧ d.b ≤ 9223372036854775807)
/-- The slice at A of n calls reads as the list ds in w, and lies below block B. -/
def RDos11 (w : World) (B : Nat) (A : Option Addr) (n : Nat) (ds : List Do11) : Prop :=
  ds.length = n ∧ (0 < n → ∃ b off, A = some ⟨b, off, none⟩ ∧ b < B ∧ ∀ j, j < n → ∃ d, ds[j]? = some d ∧ Do11At w b (off + j * 3) d)

theorem Do11At.keep {w w' : World} {B b off : Nat} {d : Do11} (h : Do11At w b off d) (hb : b < B) (hk : ∀ b o, b < B → w'.cell? ⟨b, o, none⟩ = w.cell? ⟨b, o, none⟩) : Do11At w' b off d := by
  obtain ⟨h0, h1, h2, h3⟩ := h
  exact ⟨(hk _ _ hb).trans h0, (hk _ _ hb).trans h1, (hk _ _ hb).trans h2, h3⟩
theorem RDos11.nil_ {w : World} {B : Nat} {A : Option Addr} : RDos11 w B A 0 [] := ⟨rfl, fun h => absurd h (by omega)⟩
theorem RDos11.len {w : World} {B n : Nat} {A : Option Addr} {ds : List Do11} (h : RDos11 w B A n ds) : ds.length = n := h.1
theorem RDos11.keep {w w' : World} {B n : Nat} {A : Option Addr} {ds : List Do11} (h : RDos11 w B A n ds) (hk : ∀ b o, b < B → w'.cell? ⟨b, o, none⟩ = w.cell? ⟨b, o, none⟩) : RDos11 w' B A n ds :=
  ⟨h.1, fun hn => by
    obtain ⟨b, off, e, hb, hc⟩ := h.2 hn
    refine ⟨b, off, e, hb, fun j hj => ?_⟩
    obtain ⟨d, hd, hat⟩ := hc j hj
    exact ⟨d, hd, hat.keep hb hk⟩⟩
theorem RDos11.below {w w' : World} {B n : Nat} {A : Option Addr} {ds : List Do11} (h : RDos11 w B A n ds) (hb : Below B w w') : RDos11 w' B A n ds := h.keep fun b o hp => hb.cell (p := ⟨b, o, none⟩) hp
/-- A call in a block of its own. -/
def Do11Blk (w : World) (b : Nat) (d : Do11) : Prop := w.heap[b]? = some (.cells #[.bool d.st, .int .i64 d.i, .int .i64 d.b] 32 (0, 0))
theorem Do11Blk.cells {w : World} {b : Nat} {d : Do11} (h : Do11Blk w b d) : w.cell? ⟨b, 0, none⟩ = some (.bool d.st) ∧ w.cell? ⟨b, 1, none⟩ = some (.int .i64 d.i) ∧ w.cell? ⟨b, 2, none⟩ = some (.int .i64 d.b) ∧ b < w.heap.size := by
  refine ⟨?_, ?_, ?_, (Array.getElem?_eq_some_iff.1 h).1⟩ <;> (rw [cell_of_row w b _ _ _ (0, 0) h]; rfl)

theorem cellInt : Tryd.prog.cellsOf 3 = 1 := by kernel_rfl
theorem cellBool : Tryd.prog.cellsOf 4 = 1 := by kernel_rfl
theorem do11Cells : Tryd.prog.cellsOf 32 = 3 := by kernel_rfl
open Go.ChangeShapes Go.WideShapes Go.Deep in
theorem open_dos11 {H : Type} {enc : TypeId × Value → H} {w : World} {fuel : Nat} {cs : List Value} {x : DataW H × List MemPlace} (h : DataW.trod enc Tryd.prog w 0 (fun _ => true) true fuel 25 cs = some x) :
    cs = [.slice none 0 0] ∨ ∃ (a : Addr) (len cap : Nat) (ds : List Do11), cs = [.slice (some a) len cap] ∧ len ≤ cap ∧ cap ≤ maxLen ∧ RDos11 w w.heap.size (some a) len ds := by
  obtain ⟨fs, hfs⟩ : ∃ fs, Tryd.prog.underlying 32 = some (.struct fs) := ⟨_, Tryd.underlying32⟩
  rcases open_slice Tryd.underlying25 h with ⟨h0, _⟩ | ⟨a, len, cap, m, n, D, Pl, hcs, hb, hl, hm, hmm, hx, hi⟩
  · exact .inl h0
  · right
    have hmc : m = cap := by simpa using hmm
    have each : ∀ i, i < len → ∃ d, ∀ b off, a = ⟨b, off, none⟩ → Do11At w b (off + i * 3) d := by
      intro i hilen
      obtain ⟨cs', hc, ht'⟩ := hi i (by omega)
      rw [do11Cells] at hc
      obtain ⟨ys, n', hn', hy, hlen, hyl, hf⟩ := DataW.trod_struct Tryd.underlying32 ht'
      obtain ⟨_, hcl, hat⟩ := World.cells?_some hc
      match cs', hcl with
      | [c0, c1, c2], _ =>
        match ys, hyl with
        | [y0, y1, y2], _ =>
          have f0 : DataW.trod enc Tryd.prog w 0 (fun _ => true) true n' 4 (([c0, c1, c2].drop 0).take (Tryd.prog.cellsOf 4)) = [y0, y1, y2][0]? := hf 0 _ rfl
          rw [cellBool] at f0
          have f1 : DataW.trod enc Tryd.prog w 0 (fun _ => true) true n' 3 (([c0, c1, c2].drop 1).take (Tryd.prog.cellsOf 3)) = [y0, y1, y2][1]? := hf 1 _ rfl
          rw [cellInt] at f1
          have f2 : DataW.trod enc Tryd.prog w 0 (fun _ => true) true n' 3 (([c0, c1, c2].drop 2).take (Tryd.prog.cellsOf 3)) = [y0, y1, y2][2]? := hf 2 _ rfl
          rw [cellInt] at f2
          simp only [List.drop_zero, List.take_succ_cons, List.take_zero, List.drop_succ_cons, List.getElem?_cons_zero, List.getElem?_cons_succ] at f0 f1 f2
          obtain ⟨n0, e0, _⟩ := DataW.trod_bool Tryd.underlying4 f0
          obtain ⟨n1, e1, _, w1⟩ := DataW.trod_int Tryd.underlying3 f1
          obtain ⟨n2, e2, _, w2⟩ := DataW.trod_int Tryd.underlying3 f2
          simp only [List.cons.injEq, and_true] at e0 e1 e2
          subst e0 e1 e2
          refine ⟨⟨n0, n1, n2⟩, fun b off ha => ?_⟩
          subst ha
          have a0 := hat 0 (by decide)
          have a1 := hat 1 (by decide)
          have a2 := hat 2 (by decide)
          simp only [add_none, List.getElem?_cons_zero, List.getElem?_cons_succ, Nat.add_zero] at a0 a1 a2
          exact ⟨a0, a1, a2, int_bounds w1, int_bounds w2⟩
    obtain ⟨f, hf⟩ : ∃ f : Nat → Do11, ∀ i, i < len → ∀ b off, a = ⟨b, off, none⟩ → Do11At w b (off + i * 3) (f i) := by
      refine ⟨fun i => if h : i < len then (each i h).choose else ⟨false, 0, 0⟩, fun i hil => ?_⟩
      simp only [hil, dif_pos]
      exact (each i hil).choose_spec
    refine ⟨a, len, cap, (List.range len).map f, hcs, hl, hm, by simp, fun hn => ?_⟩
    obtain ⟨cs', hc, _⟩ := hi 0 (by omega)
    rw [do11Cells] at hc
    obtain ⟨_, hcl, hat⟩ := World.cells?_some hc
    have h0 := hat 0 (by decide)
    have hlt0 : 0 < cs'.length := by omega
    rw [List.getElem?_eq_getElem hlt0] at h0
    obtain ⟨b, off, spot⟩ := a
    have hspot : spot = none := by simpa [Addr.add] using World.cell?_spot h0
    subst hspot
    refine ⟨b, off, rfl, ?_, fun j hj => ⟨f j, by simp [hj], hf j hj b off rfl⟩⟩
    have := World.block_lt_of_cell? _ _ h0
    simpa [Addr.add] using this
end Go.Proofs.YtkpmfobmlaldfaaDoor

/-
  What a store knows of itself, as the statements' opening gives it: four ints and a slice of ints. No condition.
-/
namespace Go.Proofs.YtkpmfobmlaldfaaDoor
open Go.RowKit
set_option maxRecDepth 100000
set_option linter.unusedVariables false

/-- Such words came in. -/
structure MetaIn (w : World) (d f n c : Int) (A : Option Addr) (k cap : Nat) (l : List Int) : Prop where
  hr : RI w w.heap.size A k l
  hc : k ≤ cap
  hm : k ≤ maxLen
  hd : -9223372036854775808 ≤ d ∧ d ≤ 9223372036854775807
  hf : -9223372036854775808 ≤ f ∧ f ≤ 9223372036854775807
  hn : -9223372036854775808 ≤ n ∧ n ≤ 9223372036854775807
  hcc : -9223372036854775808 ≤ c ∧ c ≤ 9223372036854775807

theorem cellsOfInt : Tryd.prog.cellsOf 3 = 1 := by kernel_rfl
theorem cellsOfInts : Tryd.prog.cellsOf 22 = 1 := by kernel_rfl
theorem cellsOfMeta : Tryd.prog.cellsOf 24 = 5 := by kernel_rfl
open Go.ChangeShapes Go.WideShapes Go.Deep in
theorem open_meta {H : Type} {enc : TypeId × Value → H} {w : World} {fuel : Nat} {cs : List Value} {x : DataW H × List MemPlace} (h : DataW.trod enc Tryd.prog w 0 (fun _ => true) true fuel 24 cs = some x) (hcl : cs.length = 5) :
    ∃ d f n c A k cap l, cs = [.int .i64 d, .int .i64 f, .int .i64 n, .int .i64 c, .slice A k cap] ∧ MetaIn w d f n c A k cap l := by
  obtain ⟨fs, hfs⟩ : ∃ fs, Tryd.prog.underlying 24 = some (.struct fs) := ⟨_, Tryd.underlying24⟩
  obtain ⟨ys, n', hn', hy, hlen, hyl, hf⟩ := DataW.trod_struct Tryd.underlying24 h
  match cs, hcl with
  | [c0, c1, c2, c3, c4], _ =>
    match ys, hyl with
    | [y0, y1, y2, y3, y4], _ =>
      have f0 : DataW.trod enc Tryd.prog w 0 (fun _ => true) true n' 3 (([c0, c1, c2, c3, c4].drop 0).take (Tryd.prog.cellsOf 3)) = [y0, y1, y2, y3, y4][0]? := hf 0 _ rfl
      have f1 : DataW.trod enc Tryd.prog w 0 (fun _ => true) true n' 3 (([c0, c1, c2, c3, c4].drop 1).take (Tryd.prog.cellsOf 3)) = [y0, y1, y2, y3, y4][1]? := hf 1 _ rfl
      have f2 : DataW.trod enc Tryd.prog w 0 (fun _ => true) true n' 3 (([c0, c1, c2, c3, c4].drop 2).take (Tryd.prog.cellsOf 3)) = [y0, y1, y2, y3, y4][2]? := hf 2 _ rfl
      have f3 : DataW.trod enc Tryd.prog w 0 (fun _ => true) true n' 3 (([c0, c1, c2, c3, c4].drop 3).take (Tryd.prog.cellsOf 3)) = [y0, y1, y2, y3, y4][3]? := hf 3 _ rfl
      have f4 : DataW.trod enc Tryd.prog w 0 (fun _ => true) true n' 22 (([c0, c1, c2, c3, c4].drop 4).take (Tryd.prog.cellsOf 22)) = [y0, y1, y2, y3, y4][4]? := hf 4 _ rfl
      rw [cellsOfInt] at f0 f1 f2 f3
      rw [cellsOfInts] at f4
      simp only [List.drop_zero, List.take_succ_cons, List.take_zero, List.drop_succ_cons, List.getElem?_cons_zero, List.getElem?_cons_succ] at f0 f1 f2 f3 f4
      obtain ⟨n0, e0, _, w0⟩ := DataW.trod_int Tryd.underlying3 f0
      obtain ⟨n1, e1, _, w1⟩ := DataW.trod_int Tryd.underlying3 f1
      obtain ⟨n2, e2, _, w2⟩ := DataW.trod_int Tryd.underlying3 f2
      obtain ⟨n3, e3, _, w3⟩ := DataW.trod_int Tryd.underlying3 f3
      simp only [List.cons.injEq, and_true] at e0 e1 e2 e3
      subst e0 e1 e2 e3
      rcases open_ints Tryd.underlying22 Tryd.underlying3 (by kernel_rfl) f4 with ⟨hcs, _⟩ | ⟨a, l, c, zs, hcs, _, hl, hm, hz, _, hcell, hwz⟩
      · simp only [List.cons.injEq, and_true] at hcs
        subst hcs
        exact ⟨n0, n1, n2, n3, none, 0, 0, [], rfl, ⟨RI.nil_, Nat.le_refl _, Nat.zero_le _, int_bounds w0, int_bounds w1, int_bounds w2, int_bounds w3⟩⟩
      · simp only [List.cons.injEq, and_true] at hcs
        subst hcs
        exact ⟨n0, n1, n2, n3, some a, l, c, _, rfl, ⟨RI.of_cells hl (by simpa using hz) hcell hwz, hl, Nat.le_trans hl hm, int_bounds w0, int_bounds w1, int_bounds w2, int_bounds w3⟩⟩
end Go.Proofs.YtkpmfobmlaldfaaDoor
