/-
  The texts ExuB, ExuC, ExuE, ExuF joined. Conditions: those that each part says at its head.
-/
import Derived.Test.YtfbljmkjiaklfaaGreatDoorG41

/-
  A caller's own variable is stored while a change gathers steps: what the change says stands. No condition.
-/
namespace Go.Proofs.YtfbljmkjiaklfaaGreatDoor
open Go.RowKit
set_option maxRecDepth 100000
set_option linter.unusedVariables false

section
variable {w0 w w' : World} {ch st mb : Nat} {M M' : MV} {v v' sv : Value} {ns : Nat} {SL : Int → Option Int} {fs : List Value} {ss : List Stp}

theorem StepIs.fresh {B : Nat} {X : Nat → Prop} {f : Value} {s : Stp} (h : StepIs B w X ch f s) (hb : Below w.heap.size w w') : StepIs B w' (fun k => w.heap.size ≤ k ∧ k < w'.heap.size) ch f s := by
  obtain ⟨g, K, a, b, e, c0, c1, c2, ⟨x0, x1, x2⟩, hB, h⟩ := h
  have l0 : g < w.heap.size := World.block_lt_of_cell? _ _ c0
  have l1 : g + 1 < w.heap.size := World.block_lt_of_cell? _ _ c1
  have l2 : g + 2 < w.heap.size := World.block_lt_of_cell? _ _ c2
  refine ⟨g, K, a, b, e, (hb.cell (p := ⟨g, 0, none⟩) l0).trans c0, (hb.cell (p := ⟨g + 1, 0, none⟩) l1).trans c1, (hb.cell (p := ⟨g + 2, 0, none⟩) l2).trans c2, ⟨fun q => by have := q.1; omega, fun q => by have := q.1; omega, fun q => by have := q.1; omega⟩, hB, ?_⟩
  cases s with
  | lay pg l =>
    obtain ⟨h1, h2, h3, A, n, c, h4, h5, h6, h7⟩ := h
    refine ⟨h1, h2, h3, A, n, c, h4, h5, h6, (h7.below hb).1, fun ad ha hn hg => ?_⟩
    rcases hg with q | q
    · obtain ⟨b1, off, e1, hb1, _⟩ := h7.1.2.2 hn
      rw [ha] at e1
      cases e1
      have q1 : w.heap.size ≤ b1 := q.1
      omega
    · exact h7.2 ad ha hn (.inr q)
  | pt slot pg => exact h
  | fr pg nx => exact h

/-- The steps lie apart from all that is made from now on. -/
theorem Gath.avoid (h : Gath w0 w ch st mb M M' v v' sv ns SL fs ss) (hb : Below w.heap.size w w') : Avoid w0.heap.size w' (fun k => w.heap.size ≤ k ∧ k < w'.heap.size) ch fs ss := fun i f s hf hs => (h.each i f s hf hs).fresh hb

theorem Avoid.poke {B : Nat} {Y : Nat → Prop} (h : Avoid B w Y ch fs ss) {a : Addr} (ha : Y a.block) (u : Value) : Avoid B (w.setCell a u) Y ch fs ss := fun i f s hf hs => (h i f s hf hs).keep (by simp [World.setCell]) (fun k _ hn => Below.heap_setCell w a u k (fun e => hn (e ▸ ha))) (fun _ _ h => h)

/-- A variable that the change does not own was stored. -/
theorem Gath.poke (h : Gath w0 w ch st mb M M' v v' sv ns SL fs ss) {Y : Nat → Prop} (hY : Avoid w0.heap.size w Y ch fs ss) {a : Addr} (ha : Y a.block) (hn : ¬ GX ch mb v' sv a.block) (h0 : w0.heap.size ≤ a.block) (u : Value) : Gath w0 (w.setCell a u) ch st mb M M' v v' sv ns SL fs ss := by
  have hk : ∀ k, k ≠ a.block → (w.setCell a u).heap[k]? = w.heap[k]? := fun k hk => Below.heap_setCell w a u k hk
  have hx : ∀ k, GX ch mb v' sv k → k ≠ a.block := fun k hk e => hn (e ▸ hk)
  have hsz : (w.setCell a u).heap.size = w.heap.size := by simp [World.setCell]
  exact ⟨(hk ch (hx ch (.inl rfl))).trans h.at_, h.chn, h.mbn, h.cm, h.was, gown_stays h.will (fun g hg => hk g (hx g (.inr (.inr (.inl hg))))), h.ints, h.few, gown_stays h.row (fun g hg => hk g (hx g (.inr (.inr (.inr hg))))), h.many, h.len, fun i f s hf hs => ((h.each i f s hf hs).both (hY i f s hf hs)).keep (by rw [hsz]; exact Nat.le_refl _) (fun k _ hn' => hk k (fun e => hn' (.inr (e ▸ ha)))) (fun k _ hn' hy => hn' (.inl hy)), h.mp.of_block (hk mb (hx mb (.inr (.inl rfl)))), h.vch, h.sch, h.vs, h.bel.setCell h0 _⟩
theorem Went.poke {B Z : Nat} {v1 sv1 : Value} {fs1 : List Value} {ss1 : List Stp} {w1 : World} (h : Went B Z ch mb v' sv v1 sv1 fs fs1 ss ss1 w w1) {Yb : Nat → Prop} (hYb : Avoid B w1 Yb ch fs1 ss1) {a : Addr} (hya : Yb a.block) (ha : w.heap.size ≤ a.block) (u : Value) : Went B Z ch mb v' sv v1 sv1 fs fs1 ss ss1 w (w1.setCell a u) :=
  ⟨⟨h.touch.os, h.touch.tape, h.touch.output, by simpa [World.setCell] using h.touch.size, fun k hk hn => (Below.heap_setCell w1 a u k (by omega)).trans (h.touch.block k hk hn)⟩, h.own, fun Y hY hav i f s hf hs => ((h.steps Y hY hav i f s hf hs).both (hYb i f s hf hs)).keep (by simp [World.setCell]) (fun k _ hn => Below.heap_setCell w1 a u k (fun e => hn (.inr (e ▸ hya)))) (fun k _ hn hy => hn (.inl hy))⟩
end
end Go.Proofs.YtfbljmkjiaklfaaGreatDoor

/-
  A pair comes into a new bucket behind the last one of a chain: contract of follow. Conditions: numbers and lengths are ints; the page is taken; fewer than 4,000,000 steps.
-/
namespace Go.Proofs.YtfbljmkjiaklfaaGreatDoor
open Go.RowKit
set_option maxRecDepth 100000
set_option linter.unusedVariables false

section
variable {D : World → (Nat → Prop) → Addr → DS → Prop} {w0 w w' : World} {F O : Nat → Prop} {p : Addr} {S : DS} {q r b st ch mb : Nat} {seq : Int} {L : List (Int × List Int)} {M M' : MV} {v v' sv : Value} {ns : Nat} {SL : Int → Option Int} {fs : List Value} {ss : List Stp}

set_option maxHeartbeats 1600000 in
theorem follow_g (api : DiskApi D) (hS : SAt D w0 F O p S q seq r b st L) (h : Gath w0 w ch st mb M M' v v' sv ns SL fs ss) {G : Nat → Prop} (hG : ∀ k, G k → k < w.heap.size) (hGX : ∀ k, GX ch mb v' sv k → G k) {l : Leaf} {A ka va : Option Addr} {n c kn kc vn vc : Nat} {x : KV} (hnc : n ≤ c ∧ n ≤ maxLen) (hst : Stays w G A n l.ps) (hk : BIn w G ka kn x.1) (hv : BIn w G va vn x.2) (hkc : kn ≤ kc ∧ kn ≤ maxLen) (hvc : vn ≤ vc ∧ vn ≤ maxLen)
    (hn : 0 ≤ M'.n ∧ M'.n < 4611686018427387904) (hf : -9223372036854775808 ≤ M'.f ∧ M'.f ≤ 9223372036854775807) {pg : Int} {M2 : MV} (ht : TakeIs S L M' pg M2) (hpg : -9223372036854775808 ≤ pg ∧ pg ≤ 9223372036854775807) (hlpg : -9223372036854775808 ≤ l.pg ∧ l.pg ≤ 9223372036854775807) (hd : -9223372036854775808 ≤ l.d ∧ l.d ≤ 9223372036854775807) (hmay1 : mayBk ⟨l.d, pg, l.ps⟩ = true) (hmay2 : mayBk ⟨l.d, 0, [x]⟩ = true) (hm : fs.length + 2 ≤ 4000000) :
    Calls Tryz.prog 168 #[.pointer (some ⟨ch, 0, none⟩), .agg #[.int .i64 l.pg, .int .i64 l.d, .int .i64 l.x, .slice A n c], .agg #[.slice ka kn kc, .slice va vn vc]] w fun e w' => e = .returned (.int .i64 0) ∧ ∃ sv2 fs2, Gath w0 w' ch st mb M M2 v v' sv2 ns SL fs2 (ss ++ [.lay l.pg (pageBk ⟨l.d, pg, l.ps⟩)] ++ [.lay pg (pageBk ⟨l.d, 0, [x]⟩)]) ∧ fs2.length = fs.length + 2 ∧ Went w0.heap.size w.heap.size ch mb v' sv v' sv2 fs fs2 ss (ss ++ [.lay l.pg (pageBk ⟨l.d, pg, l.ps⟩)] ++ [.lay pg (pageBk ⟨l.d, 0, [x]⟩)]) w w' := by
  obtain ⟨lpg, ld, lx, ps⟩ := l
  simp only at hst hlpg hd hmay1 hmay2 ⊢
  have hX : Below w.heap.size w ((w.alloc (.cells #[.int .i64 lpg, .int .i64 ld, .int .i64 lx, .slice A n c] 85)).alloc (.cells #[.slice ka kn kc, .slice va vn vc] 88)) := ((Below.refl _ _).alloc (Nat.le_refl _) _).alloc (by simp) _
  have hb0 : ((w.alloc (.cells #[.int .i64 lpg, .int .i64 ld, .int .i64 lx, .slice A n c] 85)).alloc (.cells #[.slice ka kn kc, .slice va vn vc] 88)).heap[w.heap.size]? = some (.cells #[.int .i64 lpg, .int .i64 ld, .int .i64 lx, .slice A n c] 85 (0, 0)) := (Below.heap_alloc _ _ w.heap.size (by simp)).trans (heap_alloc_new _ _)
  have hb1 : ((w.alloc (.cells #[.int .i64 lpg, .int .i64 ld, .int .i64 lx, .slice A n c] 85)).alloc (.cells #[.slice ka kn kc, .slice va vn vc] 88)).heap[w.heap.size + 1]? = some (.cells #[.slice ka kn kc, .slice va vn vc] 88 (0, 0)) := by
    have := heap_alloc_new (w.alloc (.cells #[.int .i64 lpg, .int .i64 ld, .int .i64 lx, .slice A n c] 85)) (.cells #[.slice ka kn kc, .slice va vn vc] 88)
    simpa using this
  have hsX : ((w.alloc (.cells #[.int .i64 lpg, .int .i64 ld, .int .i64 lx, .slice A n c] 85)).alloc (.cells #[.slice ka kn kc, .slice va vn vc] 88)).heap.size = w.heap.size + 2 := by simp
  have HTK := Lib.hid (take_g api hS (h.keep hX) hn hf ht)
  have HAV := Lib.hid (h.avoid hX)
  have HH := Lib.hid h
  have HX := Lib.hid hX
  have HB0 := Lib.hid hb0
  have HB1 := Lib.hid hb1
  have HST := Lib.hid hst
  have HK := Lib.hid hk
  have HV := Lib.hid hv
  have HGS := Lib.hid hG
  have HGX := Lib.hid hGX
  have HLT := Lib.hid h.lt
  clear h hX hb0 hb1 hst hk hv hG hGX ht
  go_enter Tryz.func168, Tryz.ntmps168
  go_wp2_with fail
  generalize (w.alloc (.cells #[.int .i64 lpg, .int .i64 ld, .int .i64 lx, .slice A n c] 85)).alloc (.cells #[.slice ka kn kc, .slice va vn vc] 88) = W0 at *
  refine HTK.out.mono ?_
  rintro e w1 ⟨rfl, hg1, hw1⟩
  have hbs := HH.out.bel.size
  have hn0 : ¬ GX ch mb v' sv w.heap.size := fun e => by have := (HLT.out _ e).2; omega
  have hn1 : ¬ GX ch mb v' sv (w.heap.size + 1) := fun e => by have := (HLT.out _ e).2; omega
  have hav1 : Avoid w0.heap.size w1 (fun k => w.heap.size ≤ k ∧ k < W0.heap.size) ch fs ss := hw1.steps _ (fun k hk => hk.2) HAV.out
  have hb01 := (hw1.touch.block w.heap.size (by omega) hn0).trans HB0.out
  have hb11 := (hw1.touch.block (w.heap.size + 1) (by omega) hn1).trans HB1.out
  have hg1' := hg1.poke hav1 (a := ⟨w.heap.size, 2, none⟩) ⟨Nat.le_refl _, by show w.heap.size < W0.heap.size; omega⟩ hn0 hbs (.int .i64 pg)
  have hw1' := ((Went.below HX.out).trans (hw1.mono HX.out.size)).poke hav1 (a := ⟨w.heap.size, 2, none⟩) ⟨Nat.le_refl _, by show w.heap.size < W0.heap.size; omega⟩ (Nat.le_refl _) (.int .i64 pg)
  have hb0' := heap_setCell_same w1 w.heap.size 2 _ _ (.int .i64 pg) hb01
  have hb1' := (Below.heap_setCell w1 ⟨w.heap.size, 2, none⟩ (.int .i64 pg) (w.heap.size + 1) (by show w.heap.size + 1 ≠ w.heap.size; omega)).trans hb11
  simp at hb0'
  have hst1 : Stays (w1.setCell ⟨w.heap.size, 2, none⟩ (.int .i64 pg)) G A n ps := HST.out.later hw1'.touch.size (fun k hk hn' => hw1'.touch.block k hk (fun e => hn' (HGX.out k e)))
  have HKP := Lib.hid (keep_g hg1' (G := G) (lf := .agg #[.int .i64 lpg, .int .i64 ld, .int .i64 pg, .slice A n c]) (l := ⟨lpg, ld, pg, ps⟩) ⟨A, n, c, rfl, hnc.1, hnc.2, hst1⟩ hlpg hd hpg hmay1 (by omega))
  obtain ⟨z0, z1, z2, z3, fz, _⟩ := cells_four hb01
  obtain ⟨y0, y1, y2, y3, _, _⟩ := cells_four hb0'
  have f2 := fz 2
  have HW1 := Lib.hid hw1'
  have HBA := Lib.hid (And.intro hb0' hb1')
  clear hg1 hw1 hav1 hb01 hb11 hg1' hw1' hb0' hb1' hst1 HTK fz
  go_wp2_with fail
  refine HKP.out.mono ?_
  rintro e w2 ⟨rfl, sv2, f2, hg2, hw2⟩
  have hsz1 : W0.heap.size ≤ (w1.setCell ⟨w.heap.size, 2, none⟩ (.int .i64 pg)).heap.size := by
    have := (Array.getElem?_eq_some_iff.1 HBA.out.2).1
    omega
  have hbx := (hw2.touch.block w.heap.size (by omega) hn0).trans HBA.out.1
  have hby := (hw2.touch.block (w.heap.size + 1) (by omega) hn1).trans HBA.out.2
  obtain ⟨x0, x1, x2, x3, _, _⟩ := cells_four hbx
  have p0 : w2.cell? ⟨w.heap.size + 1, 0, none⟩ = some (.slice ka kn kc) := by rw [cell_of_row _ (w.heap.size + 1) 0 _ _ (0, 0) hby]; rfl
  have p1 : w2.cell? ⟨w.heap.size + 1, 1, none⟩ = some (.slice va vn vc) := by rw [cell_of_row _ (w.heap.size + 1) 1 _ _ (0, 0) hby]; rfl
  have hw02 := HW1.out.trans (hw2.mono HW1.out.touch.size)
  have hal : Below w2.heap.size w2 (w2.alloc (.cells #[.int .i64 pg, .int .i64 ld, .int .i64 0, .slice none 0 0] 85)) := (Below.refl _ _).alloc (Nat.le_refl _) _
  have hw03 : Went w0.heap.size w.heap.size ch mb v' sv v' sv2 fs (fs ++ [f2]) ss (ss ++ [.lay lpg (pageBk ⟨ld, pg, ps⟩)]) w (w2.alloc (.cells #[.int .i64 pg, .int .i64 ld, .int .i64 0, .slice none 0 0] 85)) := hw02.trans (Went.below hal)
  have hkept : ∀ k, k < w.heap.size → ¬ G k → (w2.alloc (.cells #[.int .i64 pg, .int .i64 ld, .int .i64 0, .slice none 0 0] 85)).heap[k]? = w.heap[k]? := fun k hk hn' => hw03.touch.block k hk (fun e => hn' (HGX.out k e))
  have HWITH := Lib.hid (with_any (w := w2.alloc (.cells #[.int .i64 pg, .int .i64 ld, .int .i64 0, .slice none 0 0] 85)) (G := G) (l := ⟨pg, ld, 0, []⟩) (A := none) (n := 0) (c := 0) (x := x) (Nat.le_refl 0) (Stays.none_ _ _) (fun k hk => Nat.lt_of_lt_of_le (HGS.out k hk) hw03.touch.size) (HK.out.grow hw03.touch.size hkept (fun _ _ h => h)) (HV.out.grow hw03.touch.size hkept (fun _ _ h => h)) hkc hvc (by decide))
  have q0 := (hal.cell (p := ⟨w.heap.size + 1, 0, none⟩) (World.block_lt_of_cell? _ _ p0)).trans p0
  have q1 := (hal.cell (p := ⟨w.heap.size + 1, 1, none⟩) (World.block_lt_of_cell? _ _ p1)).trans p1
  have HW3 := Lib.hid hw03
  have HG3 := Lib.hid (hg2.keep hal)
  clear hg2 hw2 hbx hby hsz1 HKP HBA y0 y1 y2 y3 z0 z1 z2 z3 hw02 hw03 hkept hal p0 p1
  go_wp2_with fail
  refine HWITH.out.mono ?_
  rintro e w4 ⟨lv, rfl, hlv, hb4⟩
  have HKP2 := Lib.hid (keep_g (HG3.out.keep hb4) (l := ⟨pg, ld, 0, [] ++ [x]⟩) hlv hpg hd (by show -9223372036854775808 ≤ (0 : Int) ∧ (0 : Int) ≤ 9223372036854775807; decide) hmay2 (by simp; omega))
  have HW4 := Lib.hid (HW3.out.trans (Went.below hb4))
  clear hlv hb4 HWITH
  go_wp2_with fail
  refine HKP2.out.mono ?_
  rintro e w5 ⟨rfl, sv3, f3, hg5, hw5⟩
  have HE := Lib.hid (And.intro hg5 (HW4.out.trans (hw5.mono HW4.out.touch.size)))
  clear hg5 hw5 HKP2
  go_wp2
  go_ret
  exact ⟨rfl, sv3, _, HE.out.1, by simp, HE.out.2⟩
end
end Go.Proofs.YtfbljmkjiaklfaaGreatDoor

/-
  A pair comes into the first bucket of a chain that has room for it: contract of add where there is one. Conditions: numbers and lengths are ints; fewer than 4,000,000 steps.
-/
namespace Go.Proofs.YtfbljmkjiaklfaaGreatDoor
open Go.RowKit
set_option maxRecDepth 100000
set_option linter.unusedVariables false

section
variable {D : World → (Nat → Prop) → Addr → DS → Prop} {w0 w w' : World} {F O : Nat → Prop} {p : Addr} {S : DS} {q r b st ch mb : Nat} {seq : Int} {L : List (Int × List Int)} {M M' : MV} {v v' sv : Value} {ns : Nat} {SL : Int → Option Int} {fs : List Value} {ss : List Stp}

/-- A bucket of a chain, read where the chain lies, in a later world. -/
theorem ChainAt.leaf {wc w wr : World} {A : Option Addr} {n c : Nat} {ls : List Leaf} (h : ChainAt wc w (.slice A n c) ls) {j : Nat} {y : Leaf} (hy : ls[j]? = some y) (hb : Below w.heap.size w wr) :
    ∃ g A' n' c', A = some ⟨g, 0, none⟩ ∧ g < w.heap.size ∧ wc.heap.size ≤ g ∧ wr.cell? ⟨g, j * 4, none⟩ = some (.int .i64 y.pg) ∧ wr.cell? ⟨g, j * 4 + 1, none⟩ = some (.int .i64 y.d) ∧ wr.cell? ⟨g, j * 4 + 2, none⟩ = some (.int .i64 y.x) ∧ wr.cell? ⟨g, j * 4 + 3, none⟩ = some (.slice A' n' c') ∧ n' ≤ c' ∧ n' ≤ maxLen ∧ Stays wr (fun k => k < wc.heap.size ∨ k = g) A' n' y.ps ∧ n = ls.length := by
  obtain ⟨hnl, hc, hrd⟩ := h.read
  have hj := (List.getElem?_eq_some_iff.1 hy).1
  obtain ⟨g, e, hg, hwg, _, hat⟩ := hrd (by omega)
  obtain ⟨A', n', c', c0, c1, c2, c3, h1, h2, h3⟩ := hat j y hy
  exact ⟨g, A', n', c', e, hg, hwg, (hb.cell (p := ⟨g, j * 4, none⟩) hg).trans c0, (hb.cell (p := ⟨g, j * 4 + 1, none⟩) hg).trans c1, (hb.cell (p := ⟨g, j * 4 + 2, none⟩) hg).trans c2, (hb.cell (p := ⟨g, j * 4 + 3, none⟩) hg).trans c3, h1, h2, h3.below hb, hnl⟩

set_option maxHeartbeats 3200000 in
theorem add_fit (h : Gath w0 w ch st mb M M' v v' sv ns SL fs ss) {wc : World} (hGX : ∀ k, GX ch mb v' sv k → k < wc.heap.size) {A ka va : Option Addr} {n c kn kc vn vc : Nat} {ls : List Leaf} (hch : ChainAt wc w (.slice A n c) ls) (hnl : n ≤ 4294967296) {x : KV} (hk : BIn w (GX ch mb v' sv) ka kn x.1) (hv : BIn w (GX ch mb v' sv) va vn x.2) (hkc : kn ≤ kc ∧ kn ≤ maxLen) (hvc : vn ≤ vc ∧ vn ≤ maxLen)
    {m : Nat} {l : Leaf} (hml : ls[m]? = some l) (hfit : 8 + szP (l.ps ++ [x]) ≤ 240) (hnot : ∀ (j : Nat) (y : Leaf), j < m → ls[j]? = some y → ¬ 8 + szP (y.ps ++ [x]) ≤ 240) (hsz : ∀ (j : Nat) (y : Leaf), ls[j]? = some y → szP (y.ps ++ [x]) ≤ 4611686018427387904 ∧ y.ps.length ≤ 4294967295)
    (hlpg : -9223372036854775808 ≤ l.pg ∧ l.pg ≤ 9223372036854775807) (hd : -9223372036854775808 ≤ l.d ∧ l.d ≤ 9223372036854775807) (hx : -9223372036854775808 ≤ l.x ∧ l.x ≤ 9223372036854775807) (hmay : mayBk ⟨l.d, l.x, l.ps ++ [x]⟩ = true) (hmm : fs.length + 1 ≤ 4000000) :
    Calls Tryz.prog 107 #[.pointer (some ⟨ch, 0, none⟩), .slice A n c, .agg #[.slice ka kn kc, .slice va vn vc]] w fun e w' => e = .returned (.int .i64 0) ∧ ∃ sv2 f, Gath w0 w' ch st mb M M' v v' sv2 ns SL (fs ++ [f]) (ss ++ [.lay l.pg (pageBk ⟨l.d, l.x, l.ps ++ [x]⟩)]) ∧ Went w0.heap.size w.heap.size ch mb v' sv v' sv2 fs (fs ++ [f]) ss (ss ++ [.lay l.pg (pageBk ⟨l.d, l.x, l.ps ++ [x]⟩)]) w w' := by
  obtain ⟨w1, hw1⟩ : ∃ w1, w1 = w.alloc (.cells #[.slice ka kn kc, .slice va vn vc] 88) := ⟨_, rfl⟩
  have hb1 : Below w.heap.size w w1 := by rw [hw1]; exact (Below.refl _ _).alloc (Nat.le_refl _) _
  have hs1 : w1.heap.size = w.heap.size + 1 := by rw [hw1]; simp
  have hp1 : w1.heap[w.heap.size]? = some (.cells #[.slice ka kn kc, .slice va vn vc] 88 (0, 0)) := by rw [hw1]; exact heap_alloc_new _ _
  have HC := Lib.hid hch
  have HG := Lib.hid h
  have HK := Lib.hid hk
  have HV := Lib.hid hv
  have HB1 := Lib.hid hb1
  have HP1 := Lib.hid hp1
  have HLT := Lib.hid h.lt
  have HNOT := Lib.hid hnot
  have HSZ := Lib.hid hsz
  have HML := Lib.hid hml
  have HF := Lib.hid hfit
  have hnm : n = ls.length ∧ m < n := by
    obtain ⟨_, _, _, _, _, _, _, _, _, _, _, _, _, _, e⟩ := hch.leaf hml (Below.refl _ _)
    exact ⟨e, by rw [e]; exact (List.getElem?_eq_some_iff.1 hml).1⟩
  have hmn := hnm.2
  have HNL := Lib.hid hnm.1
  have HGX := Lib.hid hGX
  clear hch h hk hv hb1 hp1 hnot hsz hml hfit hnm hGX
  go_enter Tryz.func107, Tryz.ntmps107
  go_wp2_with fail
  rw [← hw1]
  clear hw1
  go_loopw [1] (fun u wr => u = .slice A n c ∧ w1 = wr) (fun _ _ => 1)
  case atStart => exact ⟨rfl, rfl⟩
  case round =>
    obtain ⟨rfl, rfl⟩ := hrel
    go_wp2_with fail
    go_loopw [13] (fun i wr => ∃ j : Nat, j ≤ m ∧ i = .int .i64 j ∧ Hid (Below w1.heap.size w1 wr)) (fun i _ => m + 1 - (intOf i).toNat)
    case atStart => exact ⟨0, Nat.zero_le _, rfl, Lib.hid (Below.refl _ _)⟩
    case round =>
      obtain ⟨j, hj, rfl, hbw⟩ := hrel
      have hjn : j < n := by omega
      have hjn' : (j : Int) < (n : Int) := by omega
      obtain ⟨y, hy⟩ : ∃ y, ls[j]? = some y := ⟨_, List.getElem?_eq_getElem (by rw [← HNL.out]; exact hjn)⟩
      have hbw0 : Below w.heap.size w wr := HB1.out.trans (hbw.out.mono HB1.out.size)
      obtain ⟨g, A', n', c', rfl, hg, hwg, c0, c1, c2, c3, hc', hn', hst, hnls⟩ := HC.out.leaf hy hbw0
      clear hnls
      obtain ⟨hsz1, hsz2⟩ := HSZ.out j y hy
      have hdo : (j = m ∧ y = l) ∨ (j < m ∧ ¬ 8 + szP (y.ps ++ [x]) ≤ 240) := by
        rcases Nat.lt_or_ge j m with q | q
        · exact .inr ⟨q, HNOT.out j y q hy⟩
        · obtain rfl : j = m := by omega
          have := HML.out
          rw [hy] at this
          exact .inl ⟨rfl, Option.some.inj this⟩
      have HDO := Lib.hid hdo
      obtain ⟨ypg, yd, yx, yps⟩ := y
      simp only at c0 c1 c2 hst hsz1 hsz2
      have hn2 : n' ≤ 4294967296 := by have := hst.now.1; omega
      obtain ⟨w2, hw2⟩ : ∃ w2, w2 = wr.alloc (.cells #[.int .i64 ypg, .int .i64 yd, .int .i64 yx, .slice A' n' c'] 85) := ⟨_, rfl⟩
      have hba : Below wr.heap.size wr w2 := by rw [hw2]; exact (Below.refl _ _).alloc (Nat.le_refl _) _
      have hz2 : w2.heap.size = wr.heap.size + 1 := by rw [hw2]; simp
      have hbx : w2.heap[wr.heap.size]? = some (.cells #[.int .i64 ypg, .int .i64 yd, .int .i64 yx, .slice A' n' c'] 85 (0, 0)) := by rw [hw2]; exact heap_alloc_new _ _
      have hX2 : Below w.heap.size w w2 := hbw0.trans (hba.mono hbw0.size)
      have hsw := hbw0.size
      have hsw1 := hbw.out.size
      have hpx : w2.heap[w.heap.size]? = some (.cells #[.slice ka kn kc, .slice va vn vc] 88 (0, 0)) := (hba.block _ (by omega)).trans ((hbw.out.block _ (by omega)).trans HP1.out)
      obtain ⟨z0, z1, z2, z3, _, _⟩ := cells_four hbx
      have p0 : w2.cell? ⟨w.heap.size, 0, none⟩ = some (.slice ka kn kc) := by rw [cell_of_row _ _ 0 _ _ (0, 0) hpx]; rfl
      have p1 : w2.cell? ⟨w.heap.size, 1, none⟩ = some (.slice va vn vc) := by rw [cell_of_row _ _ 1 _ _ (0, 0) hpx]; rfl
      have hst2 : Stays w2 (fun k => GX ch mb v' sv k ∨ k = wr.heap.size) A' n' yps := hst.grow hba.size (fun k hk _ => hba.block k hk) (fun k hk hn hg2 => by
        rcases hg2 with e | e
        · exact hn (.inl (HGX.out k e))
        · omega)
      have hin : ∀ k, k < w.heap.size → ¬ GX ch mb v' sv k → ¬ (GX ch mb v' sv k ∨ k = wr.heap.size) := fun k hk hn hg2 => by
        rcases hg2 with e | e
        · exact hn e
        · omega
      have hk2 := HK.out.grow (G' := fun k => GX ch mb v' sv k ∨ k = wr.heap.size) hX2.size (fun k hk _ => hX2.block k hk) hin
      have hv2 := HV.out.grow (G' := fun k => GX ch mb v' sv k ∨ k = wr.heap.size) hX2.size (fun k hk _ => hX2.block k hk) hin
      have HWITH := Lib.hid (with_any (l := ⟨ypg, yd, yx, yps⟩) hc' hst2 (fun k hk => by
        rcases hk with e | e
        · have := (HLT.out k e).2; omega
        · omega) hk2 hv2 hkc hvc hn2)
      have HX2 := Lib.hid hX2
      have HBX := Lib.hid hbx
      have HZ := Lib.hid (And.intro hz2 (And.intro hsw1 hbw.out))
      have HSZ1 := Lib.hid hsz1
      have HBA := Lib.hid hba
      clear hy hdo hst hst2 hk2 hv2 hin hba hbx hX2 hpx hbw0 hsz1 hsz2 hbw
      have p0' := p0
      have p1' := p1
      rw [hw2] at p0' p1'
      go_wp2_with fail
      rw [← hw2]
      clear hw2 p0' p1'
      refine HWITH.out.mono ?_
      rintro e w3 ⟨lv, rfl, ⟨A3, n3, c3, rfl, hc3, hn3, hst3⟩, hb3⟩
      simp only at hst3
      have hbx3 := (hb3.block wr.heap.size (by have := HZ.out.1; omega)).trans HBX.out
      obtain ⟨_, _, _, _, fz, _⟩ := cells_four hbx3
      have f0 := fz 0
      have f1 := fz 1
      have f2 := fz 2
      have f3 := fz 3
      obtain ⟨w4, hw4⟩ : ∃ w4, w4 = ((((w3.setCell ⟨wr.heap.size, 0, none⟩ (.int .i64 ypg)).setCell ⟨wr.heap.size, 1, none⟩ (.int .i64 yd)).setCell ⟨wr.heap.size, 2, none⟩ (.int .i64 yx)).setCell ⟨wr.heap.size, 3, none⟩ (.slice A3 n3 c3)) := ⟨_, rfl⟩
      have hb4 : Below w.heap.size w w4 := by rw [hw4]; exact below_four (HX2.out.trans (hb3.mono HX2.out.size)) hsw _ _ _ _
      have hbx4 : w4.heap[wr.heap.size]? = some (.cells #[.int .i64 ypg, .int .i64 yd, .int .i64 yx, .slice A3 n3 c3] 85 (0, 0)) := by rw [hw4]; exact box_four hbx3 _ _ _ _
      have hst4 : Stays w4 (fun k => GX ch mb v' sv k ∨ k = wr.heap.size) A3 n3 (yps ++ [x]) := by
        rw [hw4]
        exact (((hst3.setCell (p := ⟨wr.heap.size, 0, none⟩) (.inr rfl) _).setCell (p := ⟨wr.heap.size, 1, none⟩) (.inr rfl) _).setCell (p := ⟨wr.heap.size, 2, none⟩) (.inr rfl) _).setCell (p := ⟨wr.heap.size, 3, none⟩) (.inr rfl) _
      have hb14 : Below w1.heap.size w1 w4 := by
        rw [hw4]
        exact below_four (HZ.out.2.2.trans ((HBA.out.trans (hb3.mono HBA.out.size)).mono HZ.out.2.1)) HZ.out.2.1 _ _ _ _
      obtain ⟨y0, y1, y2, y3, _, _⟩ := cells_four hbx4
      have HFIT := Lib.hid (fits_any (c := c3) (l := ⟨ypg, yd, yx, yps ++ [x]⟩) hst4 hn3 HSZ1.out)
      have H4 := Lib.hid (And.intro hb4 (And.intro hb14 (And.intro hst4 hbx4)))
      rw [hw4] at y0 y1 y2 y3
      clear hb3 hbx3 fz hst3 hb4 hb14 hbx4 hst4 z0 z1 z2 z3 p0 p1
      go_wp2_with fail
      rw [← hw4]
      clear hw4 y0 y1 y2 y3 f0 f1 f2 f3
      refine HFIT.out.mono ?_
      rintro e w5 ⟨rfl, hb5⟩
      obtain ⟨k4, k14, kst, kbx⟩ := H4.out
      have hb05 := k4.trans (hb5.mono k4.size)
      have hbx5 := (hb5.block wr.heap.size (Array.getElem?_eq_some_iff.1 kbx).1).trans kbx
      obtain ⟨y0, y1, y2, y3, _, _⟩ := cells_four hbx5
      rcases HDO.out with ⟨rfl, e⟩ | ⟨hjm, e⟩
      · obtain ⟨rfl, rfl, rfl, rfl⟩ : ypg = l.pg ∧ yd = l.d ∧ yx = l.x ∧ yps = l.ps := by rw [← e]; exact ⟨rfl, rfl, rfl, rfl⟩
        have hft : decide (8 + szP (l.ps ++ [x]) ≤ 240) = true := decide_eq_true HF.out
        rw [show decide (8 + szP (⟨l.pg, l.d, l.x, l.ps ++ [x]⟩ : Leaf).ps ≤ 240) = true from hft]
        have HKP := Lib.hid (keep_g (HG.out.keep hb05) (l := ⟨l.pg, l.d, l.x, l.ps ++ [x]⟩) ⟨A3, n3, c3, rfl, hc3, hn3, kst.below hb5⟩ hlpg hd hx hmay hmm)
        have HB5 := Lib.hid hb05
        clear e hft k4 k14 kst kbx hb05 hbx5 hb5 HWITH HFIT H4
        go_wp2_with fail
        refine HKP.out.mono ?_
        rintro e w6 ⟨rfl, sv2, f, hg6, hw6⟩
        have HE := Lib.hid (And.intro hg6 ((Went.below HB5.out).trans (hw6.mono HB5.out.size)))
        clear hg6 hw6 HKP
        go_wp2_with fail
        go_ret
        exact ⟨rfl, sv2, f, HE.out.1, HE.out.2⟩
      · have hff : decide (8 + szP (yps ++ [x]) ≤ 240) = false := decide_eq_false e
        rw [show decide (8 + szP (⟨ypg, yd, yx, yps ++ [x]⟩ : Leaf).ps ≤ 240) = false from hff]
        have HE := Lib.hid (k14.trans (hb5.mono k14.size))
        clear e hff k4 k14 kst kbx hb05 hbx5 hb5 HWITH HFIT H4 y0 y1 y2 y3
        go_wp2_with fail
        go_roundw
        case rel => exact ⟨j + 1, by omega, by go_num, HE⟩
        case measure => simp [intOf]; omega
end
end Go.Proofs.YtfbljmkjiaklfaaGreatDoor

/-
  A key that is not there comes into a bucket that has room for it: contract of the change's put. Conditions: numbers and lengths are ints; fewer than 4,000,000 steps.
-/
namespace Go.Proofs.YtfbljmkjiaklfaaGreatDoor
open Go.RowKit
set_option maxRecDepth 100000
set_option linter.unusedVariables false

section
variable {D : World → (Nat → Prop) → Addr → DS → Prop} {w0 w w' : World} {F O : Nat → Prop} {p : Addr} {S : DS} {q r b st ch mb : Nat} {seq : Int} {L : List (Int × List Int)} {M M' : MV} {v v' sv : Value} {ns : Nat} {SL : Int → Option Int} {fs : List Value} {ss : List Stp}

/-- Where a key's chain is. -/
structure ChainIs (S : DS) (L : List (Int × List Int)) (M : MV) (key : List Int) (pg : Int) (ls : List Leaf) : Prop where
  dir : dirGetR S L M.d M.l.length M.l ((slotN (hashL key) (heldD M.d) : Nat) : Int) = (pg, 0)
  ok : ChainOk S L M.d pg ls
  few : (ls.length : Int) ≤ pagesOf S.n
  all : pagesOf S.n ≤ 4294967296

theorem ChainAt.poke {wc w : World} {u : Value} {ls : List Leaf} (h : ChainAt wc w u ls) {a : Addr} (ha : a.block < wc.heap.size) (z : Value) : ChainAt wc (w.setCell a z) u ls :=
  GRow.keep (R := LeafR) leafR_kept h (by simp [World.setCell]) (fun _ _ h => h) (fun k _ hn => Below.heap_setCell w a z k (fun e => hn (.inl (by omega)))) (fun r hr => ⟨Below.heap_setCell w a z r (fun e => by have := (h.at_ r hr).1; omega), .inr hr⟩)

set_option maxHeartbeats 3200000 in
theorem put_new (api : DiskApi D) (hS : SAt D w0 F O p S q seq r b st L) (h : Gath w0 w ch st mb M M' v v' sv ns SL fs ss) {ka va : Option Addr} {kn kc vn vc : Nat} {x : KV} (hk : BIn w (GX ch mb v' sv) ka kn x.1) (hv : BIn w (GX ch mb v' sv) va vn x.2) (hkc : kn ≤ kc ∧ kn ≤ maxLen) (hvc : vn ≤ vc ∧ vn ≤ maxLen)
    {pg : Int} {ls : List Leaf} (hc : ChainIs S L M' x.1 pg ls) (hno : ∀ (m : Nat) (l : Leaf), ls[m]? = some l → findI l.ps x.1 < 0) (hcnt : -9223372036854775808 ≤ M'.c ∧ M'.c < 9223372036854775807)
    {m : Nat} {l : Leaf} (hml : ls[m]? = some l) (hfit : 8 + szP (l.ps ++ [x]) ≤ 240) (hnot : ∀ (j : Nat) (y : Leaf), j < m → ls[j]? = some y → ¬ 8 + szP (y.ps ++ [x]) ≤ 240) (hsz : ∀ (j : Nat) (y : Leaf), ls[j]? = some y → szP (y.ps ++ [x]) ≤ 4611686018427387904 ∧ y.ps.length ≤ 4294967295)
    (hlpg : -9223372036854775808 ≤ l.pg ∧ l.pg ≤ 9223372036854775807) (hd : -9223372036854775808 ≤ l.d ∧ l.d ≤ 9223372036854775807) (hx : -9223372036854775808 ≤ l.x ∧ l.x ≤ 9223372036854775807) (hmay : mayBk ⟨l.d, l.x, l.ps ++ [x]⟩ = true) (hmm : fs.length + 1 ≤ 4000000) :
    Calls Tryz.prog 58 #[.pointer (some ⟨ch, 0, none⟩), .agg #[.slice ka kn kc, .slice va vn vc]] w fun e w' => e = .returned (.int .i64 0) ∧ ∃ sv2 f, Gath w0 w' ch st mb M { M' with c := M'.c + 1 } v v' sv2 ns SL (fs ++ [f]) (ss ++ [.lay l.pg (pageBk ⟨l.d, l.x, l.ps ++ [x]⟩)]) := by
  obtain ⟨A', c', hv'e, hc', hri⟩ := h.ri
  have hfew := h.few
  obtain ⟨w1, hw1⟩ : ∃ w1, w1 = w.alloc (.cells #[.slice ka kn kc, .slice va vn vc] 88) := ⟨_, rfl⟩
  have hb1 : Below w.heap.size w w1.drew := by rw [hw1]; exact ((Below.refl _ _).alloc (Nat.le_refl _) _).drew
  have hz1 : w1.drew.heap.size = w.heap.size + 1 := by rw [hw1]; show (w.alloc _).heap.size = _; simp
  have hp1 : w1.drew.heap[w.heap.size]? = some (.cells #[.slice ka kn kc, .slice va vn vc] 88 (0, 0)) := by rw [hw1]; exact heap_alloc_new w _
  have hg1 := h.keep hb1
  obtain ⟨_, _, _, _, _, y6, y7, y8, y9, y10, _⟩ := hg1.at_.cells2
  have y0 := hg1.at_.cells.1
  rw [hv'e] at y10
  have p0 : w1.drew.cell? ⟨w.heap.size, 0, none⟩ = some (.slice ka kn kc) := by rw [cell_of_row _ _ 0 _ _ (0, 0) hp1]; rfl
  have hk1 := hk.below hb1
  have HZ2 := Lib.hid (show ∀ W, Below w1.drew.heap.size w1.drew W → W.cell? ⟨ch, 0, none⟩ = some (.pointer (some ⟨st, 0, none⟩)) ∧ W.cell? ⟨ch, 6, none⟩ = some (.int .i64 M'.d) ∧ W.cell? ⟨ch, 7, none⟩ = some (.int .i64 M'.f) ∧ W.cell? ⟨ch, 8, none⟩ = some (.int .i64 M'.n) ∧ W.cell? ⟨ch, 9, none⟩ = some (.int .i64 M'.c) ∧ W.cell? ⟨ch, 10, none⟩ = some (.slice A' M'.l.length c') ∧ W.cell? ⟨w.heap.size, 0, none⟩ = some (.slice ka kn kc) from fun W hb2 => ⟨(hb2.cell (p := ⟨ch, 0, none⟩) (World.block_lt_of_cell? _ _ y0)).trans y0, (hb2.cell (p := ⟨ch, 6, none⟩) (World.block_lt_of_cell? _ _ y6)).trans y6, (hb2.cell (p := ⟨ch, 7, none⟩) (World.block_lt_of_cell? _ _ y7)).trans y7, (hb2.cell (p := ⟨ch, 8, none⟩) (World.block_lt_of_cell? _ _ y8)).trans y8, (hb2.cell (p := ⟨ch, 9, none⟩) (World.block_lt_of_cell? _ _ y9)).trans y9, (hb2.cell (p := ⟨ch, 10, none⟩) (World.block_lt_of_cell? _ _ y10)).trans y10, (hb2.cell (p := ⟨w.heap.size, 0, none⟩) (World.block_lt_of_cell? _ _ p0)).trans p0⟩)
  have HCH := Lib.hid (chainOf_any api ((hS.below api h.bel).below api hb1) M'.d M'.f M'.n M'.c (A0 := A') (cap := c') (Kc := kc) pg (hri.below hb1) hb1.size hc' (by unfold maxLen; omega) hk1.1 (Nat.le_refl _) hkc.2 hc.dir hc.ok hc.few hc.all)
  have HG := Lib.hid h
  have HB1 := Lib.hid hb1
  have HK := Lib.hid hk
  have HV := Lib.hid hv
  have HP1 := Lib.hid hp1
  have HZ1 := Lib.hid hz1
  have HLT := Lib.hid h.lt
  have HNO := Lib.hid hno
  have hlen : ls.length ≤ 4294967296 := by have := hc.few; have := hc.all; omega
  have HADD := Lib.hid (show ∀ (w2 wc : World) (A : Option Addr) (n c : Nat), Gath w0 w2 ch st mb M { M' with c := M'.c + 1 } v v' sv ns SL fs ss → (∀ k, GX ch mb v' sv k → k < wc.heap.size) → ChainAt wc w2 (.slice A n c) ls → n ≤ 4294967296 → BIn w2 (GX ch mb v' sv) ka kn x.1 → BIn w2 (GX ch mb v' sv) va vn x.2 →
      Calls Tryz.prog 107 #[.pointer (some ⟨ch, 0, none⟩), .slice A n c, .agg #[.slice ka kn kc, .slice va vn vc]] w2 fun e w' => e = .returned (.int .i64 0) ∧ ∃ sv2 f, Gath w0 w' ch st mb M { M' with c := M'.c + 1 } v v' sv2 ns SL (fs ++ [f]) (ss ++ [.lay l.pg (pageBk ⟨l.d, l.x, l.ps ++ [x]⟩)]) from
    fun w2 wc A n c hg hGX hch hn hk hv => (add_fit hg hGX hch hn hk hv hkc hvc hml hfit hnot hsz hlpg hd hx hmay hmm).mono fun e w' z => ⟨z.1, by obtain ⟨_, sv2, f, z1, _⟩ := z; exact ⟨sv2, f, z1⟩⟩)
  have wrc : IntKind.i64.wrap (M'.c + 1) = M'.c + 1 := by rw [IntKind.wrap_i64]; first | (unfold wrap64; omega) | omega
  clear h hk hv hb1 hp1 hg1 hk1 hno hml hfit hnot hsz hlpg hd hx hmay hc hri hS hz1
  go_enter Tryz.func58, Tryz.ntmps58
  go_wp2_with fail
  rw [← hw1]
  clear hw1
  go_region_held3 (fun W => W.cell? ⟨ch, 0, none⟩ = some (.pointer (some ⟨st, 0, none⟩)) ∧ W.cell? ⟨ch, 6, none⟩ = some (.int .i64 M'.d) ∧ W.cell? ⟨ch, 7, none⟩ = some (.int .i64 M'.f) ∧ W.cell? ⟨ch, 8, none⟩ = some (.int .i64 M'.n) ∧ W.cell? ⟨ch, 9, none⟩ = some (.int .i64 M'.c) ∧ W.cell? ⟨ch, 10, none⟩ = some (.slice A' M'.l.length c') ∧ W.cell? ⟨w.heap.size, 0, none⟩ = some (.slice ka kn kc))
    (first | with_reducible exact z2 | exact ⟨y0, y6, y7, y8, y9, y10, p0⟩)
    (first
      | (go_at_call 52; refine HCH.out.mono ?_; rintro e w2 ⟨A2, c2, rfl, hch2, hb2⟩; have z2 := HZ2.out w2 hb2))
  obtain ⟨_, _, _, _, _, _, p2⟩ := z2
  have hk2 := ((HK.out.below HB1.out).below hb2)
  have HFI := Lib.hid (extFind_any (Kc := kc) hch2 hk2.1 (Nat.le_refl _) hlen)
  have HCH2 := Lib.hid hch2
  have HB2 := Lib.hid hb2
  clear HCH hch2 hb2 hk2 y0 y6 y7 y8 y9 y10 p0 HZ2
  go_wp2_with fail
  refine HFI.out.mono ?_
  rintro e w3 ⟨a, i, rfl, hfr, hb3⟩
  obtain ⟨rfl, rfl⟩ : a = 0 ∧ i = -1 := by
    rcases hfr with ⟨e1, e2, _⟩ | ⟨mm, ll, _, e1, e2, e3, _⟩
    · exact ⟨e1, e2⟩
    · have := HNO.out mm ll e1
      omega
  have hb13 := HB2.out.trans (hb3.mono HB2.out.size)
  have hb03 := HB1.out.trans (hb13.mono HB1.out.size)
  have hg3 := HG.out.keep hb03
  obtain ⟨_, _, _, _, _, _, _, _, x9, _, _⟩ := hg3.at_.cells2
  have hat3 := hg3.at_
  unfold ChAt at hat3
  have f9 : w3.frozen? ⟨ch, 9, none⟩ = false := by simp [World.frozen?, hat3]
  have hchl : ch < w.heap.size := (HLT.out ch (.inl rfl)).2
  have hcl : ch < w1.drew.heap.size := Nat.lt_of_lt_of_le hchl HB1.out.size
  have hp3 := (hb13.block w.heap.size (by rw [HZ1.out]; omega)).trans HP1.out
  obtain ⟨w4, hw4⟩ : ∃ w4, w4 = w3.setCell ⟨ch, 9, none⟩ (.int .i64 (M'.c + 1)) := ⟨_, rfl⟩
  have hp4 : w4.heap[w.heap.size]? = some (.cells #[.slice ka kn kc, .slice va vn vc] 88 (0, 0)) := by rw [hw4]; exact (Below.heap_setCell _ ⟨ch, 9, none⟩ _ _ (by show w.heap.size ≠ ch; omega)).trans hp3
  have q0 : w4.cell? ⟨w.heap.size, 0, none⟩ = some (.slice ka kn kc) := by rw [cell_of_row _ _ 0 _ _ (0, 0) hp4]; rfl
  have q1 : w4.cell? ⟨w.heap.size, 1, none⟩ = some (.slice va vn vc) := by rw [cell_of_row _ _ 1 _ _ (0, 0) hp4]; rfl
  have hsz4 : w.heap.size ≤ w4.heap.size := by rw [hw4]; simpa [World.setCell] using hb03.size
  have hkept : ∀ k, k < w.heap.size → ¬ GX ch mb v' sv k → w4.heap[k]? = w.heap[k]? := fun k hk hn => by
    rw [hw4]
    exact (Below.heap_setCell _ ⟨ch, 9, none⟩ _ _ (fun e => hn (.inl e))).trans (hb03.block k hk)
  have HAD := Lib.hid (HADD.out w4 w1.drew A2 ls.length c2 (by rw [hw4]; exact hg3.setCount _) (fun k hk => Nat.lt_of_lt_of_le (HLT.out k hk).2 HB1.out.size) (by rw [hw4]; exact (HCH2.out.below hb3).poke hcl _) hlen (HK.out.grow hsz4 hkept (fun _ _ h => h)) (HV.out.grow hsz4 hkept (fun _ _ h => h)))
  rw [hw4] at q0 q1
  clear hfr hb3 hb13 hb03 hg3 hat3 hp3 hp4 hsz4 hkept HFI HADD p2 hcl
  go_wp2_with fail
  rw [← hw4]
  clear hw4 q0 q1 x9 f9
  refine HAD.out.mono ?_
  rintro e w5 ⟨rfl, sv2, f, hg5⟩
  have HE := Lib.hid hg5
  clear hg5 HAD
  go_wp2_with fail
  go_ret
  exact ⟨rfl, sv2, f, HE.out⟩
end
end Go.Proofs.YtfbljmkjiaklfaaGreatDoor
