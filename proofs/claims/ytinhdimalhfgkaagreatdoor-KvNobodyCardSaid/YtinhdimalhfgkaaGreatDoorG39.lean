/-
  The texts ExuE, ExuF, ExuG, ExuH joined. Conditions: those that each part says at its head.
-/
import Derived.Test.YtinhdimalhfgkaaGreatDoorG38

/-
  A pair comes into the first bucket of a chain that has room for it: contract of add where there is one. Conditions: numbers and lengths are ints; fewer than 4,000,000 steps.
-/
namespace Go.Proofs.YtinhdimalhfgkaaGreatDoor
open Go.RowKit
set_option maxRecDepth 100000
set_option linter.unusedVariables false

section
variable {D : World → (Nat → Prop) → Addr → DS → Prop} {w0 w w' : World} {F O : Nat → Prop} {p : Addr} {S : DS} {q r b st ch mb : Nat} {seq : Int} {L : List (Int × List Int)} {M M' : MV} {v v' sv : Value} {ns : Nat} {SL : Int → Option Int} {fs : List Value} {ss : List Stp}

/-- A bucket of a chain, read where the chain lies, in a later world. -/
theorem ChainAt.leaf {wc w wr : World} {A : Option Addr} {n c : Nat} {ls : List Leaf} (h : ChainAt wc w (.slice A n c) ls) {j : Nat} {y : Leaf} (hy : ls[j]? = some y) (hb : Below w.heap.size w wr) :
    ∃ g A' n' c', A = some ⟨g, 0, none⟩ ∧ g < w.heap.size ∧ wc.heap.size ≤ g ∧ wr.cell? ⟨g, j * 4, none⟩ = some (.int .i64 y.pg) ∧ wr.cell? ⟨g, j * 4 + 1, none⟩ = some (.int .i64 y.d) ∧ wr.cell? ⟨g, j * 4 + 2, none⟩ = some (.int .i64 y.x) ∧ wr.cell? ⟨g, j * 4 + 3, none⟩ = some (.slice A' n' c') ∧ n' ≤ c' ∧ n' ≤ maxLen ∧ Stays wr (fun k => k < wc.heap.size ∨ k = g) A' n' y.ps ∧ n = ls.length := by
  obtain ⟨hnl, hc, hrd⟩ := h.read
  have hj := (List.getElem?_eq_some_iff.1 hy).1
  obtain ⟨g, e, hg, hwg, _, hat⟩ := hrd (by omega)
  obtain ⟨A', n', c', c0, c1, c2, c3, h1, h2, h3⟩ := hat j y hy
  exact ⟨g, A', n', c', e, hg, hwg, (hb.cell (p := ⟨g, j * 4, none⟩) hg).trans c0, (hb.cell (p := ⟨g, j * 4 + 1, none⟩) hg).trans c1, (hb.cell (p := ⟨g, j * 4 + 2, none⟩) hg).trans c2, (hb.cell (p := ⟨g, j * 4 + 3, none⟩) hg).trans c3, h1, h2, h3.below hb, hnl⟩

set_option maxHeartbeats 3200000 in
theorem add_fit (h : Gath w0 w ch st mb M M' v v' sv ns SL fs ss) {wc : World} (hGX : ∀ k, GX ch mb v' sv k → k < wc.heap.size) {A ka va : Option Addr} {n c kn kc vn vc : Nat} {ls : List Leaf} (hch : ChainAt wc w (.slice A n c) ls) (hnl : n ≤ 4294967296) {x : KV} (hk : BIn w (GX ch mb v' sv) ka kn x.1) (hv : BIn w (GX ch mb v' sv) va vn x.2) (hkc : kn ≤ kc ∧ kn ≤ maxLen) (hvc : vn ≤ vc ∧ vn ≤ maxLen)
    {m : Nat} {l : Leaf} (hml : ls[m]? = some l) (hfit : 8 + szP (l.ps ++ [x]) ≤ 240) (hnot : ∀ (j : Nat) (y : Leaf), j < m → ls[j]? = some y → ¬ 8 + szP (y.ps ++ [x]) ≤ 240) (hsz : ∀ (j : Nat) (y : Leaf), ls[j]? = some y → szP (y.ps ++ [x]) ≤ 4611686018427387904 ∧ y.ps.length ≤ 4294967295)
    (hlpg : -9223372036854775808 ≤ l.pg ∧ l.pg ≤ 9223372036854775807) (hd : -9223372036854775808 ≤ l.d ∧ l.d ≤ 9223372036854775807) (hx : -9223372036854775808 ≤ l.x ∧ l.x ≤ 9223372036854775807) (hmay : mayBk ⟨l.d, l.x, l.ps ++ [x]⟩ = true) (hmm : fs.length + 1 ≤ 4000000) :
    Calls Tryz.prog 125 #[.pointer (some ⟨ch, 0, none⟩), .slice A n c, .agg #[.slice ka kn kc, .slice va vn vc]] w fun e w' => e = .returned (.int .i64 0) ∧ ∃ sv2 f, Gath w0 w' ch st mb M M' v v' sv2 ns SL (fs ++ [f]) (ss ++ [.lay l.pg (pageBk ⟨l.d, l.x, l.ps ++ [x]⟩)]) ∧ Went w0.heap.size w.heap.size ch mb v' sv v' sv2 fs (fs ++ [f]) ss (ss ++ [.lay l.pg (pageBk ⟨l.d, l.x, l.ps ++ [x]⟩)]) w w' := by
  obtain ⟨w1, hw1⟩ : ∃ w1, w1 = w.alloc (.cells #[.slice ka kn kc, .slice va vn vc] 95) := ⟨_, rfl⟩
  have hb1 : Below w.heap.size w w1 := by rw [hw1]; exact (Below.refl _ _).alloc (Nat.le_refl _) _
  have hs1 : w1.heap.size = w.heap.size + 1 := by rw [hw1]; simp
  have hp1 : w1.heap[w.heap.size]? = some (.cells #[.slice ka kn kc, .slice va vn vc] 95 (0, 0)) := by rw [hw1]; exact heap_alloc_new _ _
  have HC := Lib.hid hch
  have HG := Lib.hid h
  have HK := Lib.hid hk
  have HV := Lib.hid hv
  have HB1 := Lib.hid hb1
  have HP1 := Lib.hid hp1
  have HLT := Lib.hid h.lt
  have HNOT := Lib.hid hnot
  have HSZ := Lib.hid hsz
  have HML := Lib.hid hml
  have HF := Lib.hid hfit
  have hnm : n = ls.length ∧ m < n := by
    obtain ⟨_, _, _, _, _, _, _, _, _, _, _, _, _, _, e⟩ := hch.leaf hml (Below.refl _ _)
    exact ⟨e, by rw [e]; exact (List.getElem?_eq_some_iff.1 hml).1⟩
  have hmn := hnm.2
  have HNL := Lib.hid hnm.1
  have HGX := Lib.hid hGX
  clear hch h hk hv hb1 hp1 hnot hsz hml hfit hnm hGX
  go_enter Tryz.func125, Tryz.ntmps125
  go_wp2_with fail
  rw [← hw1]
  clear hw1
  go_loopw [1] (fun u wr => u = .slice A n c ∧ w1 = wr) (fun _ _ => 1)
  case atStart => exact ⟨rfl, rfl⟩
  case round =>
    obtain ⟨rfl, rfl⟩ := hrel
    go_wp2_with fail
    go_loopw [13] (fun i wr => ∃ j : Nat, j ≤ m ∧ i = .int .i64 j ∧ Hid (Below w1.heap.size w1 wr)) (fun i _ => m + 1 - (intOf i).toNat)
    case atStart => exact ⟨0, Nat.zero_le _, rfl, Lib.hid (Below.refl _ _)⟩
    case round =>
      obtain ⟨j, hj, rfl, hbw⟩ := hrel
      have hjn : j < n := by omega
      have hjn' : (j : Int) < (n : Int) := by omega
      obtain ⟨y, hy⟩ : ∃ y, ls[j]? = some y := ⟨_, List.getElem?_eq_getElem (by rw [← HNL.out]; exact hjn)⟩
      have hbw0 : Below w.heap.size w wr := HB1.out.trans (hbw.out.mono HB1.out.size)
      obtain ⟨g, A', n', c', rfl, hg, hwg, c0, c1, c2, c3, hc', hn', hst, hnls⟩ := HC.out.leaf hy hbw0
      clear hnls
      obtain ⟨hsz1, hsz2⟩ := HSZ.out j y hy
      have hdo : (j = m ∧ y = l) ∨ (j < m ∧ ¬ 8 + szP (y.ps ++ [x]) ≤ 240) := by
        rcases Nat.lt_or_ge j m with q | q
        · exact .inr ⟨q, HNOT.out j y q hy⟩
        · obtain rfl : j = m := by omega
          have := HML.out
          rw [hy] at this
          exact .inl ⟨rfl, Option.some.inj this⟩
      have HDO := Lib.hid hdo
      obtain ⟨ypg, yd, yx, yps⟩ := y
      simp only at c0 c1 c2 hst hsz1 hsz2
      have hn2 : n' ≤ 4294967296 := by have := hst.now.1; omega
      obtain ⟨w2, hw2⟩ : ∃ w2, w2 = wr.alloc (.cells #[.int .i64 ypg, .int .i64 yd, .int .i64 yx, .slice A' n' c'] 92) := ⟨_, rfl⟩
      have hba : Below wr.heap.size wr w2 := by rw [hw2]; exact (Below.refl _ _).alloc (Nat.le_refl _) _
      have hz2 : w2.heap.size = wr.heap.size + 1 := by rw [hw2]; simp
      have hbx : w2.heap[wr.heap.size]? = some (.cells #[.int .i64 ypg, .int .i64 yd, .int .i64 yx, .slice A' n' c'] 92 (0, 0)) := by rw [hw2]; exact heap_alloc_new _ _
      have hX2 : Below w.heap.size w w2 := hbw0.trans (hba.mono hbw0.size)
      have hsw := hbw0.size
      have hsw1 := hbw.out.size
      have hpx : w2.heap[w.heap.size]? = some (.cells #[.slice ka kn kc, .slice va vn vc] 95 (0, 0)) := (hba.block _ (by omega)).trans ((hbw.out.block _ (by omega)).trans HP1.out)
      obtain ⟨z0, z1, z2, z3, _, _⟩ := cells_four hbx
      have p0 : w2.cell? ⟨w.heap.size, 0, none⟩ = some (.slice ka kn kc) := by rw [cell_of_row _ _ 0 _ _ (0, 0) hpx]; rfl
      have p1 : w2.cell? ⟨w.heap.size, 1, none⟩ = some (.slice va vn vc) := by rw [cell_of_row _ _ 1 _ _ (0, 0) hpx]; rfl
      have hst2 : Stays w2 (fun k => GX ch mb v' sv k ∨ k = wr.heap.size) A' n' yps := hst.grow hba.size (fun k hk _ => hba.block k hk) (fun k hk hn hg2 => by
        rcases hg2 with e | e
        · exact hn (.inl (HGX.out k e))
        · omega)
      have hin : ∀ k, k < w.heap.size → ¬ GX ch mb v' sv k → ¬ (GX ch mb v' sv k ∨ k = wr.heap.size) := fun k hk hn hg2 => by
        rcases hg2 with e | e
        · exact hn e
        · omega
      have hk2 := HK.out.grow (G' := fun k => GX ch mb v' sv k ∨ k = wr.heap.size) hX2.size (fun k hk _ => hX2.block k hk) hin
      have hv2 := HV.out.grow (G' := fun k => GX ch mb v' sv k ∨ k = wr.heap.size) hX2.size (fun k hk _ => hX2.block k hk) hin
      have HWITH := Lib.hid (with_any (l := ⟨ypg, yd, yx, yps⟩) hc' hst2 (fun k hk => by
        rcases hk with e | e
        · have := (HLT.out k e).2; omega
        · omega) hk2 hv2 hkc hvc hn2)
      have HX2 := Lib.hid hX2
      have HBX := Lib.hid hbx
      have HZ := Lib.hid (And.intro hz2 (And.intro hsw1 hbw.out))
      have HSZ1 := Lib.hid hsz1
      have HBA := Lib.hid hba
      clear hy hdo hst hst2 hk2 hv2 hin hba hbx hX2 hpx hbw0 hsz1 hsz2 hbw
      have p0' := p0
      have p1' := p1
      rw [hw2] at p0' p1'
      go_wp2_with fail
      rw [← hw2]
      clear hw2 p0' p1'
      refine HWITH.out.mono ?_
      rintro e w3 ⟨lv, rfl, ⟨A3, n3, c3, rfl, hc3, hn3, hst3⟩, hb3⟩
      simp only at hst3
      have hbx3 := (hb3.block wr.heap.size (by have := HZ.out.1; omega)).trans HBX.out
      obtain ⟨_, _, _, _, fz, _⟩ := cells_four hbx3
      have f0 := fz 0
      have f1 := fz 1
      have f2 := fz 2
      have f3 := fz 3
      obtain ⟨w4, hw4⟩ : ∃ w4, w4 = ((((w3.setCell ⟨wr.heap.size, 0, none⟩ (.int .i64 ypg)).setCell ⟨wr.heap.size, 1, none⟩ (.int .i64 yd)).setCell ⟨wr.heap.size, 2, none⟩ (.int .i64 yx)).setCell ⟨wr.heap.size, 3, none⟩ (.slice A3 n3 c3)) := ⟨_, rfl⟩
      have hb4 : Below w.heap.size w w4 := by rw [hw4]; exact below_four (HX2.out.trans (hb3.mono HX2.out.size)) hsw _ _ _ _
      have hbx4 : w4.heap[wr.heap.size]? = some (.cells #[.int .i64 ypg, .int .i64 yd, .int .i64 yx, .slice A3 n3 c3] 92 (0, 0)) := by rw [hw4]; exact box_four hbx3 _ _ _ _
      have hst4 : Stays w4 (fun k => GX ch mb v' sv k ∨ k = wr.heap.size) A3 n3 (yps ++ [x]) := by
        rw [hw4]
        exact (((hst3.setCell (p := ⟨wr.heap.size, 0, none⟩) (.inr rfl) _).setCell (p := ⟨wr.heap.size, 1, none⟩) (.inr rfl) _).setCell (p := ⟨wr.heap.size, 2, none⟩) (.inr rfl) _).setCell (p := ⟨wr.heap.size, 3, none⟩) (.inr rfl) _
      have hb14 : Below w1.heap.size w1 w4 := by
        rw [hw4]
        exact below_four (HZ.out.2.2.trans ((HBA.out.trans (hb3.mono HBA.out.size)).mono HZ.out.2.1)) HZ.out.2.1 _ _ _ _
      obtain ⟨y0, y1, y2, y3, _, _⟩ := cells_four hbx4
      have HFIT := Lib.hid (fits_any (c := c3) (l := ⟨ypg, yd, yx, yps ++ [x]⟩) hst4 hn3 HSZ1.out)
      have H4 := Lib.hid (And.intro hb4 (And.intro hb14 (And.intro hst4 hbx4)))
      rw [hw4] at y0 y1 y2 y3
      clear hb3 hbx3 fz hst3 hb4 hb14 hbx4 hst4 z0 z1 z2 z3 p0 p1
      go_wp2_with fail
      rw [← hw4]
      clear hw4 y0 y1 y2 y3 f0 f1 f2 f3
      refine HFIT.out.mono ?_
      rintro e w5 ⟨rfl, hb5⟩
      obtain ⟨k4, k14, kst, kbx⟩ := H4.out
      have hb05 := k4.trans (hb5.mono k4.size)
      have hbx5 := (hb5.block wr.heap.size (Array.getElem?_eq_some_iff.1 kbx).1).trans kbx
      obtain ⟨y0, y1, y2, y3, _, _⟩ := cells_four hbx5
      rcases HDO.out with ⟨rfl, e⟩ | ⟨hjm, e⟩
      · obtain ⟨rfl, rfl, rfl, rfl⟩ : ypg = l.pg ∧ yd = l.d ∧ yx = l.x ∧ yps = l.ps := by rw [← e]; exact ⟨rfl, rfl, rfl, rfl⟩
        have hft : decide (8 + szP (l.ps ++ [x]) ≤ 240) = true := decide_eq_true HF.out
        rw [show decide (8 + szP (⟨l.pg, l.d, l.x, l.ps ++ [x]⟩ : Leaf).ps ≤ 240) = true from hft]
        have HKP := Lib.hid (keep_g (HG.out.keep hb05) (l := ⟨l.pg, l.d, l.x, l.ps ++ [x]⟩) ⟨A3, n3, c3, rfl, hc3, hn3, kst.below hb5⟩ hlpg hd hx hmay hmm)
        have HB5 := Lib.hid hb05
        clear e hft k4 k14 kst kbx hb05 hbx5 hb5 HWITH HFIT H4
        go_wp2_with fail
        refine HKP.out.mono ?_
        rintro e w6 ⟨rfl, sv2, f, hg6, hw6⟩
        have HE := Lib.hid (And.intro hg6 ((Went.below HB5.out).trans (hw6.mono HB5.out.size)))
        clear hg6 hw6 HKP
        go_wp2_with fail
        go_ret
        exact ⟨rfl, sv2, f, HE.out.1, HE.out.2⟩
      · have hff : decide (8 + szP (yps ++ [x]) ≤ 240) = false := decide_eq_false e
        rw [show decide (8 + szP (⟨ypg, yd, yx, yps ++ [x]⟩ : Leaf).ps ≤ 240) = false from hff]
        have HE := Lib.hid (k14.trans (hb5.mono k14.size))
        clear e hff k4 k14 kst kbx hb05 hbx5 hb5 HWITH HFIT H4 y0 y1 y2 y3
        go_wp2_with fail
        go_roundw
        case rel => exact ⟨j + 1, by omega, by go_num, HE⟩
        case measure => simp [intOf]; omega
end
end Go.Proofs.YtinhdimalhfgkaaGreatDoor

/-
  A key that is not there comes into a bucket that has room for it: contract of the change's put. Conditions: numbers and lengths are ints; fewer than 4,000,000 steps.
-/
namespace Go.Proofs.YtinhdimalhfgkaaGreatDoor
open Go.RowKit
set_option maxRecDepth 100000
set_option linter.unusedVariables false

section
variable {D : World → (Nat → Prop) → Addr → DS → Prop} {w0 w w' : World} {F O : Nat → Prop} {p : Addr} {S : DS} {q r b st ch mb : Nat} {seq : Int} {L : List (Int × List Int)} {M M' : MV} {v v' sv : Value} {ns : Nat} {SL : Int → Option Int} {fs : List Value} {ss : List Stp}

/-- Where a key's chain is. -/
structure ChainIs (S : DS) (L : List (Int × List Int)) (M : MV) (key : List Int) (pg : Int) (ls : List Leaf) : Prop where
  dir : dirGetR S L M.d M.l.length M.l ((slotN (hashL key) (heldD M.d) : Nat) : Int) = (pg, 0)
  ok : ChainOk S L M.d pg ls
  few : (ls.length : Int) ≤ pagesOf S.n
  all : pagesOf S.n ≤ 4294967296

theorem ChainAt.poke {wc w : World} {u : Value} {ls : List Leaf} (h : ChainAt wc w u ls) {a : Addr} (ha : a.block < wc.heap.size) (z : Value) : ChainAt wc (w.setCell a z) u ls :=
  GRow.keep (R := LeafR) leafR_kept h (by simp [World.setCell]) (fun _ _ h => h) (fun k _ hn => Below.heap_setCell w a z k (fun e => hn (.inl (by omega)))) (fun r hr => ⟨Below.heap_setCell w a z r (fun e => by have := (h.at_ r hr).1; omega), .inr hr⟩)

set_option maxHeartbeats 3200000 in
theorem put_new (api : DiskApi D) (hS : SAt D w0 F O p S q seq r b st L) (h : Gath w0 w ch st mb M M' v v' sv ns SL fs ss) {ka va : Option Addr} {kn kc vn vc : Nat} {x : KV} (hk : BIn w (GX ch mb v' sv) ka kn x.1) (hv : BIn w (GX ch mb v' sv) va vn x.2) (hkc : kn ≤ kc ∧ kn ≤ maxLen) (hvc : vn ≤ vc ∧ vn ≤ maxLen)
    {pg : Int} {ls : List Leaf} (hc : ChainIs S L M' x.1 pg ls) (hno : ∀ (m : Nat) (l : Leaf), ls[m]? = some l → findI l.ps x.1 < 0) (hcnt : -9223372036854775808 ≤ M'.c ∧ M'.c < 9223372036854775807)
    {m : Nat} {l : Leaf} (hml : ls[m]? = some l) (hfit : 8 + szP (l.ps ++ [x]) ≤ 240) (hnot : ∀ (j : Nat) (y : Leaf), j < m → ls[j]? = some y → ¬ 8 + szP (y.ps ++ [x]) ≤ 240) (hsz : ∀ (j : Nat) (y : Leaf), ls[j]? = some y → szP (y.ps ++ [x]) ≤ 4611686018427387904 ∧ y.ps.length ≤ 4294967295)
    (hlpg : -9223372036854775808 ≤ l.pg ∧ l.pg ≤ 9223372036854775807) (hd : -9223372036854775808 ≤ l.d ∧ l.d ≤ 9223372036854775807) (hx : -9223372036854775808 ≤ l.x ∧ l.x ≤ 9223372036854775807) (hmay : mayBk ⟨l.d, l.x, l.ps ++ [x]⟩ = true) (hmm : fs.length + 1 ≤ 4000000) :
    Calls Tryz.prog 67 #[.pointer (some ⟨ch, 0, none⟩), .agg #[.slice ka kn kc, .slice va vn vc]] w fun e w' => e = .returned (.int .i64 0) ∧ ∃ sv2 f, Gath w0 w' ch st mb M { M' with c := M'.c + 1 } v v' sv2 ns SL (fs ++ [f]) (ss ++ [.lay l.pg (pageBk ⟨l.d, l.x, l.ps ++ [x]⟩)]) := by
  obtain ⟨A', c', hv'e, hc', hri⟩ := h.ri
  have hfew := h.few
  obtain ⟨w1, hw1⟩ : ∃ w1, w1 = w.alloc (.cells #[.slice ka kn kc, .slice va vn vc] 95) := ⟨_, rfl⟩
  have hb1 : Below w.heap.size w w1.drew := by rw [hw1]; exact ((Below.refl _ _).alloc (Nat.le_refl _) _).drew
  have hz1 : w1.drew.heap.size = w.heap.size + 1 := by rw [hw1]; show (w.alloc _).heap.size = _; simp
  have hp1 : w1.drew.heap[w.heap.size]? = some (.cells #[.slice ka kn kc, .slice va vn vc] 95 (0, 0)) := by rw [hw1]; exact heap_alloc_new w _
  have hg1 := h.keep hb1
  obtain ⟨_, _, _, _, _, y6, y7, y8, y9, y10, _⟩ := hg1.at_.cells2
  have y0 := hg1.at_.cells.1
  rw [hv'e] at y10
  have p0 : w1.drew.cell? ⟨w.heap.size, 0, none⟩ = some (.slice ka kn kc) := by rw [cell_of_row _ _ 0 _ _ (0, 0) hp1]; rfl
  have hk1 := hk.below hb1
  have HZ2 := Lib.hid (show ∀ W, Below w1.drew.heap.size w1.drew W → W.cell? ⟨ch, 0, none⟩ = some (.pointer (some ⟨st, 0, none⟩)) ∧ W.cell? ⟨ch, 6, none⟩ = some (.int .i64 M'.d) ∧ W.cell? ⟨ch, 7, none⟩ = some (.int .i64 M'.f) ∧ W.cell? ⟨ch, 8, none⟩ = some (.int .i64 M'.n) ∧ W.cell? ⟨ch, 9, none⟩ = some (.int .i64 M'.c) ∧ W.cell? ⟨ch, 10, none⟩ = some (.slice A' M'.l.length c') ∧ W.cell? ⟨w.heap.size, 0, none⟩ = some (.slice ka kn kc) from fun W hb2 => ⟨(hb2.cell (p := ⟨ch, 0, none⟩) (World.block_lt_of_cell? _ _ y0)).trans y0, (hb2.cell (p := ⟨ch, 6, none⟩) (World.block_lt_of_cell? _ _ y6)).trans y6, (hb2.cell (p := ⟨ch, 7, none⟩) (World.block_lt_of_cell? _ _ y7)).trans y7, (hb2.cell (p := ⟨ch, 8, none⟩) (World.block_lt_of_cell? _ _ y8)).trans y8, (hb2.cell (p := ⟨ch, 9, none⟩) (World.block_lt_of_cell? _ _ y9)).trans y9, (hb2.cell (p := ⟨ch, 10, none⟩) (World.block_lt_of_cell? _ _ y10)).trans y10, (hb2.cell (p := ⟨w.heap.size, 0, none⟩) (World.block_lt_of_cell? _ _ p0)).trans p0⟩)
  have HCH := Lib.hid (chainOf_any api ((hS.below api h.bel).below api hb1) M'.d M'.f M'.n M'.c (A0 := A') (cap := c') (Kc := kc) pg (hri.below hb1) hb1.size hc' (by unfold maxLen; omega) hk1.1 (Nat.le_refl _) hkc.2 hc.dir hc.ok hc.few hc.all)
  have HG := Lib.hid h
  have HB1 := Lib.hid hb1
  have HK := Lib.hid hk
  have HV := Lib.hid hv
  have HP1 := Lib.hid hp1
  have HZ1 := Lib.hid hz1
  have HLT := Lib.hid h.lt
  have HNO := Lib.hid hno
  have hlen : ls.length ≤ 4294967296 := by have := hc.few; have := hc.all; omega
  have HADD := Lib.hid (show ∀ (w2 wc : World) (A : Option Addr) (n c : Nat), Gath w0 w2 ch st mb M { M' with c := M'.c + 1 } v v' sv ns SL fs ss → (∀ k, GX ch mb v' sv k → k < wc.heap.size) → ChainAt wc w2 (.slice A n c) ls → n ≤ 4294967296 → BIn w2 (GX ch mb v' sv) ka kn x.1 → BIn w2 (GX ch mb v' sv) va vn x.2 →
      Calls Tryz.prog 125 #[.pointer (some ⟨ch, 0, none⟩), .slice A n c, .agg #[.slice ka kn kc, .slice va vn vc]] w2 fun e w' => e = .returned (.int .i64 0) ∧ ∃ sv2 f, Gath w0 w' ch st mb M { M' with c := M'.c + 1 } v v' sv2 ns SL (fs ++ [f]) (ss ++ [.lay l.pg (pageBk ⟨l.d, l.x, l.ps ++ [x]⟩)]) from
    fun w2 wc A n c hg hGX hch hn hk hv => (add_fit hg hGX hch hn hk hv hkc hvc hml hfit hnot hsz hlpg hd hx hmay hmm).mono fun e w' z => ⟨z.1, by obtain ⟨_, sv2, f, z1, _⟩ := z; exact ⟨sv2, f, z1⟩⟩)
  have wrc : IntKind.i64.wrap (M'.c + 1) = M'.c + 1 := by rw [IntKind.wrap_i64]; first | (unfold wrap64; omega) | omega
  clear h hk hv hb1 hp1 hg1 hk1 hno hml hfit hnot hsz hlpg hd hx hmay hc hri hS hz1
  go_enter Tryz.func67, Tryz.ntmps67
  go_wp2_with fail
  rw [← hw1]
  clear hw1
  go_region_held3 (fun W => W.cell? ⟨ch, 0, none⟩ = some (.pointer (some ⟨st, 0, none⟩)) ∧ W.cell? ⟨ch, 6, none⟩ = some (.int .i64 M'.d) ∧ W.cell? ⟨ch, 7, none⟩ = some (.int .i64 M'.f) ∧ W.cell? ⟨ch, 8, none⟩ = some (.int .i64 M'.n) ∧ W.cell? ⟨ch, 9, none⟩ = some (.int .i64 M'.c) ∧ W.cell? ⟨ch, 10, none⟩ = some (.slice A' M'.l.length c') ∧ W.cell? ⟨w.heap.size, 0, none⟩ = some (.slice ka kn kc))
    (first | with_reducible exact z2 | exact ⟨y0, y6, y7, y8, y9, y10, p0⟩)
    (first
      | (go_at_call 61; refine HCH.out.mono ?_; rintro e w2 ⟨A2, c2, rfl, hch2, hb2⟩; have z2 := HZ2.out w2 hb2))
  obtain ⟨_, _, _, _, _, _, p2⟩ := z2
  have hk2 := ((HK.out.below HB1.out).below hb2)
  have HFI := Lib.hid (extFind_any (Kc := kc) hch2 hk2.1 (Nat.le_refl _) hlen)
  have HCH2 := Lib.hid hch2
  have HB2 := Lib.hid hb2
  clear HCH hch2 hb2 hk2 y0 y6 y7 y8 y9 y10 p0 HZ2
  go_wp2_with fail
  refine HFI.out.mono ?_
  rintro e w3 ⟨a, i, rfl, hfr, hb3⟩
  obtain ⟨rfl, rfl⟩ : a = 0 ∧ i = -1 := by
    rcases hfr with ⟨e1, e2, _⟩ | ⟨mm, ll, _, e1, e2, e3, _⟩
    · exact ⟨e1, e2⟩
    · have := HNO.out mm ll e1
      omega
  have hb13 := HB2.out.trans (hb3.mono HB2.out.size)
  have hb03 := HB1.out.trans (hb13.mono HB1.out.size)
  have hg3 := HG.out.keep hb03
  obtain ⟨_, _, _, _, _, _, _, _, x9, _, _⟩ := hg3.at_.cells2
  have hat3 := hg3.at_
  unfold ChAt at hat3
  have f9 : w3.frozen? ⟨ch, 9, none⟩ = false := by simp [World.frozen?, hat3]
  have hchl : ch < w.heap.size := (HLT.out ch (.inl rfl)).2
  have hcl : ch < w1.drew.heap.size := Nat.lt_of_lt_of_le hchl HB1.out.size
  have hp3 := (hb13.block w.heap.size (by rw [HZ1.out]; omega)).trans HP1.out
  obtain ⟨w4, hw4⟩ : ∃ w4, w4 = w3.setCell ⟨ch, 9, none⟩ (.int .i64 (M'.c + 1)) := ⟨_, rfl⟩
  have hp4 : w4.heap[w.heap.size]? = some (.cells #[.slice ka kn kc, .slice va vn vc] 95 (0, 0)) := by rw [hw4]; exact (Below.heap_setCell _ ⟨ch, 9, none⟩ _ _ (by show w.heap.size ≠ ch; omega)).trans hp3
  have q0 : w4.cell? ⟨w.heap.size, 0, none⟩ = some (.slice ka kn kc) := by rw [cell_of_row _ _ 0 _ _ (0, 0) hp4]; rfl
  have q1 : w4.cell? ⟨w.heap.size, 1, none⟩ = some (.slice va vn vc) := by rw [cell_of_row _ _ 1 _ _ (0, 0) hp4]; rfl
  have hsz4 : w.heap.size ≤ w4.heap.size := by rw [hw4]; simpa [World.setCell] using hb03.size
  have hkept : ∀ k, k < w.heap.size → ¬ GX ch mb v' sv k → w4.heap[k]? = w.heap[k]? := fun k hk hn => by
    rw [hw4]
    exact (Below.heap_setCell _ ⟨ch, 9, none⟩ _ _ (fun e => hn (.inl e))).trans (hb03.block k hk)
  have HAD := Lib.hid (HADD.out w4 w1.drew A2 ls.length c2 (by rw [hw4]; exact hg3.setCount _) (fun k hk => Nat.lt_of_lt_of_le (HLT.out k hk).2 HB1.out.size) (by rw [hw4]; exact (HCH2.out.below hb3).poke hcl _) hlen (HK.out.grow hsz4 hkept (fun _ _ h => h)) (HV.out.grow hsz4 hkept (fun _ _ h => h)))
  rw [hw4] at q0 q1
  clear hfr hb3 hb13 hb03 hg3 hat3 hp3 hp4 hsz4 hkept HFI HADD p2 hcl
  go_wp2_with fail
  rw [← hw4]
  clear hw4 q0 q1 x9 f9
  refine HAD.out.mono ?_
  rintro e w5 ⟨rfl, sv2, f, hg5⟩
  have HE := Lib.hid hg5
  clear hg5 HAD
  go_wp2_with fail
  go_ret
  exact ⟨rfl, sv2, f, HE.out⟩
end
end Go.Proofs.YtinhdimalhfgkaaGreatDoor

/-
  A key is taken out of its bucket: contract of the change's remove, where the bucket stays. Conditions: numbers and lengths are ints; fewer than 4,000,000 steps.
-/
namespace Go.Proofs.YtinhdimalhfgkaaGreatDoor
open Go.RowKit
set_option maxRecDepth 100000
set_option linter.unusedVariables false

section
variable {D : World → (Nat → Prop) → Addr → DS → Prop} {w0 w w' : World} {F O : Nat → Prop} {p : Addr} {S : DS} {q r b st ch mb : Nat} {seq : Int} {L : List (Int × List Int)} {M M' : MV} {v v' sv : Value} {ns : Nat} {SL : Int → Option Int} {fs : List Value} {ss : List Stp}

/-- Where a key stands in a chain. -/
structure FoundIs (ls : List Leaf) (key : List Int) (m i : Nat) (l : Leaf) : Prop where
  leaf : ls[m]? = some l
  at_ : findI l.ps key = (i : Int)
  lt : i < l.ps.length
  no : ∀ (m' : Nat) (l' : Leaf), m' < m → ls[m']? = some l' → findI l'.ps key < 0
theorem FoundIs.same {ls : List Leaf} {key : List Int} {m i : Nat} {l : Leaf} (h : FoundIs ls key m i l) {a z : Int} (hr : FindR ls key a z) : a = (m : Int) ∧ z = (i : Int) := by
  rcases hr with ⟨_, _, hno⟩ | ⟨m2, l2, rfl, e2, rfl, h0, hno⟩
  · have := hno m l h.leaf
    have := h.at_
    omega
  · have e : m2 = m := by
      rcases Nat.lt_trichotomy m2 m with q | q | q
      · have := h.no m2 l2 q e2; omega
      · exact q
      · have := hno m l q h.leaf
        have := h.at_
        omega
    subst e
    have := h.leaf
    rw [e2] at this
    obtain rfl := Option.some.inj this
    exact ⟨rfl, h.at_⟩

set_option maxHeartbeats 3200000 in
theorem remove_in (api : DiskApi D) (hS : SAt D w0 F O p S q seq r b st L) (h : Gath w0 w ch st mb M M' v v' sv ns SL fs ss) {ka : Option Addr} {kn kc : Nat} {key : List Int} (hk : BIn w (GX ch mb v' sv) ka kn key) (hkc : kn ≤ kc ∧ kn ≤ maxLen)
    {pg : Int} {ls : List Leaf} (hc : ChainIs S L M' key pg ls) (hcnt : -9223372036854775808 < M'.c ∧ M'.c ≤ 9223372036854775807)
    {m i : Nat} {l : Leaf} (hfd : FoundIs ls key m i l) (hcase : m = 0 ∨ (l.ps.eraseIdx i).length ≠ 0) (hln : l.ps.length ≤ 4294967295)
    (hlpg : -9223372036854775808 ≤ l.pg ∧ l.pg ≤ 9223372036854775807) (hd : -9223372036854775808 ≤ l.d ∧ l.d ≤ 9223372036854775807) (hx : -9223372036854775808 ≤ l.x ∧ l.x ≤ 9223372036854775807) (hmay : mayBk ⟨l.d, l.x, l.ps.eraseIdx i⟩ = true) (hmm : fs.length + 1 ≤ 4000000) :
    Calls Tryz.prog 64 #[.pointer (some ⟨ch, 0, none⟩), .slice ka kn kc] w fun e w' => e = .returned (.tuple #[.bool true, .int .i64 0]) ∧ ∃ sv2 f, Gath w0 w' ch st mb M { M' with c := M'.c - 1 } v v' sv2 ns SL (fs ++ [f]) (ss ++ [.lay l.pg (pageBk ⟨l.d, l.x, l.ps.eraseIdx i⟩)]) := by
  obtain ⟨A', c', hv'e, hc', hri⟩ := h.ri
  have hfew := h.few
  have hb1 : Below w.heap.size w w.drew := (Below.refl _ _).drew
  have hg1 := h.keep hb1
  obtain ⟨_, _, _, _, _, y6, y7, y8, y9, y10, _⟩ := hg1.at_.cells2
  have y0 := hg1.at_.cells.1
  rw [hv'e] at y10
  have hk1 := hk.below hb1
  have HZ2 := Lib.hid (show ∀ W, Below w.drew.heap.size w.drew W → W.cell? ⟨ch, 0, none⟩ = some (.pointer (some ⟨st, 0, none⟩)) ∧ W.cell? ⟨ch, 6, none⟩ = some (.int .i64 M'.d) ∧ W.cell? ⟨ch, 7, none⟩ = some (.int .i64 M'.f) ∧ W.cell? ⟨ch, 8, none⟩ = some (.int .i64 M'.n) ∧ W.cell? ⟨ch, 9, none⟩ = some (.int .i64 M'.c) ∧ W.cell? ⟨ch, 10, none⟩ = some (.slice A' M'.l.length c') from fun W hb2 => ⟨(hb2.cell (p := ⟨ch, 0, none⟩) (World.block_lt_of_cell? _ _ y0)).trans y0, (hb2.cell (p := ⟨ch, 6, none⟩) (World.block_lt_of_cell? _ _ y6)).trans y6, (hb2.cell (p := ⟨ch, 7, none⟩) (World.block_lt_of_cell? _ _ y7)).trans y7, (hb2.cell (p := ⟨ch, 8, none⟩) (World.block_lt_of_cell? _ _ y8)).trans y8, (hb2.cell (p := ⟨ch, 9, none⟩) (World.block_lt_of_cell? _ _ y9)).trans y9, (hb2.cell (p := ⟨ch, 10, none⟩) (World.block_lt_of_cell? _ _ y10)).trans y10⟩)
  have HCH := Lib.hid (chainOf_any api ((hS.below api h.bel).below api hb1) M'.d M'.f M'.n M'.c (A0 := A') (cap := c') (Kc := kc) pg (hri.below hb1) hb1.size hc' (by unfold maxLen; omega) hk1.1 (Nat.le_refl _) hkc.2 hc.dir hc.ok hc.few hc.all)
  have HG := Lib.hid h
  have HB1 := Lib.hid hb1
  have HK := Lib.hid hk
  have HLT := Lib.hid h.lt
  have HFD := Lib.hid hfd
  have hlen : ls.length ≤ 4294967296 := by have := hc.few; have := hc.all; omega
  have hmls : m < ls.length := (List.getElem?_eq_some_iff.1 hfd.leaf).1
  have wrc : IntKind.i64.wrap (M'.c - 1) = M'.c - 1 := by rw [IntKind.wrap_i64]; first | (unfold wrap64; omega) | omega
  have hi0 : i < l.ps.length := hfd.lt
  clear h hk hg1 hk1 hc hri hS hfd
  go_enter Tryz.func64, Tryz.ntmps64
  go_wp2_with fail
  go_region_held3 (fun W => W.cell? ⟨ch, 0, none⟩ = some (.pointer (some ⟨st, 0, none⟩)) ∧ W.cell? ⟨ch, 6, none⟩ = some (.int .i64 M'.d) ∧ W.cell? ⟨ch, 7, none⟩ = some (.int .i64 M'.f) ∧ W.cell? ⟨ch, 8, none⟩ = some (.int .i64 M'.n) ∧ W.cell? ⟨ch, 9, none⟩ = some (.int .i64 M'.c) ∧ W.cell? ⟨ch, 10, none⟩ = some (.slice A' M'.l.length c'))
    (first | with_reducible exact z2 | exact ⟨y0, y6, y7, y8, y9, y10⟩)
    (first
      | (go_at_call 61; refine HCH.out.mono ?_; rintro e w2 ⟨A2, c2, rfl, hch2, hb2⟩; have z2 := HZ2.out w2 hb2))
  have hk2 := ((HK.out.below HB1.out).below hb2)
  have HFI := Lib.hid (extFind_any (Kc := kc) hch2 hk2.1 (Nat.le_refl _) hlen)
  have HCH2 := Lib.hid hch2
  have HB2 := Lib.hid hb2
  clear HCH hch2 hb2 hk2 y0 y6 y7 y8 y9 y10 HZ2 z2
  go_wp2_with fail
  refine HFI.out.mono ?_
  rintro e w3 ⟨a, z, rfl, hfr, hb3⟩
  obtain ⟨rfl, rfl⟩ := HFD.out.same hfr
  have hb13 := HB2.out.trans (hb3.mono HB2.out.size)
  have hb03 := HB1.out.trans (hb13.mono HB1.out.size)
  have hg3 := HG.out.keep hb03
  obtain ⟨_, _, _, _, _, _, _, _, x9, _, _⟩ := hg3.at_.cells2
  have hat3 := hg3.at_
  unfold ChAt at hat3
  have f9 : w3.frozen? ⟨ch, 9, none⟩ = false := by simp [World.frozen?, hat3]
  have hchl : ch < w.heap.size := (HLT.out ch (.inl rfl)).2
  have hcl : ch < w.drew.heap.size := Nat.lt_of_lt_of_le hchl HB1.out.size
  obtain ⟨w4, hw4⟩ : ∃ w4, w4 = w3.setCell ⟨ch, 9, none⟩ (.int .i64 (M'.c - 1)) := ⟨_, rfl⟩
  have hg4 : Gath w0 w4 ch st mb M { M' with c := M'.c - 1 } v v' sv ns SL fs ss := by rw [hw4]; exact hg3.setCount _
  have hch4 : ChainAt w.drew w4 (.slice A2 ls.length c2) ls := by rw [hw4]; exact (HCH2.out.below hb3).poke hcl _
  obtain ⟨g, A5, n5, c5, rfl, hgl, hwg, s0, s1, s2, s3, hn5, hm5, hst5, _⟩ := hch4.leaf HFD.out.leaf (Below.refl _ _)
  obtain ⟨lpg, ld, lx, ps⟩ := l
  simp only at s0 s1 s2 hst5 hi0 hln hlpg hd hx hmay hcase
  have hn5e : ps.length = n5 := hst5.now.1
  have hGin : ∀ k, (k < w.drew.heap.size ∨ k = g) → k < w4.heap.size := fun k hk => by
    rcases hk with e | e
    · exact Nat.lt_of_lt_of_le e (Nat.le_trans hb13.size (by rw [hw4]; simp [World.setCell]))
    · rw [e]; exact hgl
  have HWO := Lib.hid (without_any (l := ⟨lpg, ld, lx, ps⟩) (i := i) hn5 hst5 hGin (by omega) (by omega))
  have HG4 := Lib.hid hg4
  have hm' : (m : Int) < (ls.length : Int) := by omega
  have s0' := s0
  have s1' := s1
  have s2' := s2
  have s3' := s3
  rw [hw4] at s0' s1' s2' s3'
  have hb04 : w.heap.size ≤ w4.heap.size := by rw [hw4]; simpa [World.setCell] using hb03.size
  clear hfr hb3 hb13 hb03 hg3 hat3 HFI hg4 hch4 hst5 hGin HB2 HCH2 hcl
  go_wp2_with fail
  rw [← hw4]
  clear hw4 s0' s1' s2' s3' x9 f9
  refine HWO.out.mono ?_
  rintro e w5 ⟨lv, rfl, ⟨A6, n6, c6, rfl, hc6, hn6, hst6⟩, hb5⟩
  simp only at hst6
  have hn6e : (ps.eraseIdx i).length = n6 := hst6.now.1
  obtain ⟨w6, hw6⟩ : ∃ w6, w6 = w5.alloc (.cells #[.int .i64 lpg, .int .i64 ld, .int .i64 lx, .slice A6 n6 c6] 92) := ⟨_, rfl⟩
  have hba : Below w5.heap.size w5 w6 := by rw [hw6]; exact (Below.refl _ _).alloc (Nat.le_refl _) _
  have hbx : w6.heap[w5.heap.size]? = some (.cells #[.int .i64 lpg, .int .i64 ld, .int .i64 lx, .slice A6 n6 c6] 92 (0, 0)) := by rw [hw6]; exact heap_alloc_new _ _
  obtain ⟨t0, t1, t2, t3, _, _⟩ := cells_four hbx
  have hb46 : Below w4.heap.size w4 w6 := hb5.trans (hba.mono hb5.size)
  have HKP := Lib.hid (keep_g (HG4.out.keep hb46) (l := ⟨lpg, ld, lx, ps.eraseIdx i⟩) ⟨A6, n6, c6, rfl, hc6, hn6, hst6.below hba⟩ hlpg hd hx hmay hmm)
  have t3' := t3
  rw [hw6] at t3'
  clear hba hbx hb46 hst6 hb5 HG4 HWO s0 s1 s2 s3
  by_cases hm0 : m = 0
  · subst hm0
    clear hcase
    go_wp2_with fail
    rw [← hw6]
    clear hw6 t3'
    go_wp2_with fail
    refine HKP.out.mono ?_
    rintro e w7 ⟨rfl, sv2, f, hg7, _⟩
    have HE := Lib.hid hg7
    clear hg7 HKP
    go_wp2_with fail
    go_ret2
    exact ⟨rfl, sv2, f, by have q := HE.out; rw [hv'e] at q; exact q⟩
  · have hmp : (m : Int) > 0 := by omega
    have hne : ((n6 : Int) == 0) = false := by
      have := hcase.resolve_left hm0
      rw [hn6e] at this
      simp
      exact this
    clear hcase
    go_wp2_with fail
    rw [← hw6]
    clear hw6 t3'
    go_wp2_with fail
    refine HKP.out.mono ?_
    rintro e w7 ⟨rfl, sv2, f, hg7, _⟩
    have HE := Lib.hid hg7
    clear hg7 HKP
    go_wp2_with fail
    go_ret2
    exact ⟨rfl, sv2, f, by have q := HE.out; rw [hv'e] at q; exact q⟩
end
end Go.Proofs.YtinhdimalhfgkaaGreatDoor

/-
  Contract of the store's Put, of a key that is not there and has room. Conditions: numbers and lengths are ints; each step succeeds.
-/
namespace Go.Proofs.YtinhdimalhfgkaaGreatDoor
open Go.RowKit
set_option maxRecDepth 100000
set_option linter.unusedVariables false

section
variable {D : World → (Nat → Prop) → Addr → DS → Prop} {w w' : World} {F O : Nat → Prop} {p : Addr} {S : DS} {q r b st : Nat} {seq : Int} {L : List (Int × List Int)}

/-- A store in memory, whose pages all have their length. -/
structure Top (D : World → (Nat → Prop) → Addr → DS → Prop) (w : World) (F O : Nat → Prop) (p : Addr) (S : DS) (q : Nat) (seq : Int) (r b st : Nat) (L : List (Int × List Int)) : Prop where
  at_ : SAt D w F O p S q seq r b st L
  len : LenS S
  out : ¬ O 1
theorem Top.below (api : DiskApi D) (h : Top D w F O p S q seq r b st L) (hb : Below w.heap.size w w') : Top D w' F O p S q seq r b st L := ⟨h.at_.below api hb, h.len, h.out⟩
/-- What a call leaves of it. -/
def TopAft (D : World → (Nat → Prop) → Addr → DS → Prop) (w : World) (F O : Nat → Prop) (p : Addr) (S : DS) (q : Nat) (seq : Int) (r b st : Nat) (L' : List (Int × List Int)) (w' : World) : Prop :=
  ∃ O', Top D w' F O' p S q seq r b st L' ∧ Touch O w w' ∧ ∀ k, O' k → O k ∨ w.heap.size ≤ k
theorem Top.did (h : Top D w F O p S q seq r b st L) {L' : List (Int × List Int)} (hd : Did D w F O p S q seq r b L' w') : TopAft D w F O p S q seq r b st L' w' := by
  obtain ⟨O', h1, h2, h3⟩ := hd
  refine ⟨O', ⟨⟨h1, Did.tab h.out h.at_.tab h2, h.len.get h1.all, (h2.block st h.at_.lt h.at_.out).trans h.at_.sto, fun e => ?_⟩, h.len, fun e => ?_⟩, h2, h3⟩
  · rcases h3 st e with a | a
    · exact h.at_.out a
    · have := h.at_.lt
      omega
  · rcases h3 _ e with a | a
    · exact h.out a
    · have := h.at_.tab.lt
      omega

/-- Which Metas may be laid. -/
def IntsM (M : MV) : Prop := (-9223372036854775808 ≤ M.d ∧ M.d ≤ 9223372036854775807) ∧ (-9223372036854775808 ≤ M.f ∧ M.f ≤ 9223372036854775807) ∧ (-9223372036854775808 ≤ M.n ∧ M.n ≤ 9223372036854775807) ∧ (-9223372036854775808 ≤ M.c ∧ M.c ≤ 9223372036854775807)

set_option maxHeartbeats 3200000 in
theorem store_put (api : DiskApi D) (h : Top D w F O p S q seq r b st L) {M : MV} (hM : HeadIs S L M) {ka va : Option Addr} {kn kc vn vc B B' : Nat} {x : KV} (hk : RB w B ka kn x.1) (hB : B ≤ w.heap.size) (hv : RB w B' va vn x.2) (hB' : B' ≤ w.heap.size) (hkc : kn ≤ kc ∧ kn ≤ maxLen) (hvc : vn ≤ vc ∧ vn ≤ maxLen) (hk1 : 1 ≤ kn ∧ kn ≤ 32) (hv1 : vn ≤ 120)
    {pg : Int} {ls : List Leaf} (hc : ChainIs S L M x.1 pg ls) (hno : ∀ (m : Nat) (l : Leaf), ls[m]? = some l → findI l.ps x.1 < 0) (hcnt : -9223372036854775808 ≤ M.c ∧ M.c < 9223372036854775807)
    {m : Nat} {l : Leaf} (hml : ls[m]? = some l) (hfit : 8 + szP (l.ps ++ [x]) ≤ 240) (hnot : ∀ (j : Nat) (y : Leaf), j < m → ls[j]? = some y → ¬ 8 + szP (y.ps ++ [x]) ≤ 240) (hsz : ∀ (j : Nat) (y : Leaf), ls[j]? = some y → szP (y.ps ++ [x]) ≤ 4611686018427387904 ∧ y.ps.length ≤ 4294967295)
    (hlpg : -9223372036854775808 ≤ l.pg ∧ l.pg ≤ 9223372036854775807) (hd : -9223372036854775808 ≤ l.d ∧ l.d ≤ 9223372036854775807) (hx : -9223372036854775808 ≤ l.x ∧ l.x ≤ 9223372036854775807) (hmay : mayBk ⟨l.d, l.x, l.ps ++ [x]⟩ = true)
    (hN : IntsM { M with c := M.c + 1 }) (hmayM : mayB { M with c := M.c + 1 } = true) (hok : okS S { M with c := M.c + 1 } L (finS M { M with c := M.c + 1 } [.lay l.pg (pageBk ⟨l.d, l.x, l.ps ++ [x]⟩)])) :
    Calls Tryz.prog 20 #[.pointer (some ⟨st, 0, none⟩), .slice ka kn kc, .slice va vn vc] w fun e w' => e = .returned (.int .i64 0) ∧ TopAft D w F O p S q seq r b st (runS S { M with c := M.c + 1 } L (finS M { M with c := M.c + 1 } [.lay l.pg (pageBk ⟨l.d, l.x, l.ps ++ [x]⟩)])) w' := by
  have HMD := Lib.hid (extMade_yes h.at_.sto)
  have HHD := Lib.hid (head_any api h.at_ hM)
  have HT := Lib.hid h
  have HK := Lib.hid (hk.more hB)
  have HV := Lib.hid (hv.more hB')
  have HPUT := Lib.hid (show ∀ (w2 w3 : World) (ch mb : Nat) (v v' sv : Value), Below w.heap.size w w2 → Gath w2 w3 ch st mb M M v v' sv 0 (fun _ => none) [] [] → Calls Tryz.prog 67 #[.pointer (some ⟨ch, 0, none⟩), .agg #[.slice ka kn kc, .slice va vn vc]] w3 fun e w' => e = .returned (.int .i64 0) ∧ ∃ sv2 f, Gath w2 w' ch st mb M { M with c := M.c + 1 } v v' sv2 0 (fun _ => none) [f] [.lay l.pg (pageBk ⟨l.d, l.x, l.ps ++ [x]⟩)] from
    fun w2 w3 ch mb v v' sv hb hg => put_new api (h.at_.below api hb) hg (BIn.of_below (hk.more hB) (hb.trans (hg.bel.mono hb.size)) (fun k hk => Nat.le_trans hb.size (hg.lt k hk).1)) (BIn.of_below (hv.more hB') (hb.trans (hg.bel.mono hb.size)) (fun k hk => Nat.le_trans hb.size (hg.lt k hk).1)) hkc hvc hc hno hcnt hml hfit hnot hsz hlpg hd hx hmay (by decide))
  have HFIN := Lib.hid (show ∀ (w2 w3 : World) (ch mb : Nat) (v v' sv : Value) (f : Value), Below w.heap.size w w2 → Gath w2 w3 ch st mb M { M with c := M.c + 1 } v v' sv 0 (fun _ => none) [f] [.lay l.pg (pageBk ⟨l.d, l.x, l.ps ++ [x]⟩)] → Calls Tryz.prog 65 #[.pointer (some ⟨ch, 0, none⟩)] w3 fun e w' => e = .returned (.int .i64 0) ∧ TopAft D w F O p S q seq r b st (runS S { M with c := M.c + 1 } L (finS M { M with c := M.c + 1 } [.lay l.pg (pageBk ⟨l.d, l.x, l.ps ++ [x]⟩)])) w' from
    fun w2 w3 ch mb v v' sv f hb hg => (finish_g api (h.at_.below api hb) hg h.len (fun k hk => Nat.lt_of_lt_of_le (h.at_.pg.lt k hk) hb.size) h.out hN hmayM (by simp) hok).mono fun e w' z => ⟨z.1, h.did (z.2.base hb)⟩)
  clear h hM hk hv hc hno hml hfit hnot hsz hlpg hd hx hmay hN hmayM hok hcnt
  have k1 : decide ((kn : Int) < 1) = false := by simp; omega
  have k2 : decide ((kn : Int) > 32) = false := by simp; omega
  have k3 : decide ((vn : Int) > 120) = false := by simp; omega
  go_enter Tryz.func20, Tryz.ntmps20
  go_wp2_with fail
  refine HMD.out.mono ?_
  rintro e w1 ⟨rfl, rfl⟩
  go_wp2_with fail
  refine HHD.out.mono ?_
  rintro e w1 ⟨A, k, c, rfl, hkc1, hk1000, hri, _, hb1⟩
  obtain ⟨w2, hw2⟩ : ∃ w2, w2 = w1.alloc (.cells #[.int .i64 M.d, .int .i64 M.f, .int .i64 M.n, .int .i64 M.c, .slice A k c] 41) := ⟨_, rfl⟩
  have hba : Below w1.heap.size w1 w2 := by rw [hw2]; exact (Below.refl _ _).alloc (Nat.le_refl _) _
  have hb2 : Below w.heap.size w w2 := hb1.trans (hba.mono hb1.size)
  have HCO := Lib.hid (changeOf_any (w := w2) (st := st) (c := c) M ((hri.below hba).more hba.size) hkc1 hk1000)
  have HB2 := Lib.hid hb2
  clear hri hb1 hba hb2 HHD
  go_wp2_with fail
  rw [← hw2]
  clear hw2
  refine HCO.out.mono ?_
  rintro e w3 ⟨v', rfl, hg3⟩
  have HP := Lib.hid (HPUT.out w2 w3 _ _ _ _ _ HB2.out hg3)
  generalize w2.heap.size + 2 = ch at HP ⊢
  clear hg3 HCO
  go_wp2_with fail
  refine HP.out.mono ?_
  rintro e w4 ⟨rfl, sv2, f, hg4⟩
  have HF := Lib.hid (HFIN.out w2 w4 _ _ _ _ _ f HB2.out hg4)
  clear hg4 HP
  go_wp2_with fail
  refine HF.out.mono ?_
  rintro e w5 ⟨rfl, ht⟩
  have HE := Lib.hid ht
  clear ht HF
  go_wp2_with fail
  go_ret
  exact ⟨rfl, HE.out⟩
end
end Go.Proofs.YtinhdimalhfgkaaGreatDoor
