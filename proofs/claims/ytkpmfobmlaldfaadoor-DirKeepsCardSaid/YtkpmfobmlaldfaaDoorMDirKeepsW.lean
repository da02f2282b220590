/-
  Walk of DirKeeps, over any disk that answers as it is to: it returns true. Condition: the table that crc.Step reads holds what the program's text lays in it.
-/
import Derived.Test.YtkpmfobmlaldfaaDoorG7
namespace Go.Proofs.YtkpmfobmlaldfaaDoor
open Go.RowKit
set_option maxRecDepth 100000
set_option linter.unusedVariables false

/-- A slice of 16-bit numbers. -/
def R16 (w : World) (B : Nat) (A : Option Addr) (n : Nat) (l : List Int) : Prop :=
  l.length = n ∧ (∀ x ∈ l, 0 ≤ x ∧ x < 65536) ∧ (0 < n → ∃ b off, A = some ⟨b, off, none⟩ ∧ b < B ∧ ∀ j, j < n → w.cell? ⟨b, off + j, none⟩ = some (.int .u16 (l[j]?.getD 0)))
theorem u16_bounds {n : Int} (h : (Lit.int .u16 n).wf = true) : 0 ≤ n ∧ n < 65536 := by
  simp [Lit.wf, IntKind.min, IntKind.max, IntKind.signed, IntKind.bits] at h
  omega
theorem u32_bounds {n : Int} (h : (Lit.int .u32 n).wf = true) : 0 ≤ n ∧ n < 4294967296 := by
  simp [Lit.wf, IntKind.min, IntKind.max, IntKind.signed, IntKind.bits] at h
  omega
theorem R16.of_cells {w : World} {x : Addr} {len cap : Nat} {zs : List Int} (hl : len ≤ cap) (hz : zs.length = cap) (hcell : ∀ i, i < zs.length → w.cell? (x.add i) = some (.int .u16 (zs.getD i 0))) (hw : ∀ n ∈ zs, (Lit.int .u16 n).wf = true) : R16 w w.heap.size (some x) len (zs.take len) := by
  refine ⟨by simp; omega, fun y hy => u16_bounds (hw y (List.mem_of_mem_take hy)), fun hn => ?_⟩
  obtain ⟨b, off, spot⟩ := x
  have hc := hcell 0 (by omega)
  have hspot : spot = none := by simpa [Addr.add] using World.cell?_spot hc
  subst hspot
  refine ⟨b, off, rfl, ?_, fun j hj => ?_⟩
  · rw [add_none] at hc
    exact World.block_lt_of_cell? _ _ hc
  · have := hcell j (by omega)
    have e : (zs.take len)[j]?.getD 0 = zs.getD j 0 := by simp [hj]
    rw [e, ← add_none]
    exact this
theorem R16.range {w : World} {B n : Nat} {A : Option Addr} {l : List Int} (h : R16 w B A n l) (j : Nat) : 0 ≤ l[j]?.getD 0 ∧ l[j]?.getD 0 < 65536 := by
  cases hj : l[j]? with
  | none => simp
  | some x => exact h.2.1 x (List.mem_of_getElem? hj)

section
variable {D : World → (Nat → Prop) → Addr → DS → Prop}

/-- Behind some rounds. -/
def KRound (D : World → (Nat → Prop) → Addr → DS → Prop) (w : World) (F : Nat → Prop) (p : Addr) (S : DS) (q r b g bx : Nat) (wr : World) : Prop := ∃ O L, KIn D w wr F O p S q r b L g bx 10 18 d18

set_option maxHeartbeats 8000000 in
theorem dirKeeps_walk (api : DiskApi D) {w : World} {A : Option Addr} {len cap : Nat} {l : List Int} {a b page : Nat} (hr : R16 w w.heap.size A len l) (hm : len ≤ maxLen) (ha : a < 65536) (hb : b < 65536) (hp : page < 4294967296) (ht : Tab w ∧ 0 < w.heap.size) :
    Calls Tryd.prog 4 #[.slice A len cap, .int .u16 (a : Int), .int .u16 (b : Int), .int .u32 (page : Int)] w fun e w' => e = .returned (.bool true) ∧ Below w.heap.size w w' := by
  unfold maxLen at hm
  obtain ⟨_, r5, _, r7⟩ := S0_facts (n := 61) (by decide)
  have HFR := Lib.hid (fresh11_any api w ht)
  generalize S0 61 = S at *
  have HS := Lib.hid (And.intro r5 r7)
  have HAWK := Lib.hid (fun w1 (hb : Below w.heap.size w w1) => dirAwake_any api w1 ⟨ht.1.below hb ht.2, Nat.lt_of_lt_of_le ht.2 hb.size⟩)
  have HR := Lib.hid hr
  obtain ⟨qa, hqa, hqa2⟩ : ∃ qa : Nat, (a : Int) % 1024 = (qa : Int) ∧ qa < 1024 := ⟨a % 1024, by omega, by omega⟩
  obtain ⟨qb, hqb, hqb2⟩ : ∃ qb : Nat, (b : Int) % 1024 = (qb : Int) ∧ qb < 1024 := ⟨b % 1024, by omega, by omega⟩
  clear r5 r7 hr
  by_cases hgo : len ≤ 40 ∧ qa ≠ qb
  case neg =>
    by_cases h40 : len ≤ 40
    · have k1 : decide ((len : Int) > 40) = false := by simp; omega
      obtain rfl : qa = qb := by
        rcases Nat.decEq qa qb with h | h
        · exact absurd ⟨h40, h⟩ hgo
        · exact h
      go_enter Tryd.func4, Tryd.ntmps4
      go_wp2_with fail
      refine HFR.out.mono ?_
      rintro e w1 ⟨r, xr, bb, q, q', F, O, G, p, xa, rfl, hT⟩
      have HB1 := Lib.hid hT.bel
      have HAW := Lib.hid (HAWK.out w1 hT.bel)
      clear hT HFR
      go_wp2_with fail
      refine HAW.out.mono ?_
      rintro e we ⟨rfl, hbe⟩
      have HF := Lib.hid (HB1.out.trans (hbe.mono HB1.out.size))
      clear hbe
      go_wp2
      go_ret
      exact ⟨rfl, HF.out⟩
    · have k1 : decide ((len : Int) > 40) = true := by simp; omega
      go_enter Tryd.func4, Tryd.ntmps4
      go_wp2_with fail
      refine HFR.out.mono ?_
      rintro e w1 ⟨r, xr, bb, q, q', F, O, G, p, xa, rfl, hT⟩
      have HB1 := Lib.hid hT.bel
      have HAW := Lib.hid (HAWK.out w1 hT.bel)
      clear hT HFR
      go_wp2_with fail
      refine HAW.out.mono ?_
      rintro e we ⟨rfl, hbe⟩
      have HF := Lib.hid (HB1.out.trans (hbe.mono HB1.out.size))
      clear hbe
      go_wp2
      go_ret
      exact ⟨rfl, HF.out⟩
  obtain ⟨h40, hab⟩ := hgo
  have k1 : decide ((len : Int) > 40) = false := by simp; omega
  have k2 : ((qa : Int) == (qb : Int)) = false := by simp; omega
  go_enter Tryd.func4, Tryd.ntmps4
  go_wp2_with fail
  refine HFR.out.mono ?_
  rintro e w1 ⟨r, xr, bb, q, q', F, O, G, p, xa, rfl, h1⟩
  have hOl := h1.pg.lt
  generalize hLIT : Obj.cells #[.int .i64 1, .int .i64 2, .int .i64 3, .int .i64 4, .int .i64 5, .int .i64 6, .int .i64 7, .int .i64 8, .int .i64 9, .int .i64 10, .int .i64 11, .int .i64 12, .int .i64 13, .int .i64 14, .int .i64 15, .int .i64 16, .int .i64 17, .int .i64 18] 3 (0, 0) = LIT at *
  have hX : Below w1.heap.size w1 ((w1.alloc LIT).alloc (.cells #[.int .i64 10, .int .i64 0, .int .i64 0, .int .i64 0, .slice (some ⟨w1.heap.size, 0, none⟩) 18 18] 24)) := ((Below.refl _ _).alloc (Nat.le_refl _) _).alloc (by simp) _
  have hri : RI (w1.alloc LIT) (w1.heap.size + 1) (some ⟨w1.heap.size, 0, none⟩) 18 d18 := by
    rw [← hLIT]
    exact RI.lit w1 3 d18 _ rfl (by decide)
  have hri2 := hri.below (((Below.refl _ _).alloc (by simp) (.cells #[.int .i64 10, .int .i64 0, .int .i64 0, .int .i64 0, .slice (some ⟨w1.heap.size, 0, none⟩) 18 18] 24)) : Below (w1.heap.size + 1) _ _)
  have hbox := DBox.new (w1.alloc LIT) 10 0 0 0 (.slice (some ⟨w1.heap.size, 0, none⟩) 18 18)
  have hs1 : (w1.alloc LIT).heap.size = w1.heap.size + 1 := by simp
  rw [hs1] at hbox
  have HK : Hid (KRound D w F p S q r bb w1.heap.size (w1.heap.size + 1) ((w1.alloc LIT).alloc (.cells #[.int .i64 10, .int .i64 0, .int .i64 0, .int .i64 0, .slice (some ⟨w1.heap.size, 0, none⟩) 18 18] 24))) := Lib.hid ⟨O, [], h1.toLawP.later api hX, hbox, hri2, ⟨fun a => by have := hOl _ a; omega, fun a => by have := hOl _ a; omega⟩, by simp, by decide⟩
  clear h1 hOl hX hri hri2 hbox hs1 HFR O G
  subst hLIT
  go_wp2_with fail
  rw [hqa, hqb]
  go_loopw [47] (fun i wr => ∃ k : Nat, k ≤ len ∧ i = .int .i64 k ∧ Hid (KRound D w F p S q r bb w1.heap.size (w1.heap.size + 1) wr)) (fun i _ => len - (intOf i).toNat)
  case atStart => exact ⟨0, Nat.zero_le _, rfl, HK⟩
  case round =>
    clear HK
    obtain ⟨k, hk, rfl, hM⟩ := hrel
    obtain ⟨O, L, hKI⟩ := hM.out
    have HKI := Lib.hid hKI
    obtain ⟨z0, z1, z2, z3, z4, _⟩ := hKI.box.cells
    by_cases hlt : k < len
    · have hlt' : (k : Int) < (len : Int) := by omega
      obtain ⟨db, doff, rfl, hdb, hdat⟩ := HR.out.2.2 (by omega)
      have hck := (hKI.law.bel.cell (p := ⟨db, doff + k, none⟩) hdb).trans (hdat k hlt)
      obtain ⟨n0, n1⟩ := R16.range HR.out k
      generalize l[k]?.getD 0 = nn at hck n0 n1
      obtain ⟨qn, hqn, hqn2⟩ : ∃ qn : Nat, nn % 1024 = (qn : Int) ∧ qn < 1024 := ⟨(nn % 1024).toNat, by omega, by omega⟩
      obtain ⟨g1, _⟩ := good_keeps (L := L) (slot := (qn : Int)) (page := (k : Int)) good18 HS.out.1 HS.out.2 hKI.law.lens (ok18 hqn2) (by omega)
      have HST := Lib.hid (hKI.set api HS.out.1 HS.out.2 (qn : Int) (k : Int) (by omega))
      rw [g1] at HST
      clear hdat g1 hKI hM
      go_wp2_with fail
      refine HST.out.mono ?_
      rintro e w2 ⟨rfl, O2, h2⟩
      have HE := Lib.hid (show KRound D w F p S q r bb w1.heap.size (w1.heap.size + 1) w2 from ⟨O2, _, h2⟩)
      clear h2 HST z0 z1 z2 z3 z4 hck
      go_wp2
      go_roundw
      case rel => exact ⟨k + 1, by omega, by go_num, HE⟩
      case measure => simp [intOf]; omega
    · obtain rfl : k = len := by omega
      have hla := hKI.law.lens
      have g2 := good_get (L := L) good18 HS.out.1 HS.out.2 (ok18 hqb2)
      obtain ⟨g3, g4⟩ := good_keeps (L := L) (slot := (qa : Int)) (page := (page : Int)) good18 HS.out.1 HS.out.2 hla (ok18 hqa2) (by omega)
      have g5 := (g4 _ (ok18 hqa2)).trans (if_pos rfl)
      have g6 := (g4 _ (ok18 hqb2)).trans (if_neg (by omega))
      have HG1 := Lib.hid (hKI.get api HS.out.1 HS.out.2 (qb : Int))
      rw [g2] at HG1
      have HG := Lib.hid (And.intro g2 (And.intro g3 (And.intro g5 g6)))
      clear g2 g3 g4 g5 g6 hla hKI hM HKI
      go_wp2_with fail
      refine HG1.out.mono ?_
      rintro e w2 ⟨rfl, h2⟩
      have HST := Lib.hid (h2.set api HS.out.1 HS.out.2 (qa : Int) (page : Int) (by omega))
      rw [HG.out.2.1] at HST
      obtain ⟨y0, y1, y2, y3, y4, _⟩ := h2.box.cells
      clear h2 HG1 z0 z1 z2 z3 z4
      go_wp2_with fail
      refine HST.out.mono ?_
      rintro e w3 ⟨rfl, O3, h3⟩
      have HG3 := Lib.hid (h3.get api HS.out.1 HS.out.2 (qa : Int))
      rw [HG.out.2.2.1] at HG3
      obtain ⟨x0, x1, x2, x3, x4, _⟩ := h3.box.cells
      clear h3 HST y0 y1 y2 y3 y4
      go_wp2_with fail
      refine HG3.out.mono ?_
      rintro e w4 ⟨rfl, h4⟩
      have HG4 := Lib.hid (h4.get api HS.out.1 HS.out.2 (qb : Int))
      rw [HG.out.2.2.2, HG.out.1] at HG4
      obtain ⟨u0, u1, u2, u3, u4, _⟩ := h4.box.cells
      clear h4 HG3 x0 x1 x2 x3 x4
      go_wp2_with fail
      refine HG4.out.mono ?_
      rintro e w5 ⟨rfl, h5⟩
      have HB5 := Lib.hid h5.law.bel
      have HAW := Lib.hid (HAWK.out w5 h5.law.bel)
      clear h5 HG4 u0 u1 u2 u3 u4
      go_wp2_with fail
      refine HAW.out.mono ?_
      rintro e w6 ⟨rfl, hb6⟩
      have HF := Lib.hid (HB5.out.trans (hb6.mono HB5.out.size))
      clear hb6
      go_wp2
      go_ret
      exact ⟨rfl, HF.out⟩
end
end Go.Proofs.YtkpmfobmlaldfaaDoor
