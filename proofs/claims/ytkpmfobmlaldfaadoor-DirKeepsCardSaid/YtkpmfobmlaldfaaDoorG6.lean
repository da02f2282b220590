/-
  The texts DirC, DirD, Blk, AppB, DirE, PgT, PgU, StepImg, PgI, AnyT, AnyZ, PgV, DirF, PageFn7, PgAw, DirG joined. Conditions: those that each part says at its head.
-/
import Derived.Test.YtkpmfobmlaldfaaDoorG3
import Derived.Test.YtkpmfobmlaldfaaDoorG5
import Derived.Test.YtkpmfobmlaldfaaDoorG1
import Derived.Test.YtkpmfobmlaldfaaDoorG2
import Derived.Laws.CopyOwn
import Derived.Deep.RegionLaw
import Derived.Lib.AppendZerosOnto
import Derived.Maps.AppendAt
import Derived.Deep.RegionHeld3
import Derived.Lib.AppendZeros
import Derived.OrdersHeld
import Derived.StillTail
import Derived.Deep.AppendLies

/-
  Contracts of dir.place, dir.Get and of the plain Get: over any pager that answers as it is to. Conditions: the table that crc.Step reads holds what the program's text lays in it; a page that is loaded has 240 bytes.
-/
namespace Go.Proofs.YtkpmfobmlaldfaaDoor
open Go.RowKit
set_option maxRecDepth 100000
set_option linter.unusedVariables false

/-- The page of the directory on which a slot stands. -/
def ownD (l : List Int) (slot : Int) : Int := l[(slot / 60).toNat]?.getD 0
/-- What Get answers. -/
def dirGetR (S : DS) (L : List (Int × List Int)) (d : Int) (k : Nat) (l : List Int) (slot : Int) : Int × Int :=
  if okD d k slot = true then
    (if (getPg S L (ownD l slot)).2 = 0 then (numOf (((getPg S L (ownD l slot)).1.drop ((slot % 60).toNat * 4)).take 4), 0) else (0, (getPg S L (ownD l slot)).2))
  else (0, 1)

theorem okD_nat {d : Int} {k : Nat} {slot : Int} (h : okD d k slot = true) : ∃ a t : Nat, slot / 60 = (a : Int) ∧ slot % 60 = (t : Int) ∧ a < k ∧ t < 60 ∧ k ≤ 18 ∧ 0 ≤ slot ∧ slot < 1024 := by
  have h' := of_decide_eq_true h
  obtain ⟨_, ⟨h1, h2⟩, h3⟩ := h'
  have hp := powD_le d
  unfold needD at h3
  generalize 2 ^ depD d = m at *
  exact ⟨(slot / 60).toNat, (slot % 60).toNat, by omega, by omega, by omega, by omega, by omega, h1, by omega⟩

theorem RI.range {w : World} {B n : Nat} {A : Option Addr} {l : List Int} (h : RI w B A n l) (j : Nat) : -9223372036854775808 ≤ l[j]?.getD 0 ∧ l[j]?.getD 0 ≤ 9223372036854775807 := by
  cases hj : l[j]? with
  | none => simp
  | some x => exact h.2.1 x (List.mem_of_getElem? hj)

set_option maxHeartbeats 3200000 in
theorem dirPlace_any (d f n c : Int) {A : Option Addr} {k cap B : Nat} {l : List Int} {slot : Int} {w : World} (hr : RI w B A k l) (hB : B ≤ w.heap.size) (hk : k ≤ cap) (hok : okD d k slot = true) :
    Calls Tryd.prog 23 #[.agg #[.int .i64 d, .int .i64 f, .int .i64 n, .int .i64 c, .slice A k cap], .int .i64 slot] w fun e w' => e = .returned (.tuple #[.int .i64 (ownD l slot), .int .i64 ((((slot % 60).toNat * 4 : Nat)) : Int)]) ∧ Below w.heap.size w w' := by
  obtain ⟨a, t, ha, ht, hak, ht60, hk18, hs0, hs1⟩ := okD_nat hok
  have HX := Lib.hid (show Below w.heap.size w (w.alloc (.cells #[.int .i64 d, .int .i64 f, .int .i64 n, .int .i64 c, .slice A k cap] 24)) from (Below.refl _ _).alloc (Nat.le_refl _) _)
  obtain ⟨z0, z1, z2, z3, z4, _⟩ := (DBox.new w d f n c (.slice A k cap)).cells
  obtain ⟨b, off, rfl, hb, hcell⟩ := hr.2.2 (by omega)
  have hc := (HX.out.cell (p := ⟨b, off + a, none⟩) (Nat.lt_of_lt_of_le hb hB)).trans (hcell a hak)
  have hown : ownD l slot = l[a]?.getD 0 := by unfold ownD; rw [ha, Int.toNat_natCast]
  have hat : (((slot % 60).toNat * 4 : Nat) : Int) = ((t * 4 : Nat) : Int) := by rw [ht, Int.toNat_natCast]
  rw [hown, hat]
  have HO := Lib.hid (RI.range hr a)
  generalize l[a]?.getD 0 = own at hc HO ⊢
  clear hcell hown hat hr hok
  have hsl : slot = (a : Int) * 60 + t := by omega
  subst hsl
  have hak' : (a : Int) < (k : Int) := by omega
  go_enter Tryd.func23, Tryd.ntmps23
  go_wp2_with fail
  go_quiet ((go_at_call 20; exact Calls.quiet_of_same ((Per_any _).mono (fun e w' h => ⟨h.1, h.2.symm⟩))))
  go_wp2
  go_ret2
  exact ⟨rfl, belowN HX.out _⟩

theorem dirGet_no {S : DS} {L : List (Int × List Int)} {d : Int} {k : Nat} {l : List Int} {slot : Int} (h : okD d k slot = false) : dirGetR S L d k l slot = (0, 1) := by
  unfold dirGetR
  rw [if_neg (by rw [h]; decide)]
theorem dirGet_err {S : DS} {L : List (Int × List Int)} {d : Int} {k : Nat} {l : List Int} {slot : Int} (h : okD d k slot = true) (he : ¬ (getPg S L (ownD l slot)).2 = 0) : dirGetR S L d k l slot = (0, (getPg S L (ownD l slot)).2) := by
  unfold dirGetR
  rw [if_pos h, if_neg he]
theorem dirGet_ok {S : DS} {L : List (Int × List Int)} {d : Int} {k : Nat} {l : List Int} {slot : Int} (h : okD d k slot = true) (he : (getPg S L (ownD l slot)).2 = 0) : dirGetR S L d k l slot = (numOf (((getPg S L (ownD l slot)).1.drop ((slot % 60).toNat * 4)).take 4), 0) := by
  unfold dirGetR
  rw [if_pos h, if_pos he]

section
variable {D : World → (Nat → Prop) → Addr → DS → Prop} {w w' : World} {F O G Z : Nat → Prop} {p xa : Addr} {S T : DS} {q q' r b xr base : Nat} {seq t : Int} {v : Value} {L M : List (Int × List Int)}

set_option maxHeartbeats 6400000 in
theorem dirGet_any (api : DiskApi D) (h : PgAt D w F O p S q seq r b L) (ht : TabF w F) (hlen : ∀ i, (getPg S L i).2 = 0 → (getPg S L i).1.length = 240) (d f n c : Int) {A : Option Addr} {k cap B : Nat} {l : List Int} (slot : Int) (hr : RI w B A k l) (hB : B ≤ w.heap.size) (hk : k ≤ cap) (hkm : k ≤ maxLen) :
    Calls Tryd.prog 9 #[.pointer (some ⟨r, 0, none⟩), .agg #[.int .i64 d, .int .i64 f, .int .i64 n, .int .i64 c, .slice A k cap], .int .i64 slot] w fun e w' => e = .returned (.tuple #[.int .i64 (dirGetR S L d k l slot).1, .int .i64 (dirGetR S L d k l slot).2]) ∧ Below w.heap.size w w' := by
  have hX : Below w.heap.size w (w.alloc (.cells #[.int .i64 d, .int .i64 f, .int .i64 n, .int .i64 c, .slice A k cap] 24)) := (Below.refl _ _).alloc (Nat.le_refl _) _
  have HX := Lib.hid hX
  have HBX := Lib.hid (DBox.new w d f n c (.slice A k cap))
  obtain ⟨z0, z1, z2, z3, z4, _⟩ := HBX.out.cells
  have HH := Lib.hid (dirHas_any d f n c A k cap slot (w.alloc (.cells #[.int .i64 d, .int .i64 f, .int .i64 n, .int .i64 c, .slice A k cap] 24)) hkm)
  have HPG := Lib.hid (And.intro h ht)
  have HR := Lib.hid hr
  have HLN := Lib.hid hlen
  clear h ht hr hlen hX
  cases hok : okD d k slot with
  | false =>
    rw [dirGet_no hok]
    rw [hok] at HH
    clear hok
    go_enter Tryd.func9, Tryd.ntmps9
    go_wp2_with fail
    refine HH.out.mono ?_
    rintro e w1 ⟨rfl, hb1⟩
    have HE := Lib.hid (HX.out.trans (hb1.mono HX.out.size))
    clear hb1
    go_wp2
    go_ret2
    exact ⟨rfl, HE.out⟩
  | true =>
    rw [hok] at HH
    have HOK := Lib.hid hok
    have HN := Lib.hid (okD_nat hok)
    by_cases he : (getPg S L (ownD l slot)).2 = 0
    · rw [dirGet_ok hok he]
      have hl := HLN.out _ he
      have HG := Lib.hid (fun w2 (hb : Below w.heap.size w w2) => pget_any api (HPG.out.1.below api hb) (HPG.out.2.below hb) (ownD l slot) (RI.range HR.out _))
      have HGA := Lib.hid (getR_at (l := (getPg S L (ownD l slot)).1) ((slot % 60).toNat * 4) 4 (by decide) (by rw [hl]; obtain ⟨_, t, _, e, _, _, _⟩ := HN.out; omega))
      have HL := Lib.hid hl
      rw [he] at HG
      have HPF := Lib.hid (fun w1 (hb : Below w.heap.size w w1) => dirPlace_any d f n c (cap := cap) (HR.out.below (hb.mono hB)) (Nat.le_trans hB hb.size) hk HOK.out)
      clear hok he hl
      generalize (getPg S L (ownD l slot)).1 = pg at *
      generalize ownD l slot = own at HG HPF
      generalize (slot % 60).toNat * 4 = at4 at HPF HGA ⊢
      generalize numOf ((pg.drop at4).take 4) = nv at HGA ⊢
      go_enter Tryd.func9, Tryd.ntmps9
      go_wp2_with fail
      refine HH.out.mono ?_
      rintro e w1 ⟨rfl, hb1⟩
      have HB1 := Lib.hid (HX.out.trans (hb1.mono HX.out.size))
      have HP := Lib.hid (HPF.out w1 HB1.out)
      obtain ⟨y0, y1, y2, y3, y4, _⟩ := (HBX.out.below hb1).cells
      clear hb1 z0 z1 z2 z3 z4
      go_wp2_with fail
      refine HP.out.mono ?_
      rintro e w2 ⟨rfl, hb2⟩
      have HB2 := Lib.hid (HB1.out.trans (hb2.mono HB1.out.size))
      clear hb2 y0 y1 y2 y3 y4 HP
      go_wp2_with fail
      refine (HG.out w2 HB2.out).mono ?_
      rintro e w3 ⟨A3, n3, c3, rfl, hc3, hr3, hb3⟩
      have HB3 := Lib.hid (HB2.out.trans (hb3.mono HB2.out.size))
      obtain rfl : n3 = 240 := by rw [← hr3.len]; exact HL.out
      have HGT := Lib.hid (Get_any A3 240 c3 _ pg (at4 : Int) 4 w3 hr3 hc3 (by decide))
      rw [show getR pg (at4 : Int) 4 = (nv, 0) from HGA.out] at HGT
      clear hr3 hb3 hc3
      go_wp2_with fail
      refine HGT.out.mono ?_
      rintro e w4 ⟨rfl, rfl⟩
      go_wp2
      go_ret2
      exact ⟨rfl, HB3.out⟩
    · rw [dirGet_err hok he]
      have HG := Lib.hid (fun w2 (hb : Below w.heap.size w w2) => pget_any api (HPG.out.1.below api hb) (HPG.out.2.below hb) (ownD l slot) (RI.range HR.out _))
      generalize (getPg S L (ownD l slot)).2 = er at *
      generalize (getPg S L (ownD l slot)).1 = pg at *
      have k1 : (er != 0) = true := by simpa using he
      have HPF := Lib.hid (fun w1 (hb : Below w.heap.size w w1) => dirPlace_any d f n c (cap := cap) (HR.out.below (hb.mono hB)) (Nat.le_trans hB hb.size) hk HOK.out)
      clear hok he
      generalize ownD l slot = own at HG HPF
      generalize (slot % 60).toNat * 4 = at4 at HPF
      go_enter Tryd.func9, Tryd.ntmps9
      go_wp2_with fail
      refine HH.out.mono ?_
      rintro e w1 ⟨rfl, hb1⟩
      have HB1 := Lib.hid (HX.out.trans (hb1.mono HX.out.size))
      have HP := Lib.hid (HPF.out w1 HB1.out)
      obtain ⟨y0, y1, y2, y3, y4, _⟩ := (HBX.out.below hb1).cells
      clear hb1 z0 z1 z2 z3 z4
      go_wp2_with fail
      refine HP.out.mono ?_
      rintro e w2 ⟨rfl, hb2⟩
      have HB2 := Lib.hid (HB1.out.trans (hb2.mono HB1.out.size))
      clear hb2 y0 y1 y2 y3 y4 HP
      go_wp2_with fail
      refine (HG.out w2 HB2.out).mono ?_
      rintro e w3 ⟨A3, n3, c3, rfl, hc3, hr3, hb3⟩
      have HB3 := Lib.hid (HB2.out.trans (hb3.mono HB2.out.size))
      clear hr3 hb3 hc3
      go_wp2
      go_ret2
      exact ⟨rfl, HB3.out⟩

end
end Go.Proofs.YtkpmfobmlaldfaaDoor

/-
  Contract of the plain dir's Get: over the plain pager. Condition: a page that is loaded has 240 bytes.
-/
namespace Go.Proofs.YtkpmfobmlaldfaaDoor
open Go.RowKit
set_option maxRecDepth 100000
set_option linter.unusedVariables false

section
variable {w w' : World} {G Z : Nat → Prop} {xa : Addr} {T : DS} {q' xr base : Nat} {t : Int} {v : Value} {M : List (Int × List Int)}

set_option maxHeartbeats 6400000 in
theorem refDirGet_any (h : RPg w G Z base xa T q' t xr v M) (hM : M.length ≤ 65536) (hall : ∀ y ∈ M, y.2.length = 240) (hlen : ∀ i, (getPg T M i).2 = 0 → (getPg T M i).1.length = 240) (d f n c : Int) {A : Option Addr} {k cap B : Nat} {l : List Int} (slot : Int) (hr : RI w B A k l) (hB : B ≤ w.heap.size) (hk : k ≤ cap) (hkm : k ≤ maxLen) :
    Calls Tryd.prog 10 #[.pointer (some ⟨xr, 0, none⟩), .agg #[.int .i64 d, .int .i64 f, .int .i64 n, .int .i64 c, .slice A k cap], .int .i64 slot] w fun e w' => e = .returned (.tuple #[.int .i64 (dirGetR T M d k l slot).1, .int .i64 (dirGetR T M d k l slot).2]) ∧ Below w.heap.size w w' := by
  have hX : Below w.heap.size w (w.alloc (.cells #[.int .i64 d, .int .i64 f, .int .i64 n, .int .i64 c, .slice A k cap] 24)) := (Below.refl _ _).alloc (Nat.le_refl _) _
  have HX := Lib.hid hX
  have HBX := Lib.hid (DBox.new w d f n c (.slice A k cap))
  obtain ⟨z0, z1, z2, z3, z4, _⟩ := HBX.out.cells
  have HH := Lib.hid (refRight_dir d f n c A k cap slot (w.alloc (.cells #[.int .i64 d, .int .i64 f, .int .i64 n, .int .i64 c, .slice A k cap] 24)) hkm)
  have HPG := Lib.hid h
  have HR := Lib.hid hr
  have HLN := Lib.hid hlen
  have HMM := Lib.hid (And.intro hM hall)
  clear h hr hlen hX hM hall
  unfold maxLen at hkm
  cases hok : okD d k slot with
  | false =>
    rw [dirGet_no hok]
    rw [hok] at HH
    clear hok
    go_enter Tryd.func10, Tryd.ntmps10
    go_wp2_with fail
    refine HH.out.mono ?_
    rintro e w1 ⟨rfl, hb1⟩
    have HE := Lib.hid (HX.out.trans (hb1.mono HX.out.size))
    clear hb1
    go_wp2
    go_ret2
    exact ⟨rfl, HE.out⟩
  | true =>
    rw [hok] at HH
    obtain ⟨a, tt, ha, htt, hak, ht60, hk18, hs0, hs1⟩ := okD_nat hok
    obtain ⟨bb, off, rfl, hbb, hcell⟩ := HR.out.2.2 (by omega)
    have hca := hcell a hak
    have hown : ownD l slot = l[a]?.getD 0 := by unfold ownD; rw [ha, Int.toNat_natCast]
    have hat : ((slot % 60).toNat * 4 : Nat) = tt * 4 := by rw [htt, Int.toNat_natCast]
    have hak' : (a : Int) < (k : Int) := by omega
    by_cases he : (getPg T M (ownD l slot)).2 = 0
    · rw [dirGet_ok hok he, hat]
      have hl := HLN.out _ he
      have HG := Lib.hid (fun w2 (hb : Below w.heap.size w w2) => rpget_any (HPG.out.below hb) HMM.out.1 HMM.out.2 (ownD l slot))
      have HGA := Lib.hid (getR_at (l := (getPg T M (ownD l slot)).1) (tt * 4) 4 (by decide) (by rw [hl]; omega))
      have HL := Lib.hid hl
      rw [he] at HG
      clear hok he hl hcell hat
      generalize (getPg T M (ownD l slot)).1 = pg at *
      rw [hown] at HG
      clear hown
      generalize l[a]?.getD 0 = own at *
      obtain ⟨at4, hat4⟩ : ∃ at4, at4 = tt * 4 := ⟨_, rfl⟩
      have ht4 : (tt : Int) * 4 = (at4 : Int) := by omega
      have hat236 : at4 ≤ 236 := by omega
      first | (rw [← hat4] at HGA ⊢; generalize numOf ((pg.drop at4).take 4) = nv at HGA ⊢) | skip
      clear hat4
      have hd60 : Int.tdiv slot 60 = (a : Int) := by rw [Int.tdiv_eq_ediv_of_nonneg hs0]; exact ha
      have hm60 : Int.tmod slot 60 = (tt : Int) := by rw [Int.tmod_eq_emod_of_nonneg hs0]; exact htt
      go_enter Tryd.func10, Tryd.ntmps10
      go_wp2_with fail
      refine HH.out.mono ?_
      rintro e w1 ⟨rfl, hb1⟩
      have HB1 := Lib.hid (HX.out.trans (hb1.mono HX.out.size))
      have hc1 := (HB1.out.cell (p := ⟨bb, off + a, none⟩) (Nat.lt_of_lt_of_le hbb hB)).trans hca
      obtain ⟨y0, y1, y2, y3, y4, _⟩ := (HBX.out.below hb1).cells
      clear hb1 z0 z1 z2 z3 z4
      go_wp2_with fail
      refine (HG.out w1 HB1.out).mono ?_
      rintro e w3 ⟨A3, n3, c3, rfl, hc3, hr3, hb3⟩
      have HB3 := Lib.hid (HB1.out.trans (hb3.mono HB1.out.size))
      obtain rfl : n3 = 240 := by rw [← hr3.len]; exact HL.out
      have HGT := Lib.hid (refGet_any A3 240 c3 _ pg (at4 : Int) 4 w3 hr3 hc3 (by decide))
      rw [show getR pg (at4 : Int) 4 = (nv, 0) from HGA.out] at HGT
      clear hr3 hb3 hc3
      go_wp2_with fail
      refine HGT.out.mono ?_
      rintro e w4 ⟨rfl, rfl⟩
      go_wp2
      go_ret2
      exact ⟨rfl, HB3.out⟩
    · rw [dirGet_err hok he]
      have HG := Lib.hid (fun w2 (hb : Below w.heap.size w w2) => rpget_any (HPG.out.below hb) HMM.out.1 HMM.out.2 (ownD l slot))
      generalize (getPg T M (ownD l slot)).2 = er at *
      generalize (getPg T M (ownD l slot)).1 = pg at *
      have k1 : (er != 0) = true := by simpa using he
      clear hok he hcell hat
      rw [hown] at HG
      clear hown
      generalize l[a]?.getD 0 = own at *
      obtain ⟨at4, hat4⟩ : ∃ at4, at4 = tt * 4 := ⟨_, rfl⟩
      have ht4 : (tt : Int) * 4 = (at4 : Int) := by omega
      have hat236 : at4 ≤ 236 := by omega
      first | (rw [← hat4] at HGA ⊢; generalize numOf ((pg.drop at4).take 4) = nv at HGA ⊢) | skip
      clear hat4
      have hd60 : Int.tdiv slot 60 = (a : Int) := by rw [Int.tdiv_eq_ediv_of_nonneg hs0]; exact ha
      have hm60 : Int.tmod slot 60 = (tt : Int) := by rw [Int.tmod_eq_emod_of_nonneg hs0]; exact htt
      go_enter Tryd.func10, Tryd.ntmps10
      go_wp2_with fail
      refine HH.out.mono ?_
      rintro e w1 ⟨rfl, hb1⟩
      have HB1 := Lib.hid (HX.out.trans (hb1.mono HX.out.size))
      have hc1 := (HB1.out.cell (p := ⟨bb, off + a, none⟩) (Nat.lt_of_lt_of_le hbb hB)).trans hca
      obtain ⟨y0, y1, y2, y3, y4, _⟩ := (HBX.out.below hb1).cells
      clear hb1 z0 z1 z2 z3 z4
      go_wp2_with fail
      refine (HG.out w1 HB1.out).mono ?_
      rintro e w3 ⟨A3, n3, c3, rfl, hc3, hr3, hb3⟩
      have HB3 := Lib.hid (HB1.out.trans (hb3.mono HB1.out.size))
      clear hr3 hb3 hc3
      go_wp2
      go_ret2
      exact ⟨rfl, HB3.out⟩
end
end Go.Proofs.YtkpmfobmlaldfaaDoor

/-
  Words for a block that bytes are copied into. Plain facts; no condition beyond what each says.
-/
namespace Go.Proofs.YtkpmfobmlaldfaaDoor
open Go.RowKit
set_option maxRecDepth 100000
set_option linter.unusedVariables false

/-- Block g holds the bytes L, and other cells behind them. -/
def NowBlk (w : World) (g : Nat) (L : List Int) : Prop := ∃ tl : List Value, w.heap[g]? = some (.cells ((L.map (Value.int .u8)) ++ tl).toArray 5 (0, 0))
theorem NowBlk.of_own {w : World} {base g n c : Nat} {L : List Int} (h : w.ownsRow base 5 1 (.slice (some ⟨g, 0, none⟩) n c) n (L.map (Value.int .u8))) : NowBlk w g L := by
  rcases h.2 with ⟨e, _⟩ | ⟨g', cap, cur, e, _, hb, _, _, _, htake⟩
  · cases e
  · cases e
    refine ⟨cur.toList.drop (n * 1), ?_⟩
    rw [hb, ← htake, List.take_append_drop]
theorem NowBlk.keep {w w' : World} {g : Nat} {L : List Int} (h : NowBlk w g L) (e : w'.heap[g]? = w.heap[g]?) : NowBlk w' g L := by
  obtain ⟨tl, h⟩ := h
  exact ⟨tl, e.trans h⟩
theorem NowBlk.lt {w : World} {g : Nat} {L : List Int} (h : NowBlk w g L) : g < w.heap.size := by
  obtain ⟨tl, h⟩ := h
  exact (Array.getElem?_eq_some_iff.1 h).1
theorem NowBlk.rb {w : World} {g n : Nat} {L : List Int} (h : NowBlk w g L) (hn : L.length = n) (hb : AllBytes L) : RB w w.heap.size (some ⟨g, 0, none⟩) n L := by
  refine ⟨hn, hb, fun h0 => ⟨g, 0, rfl, h.lt, fun j hj => ?_⟩⟩
  obtain ⟨tl, h⟩ := h
  rw [Nat.zero_add, cell_of_row w g j _ _ (0, 0) h, List.getElem?_toArray, List.getElem?_append_left (by simp; omega), List.getElem?_map, List.getElem?_eq_getElem (by omega)]
  rfl
theorem splice_map {L d : List Int} {tl : List Value} {o : Nat} (h : o + d.length ≤ L.length) : splice ((L.map (Value.int .u8)) ++ tl) o (d.map (Value.int .u8)) = ((splice L o d).map (Value.int .u8)) ++ tl := by
  unfold splice
  rw [List.take_append_of_le_length (by simp; omega), List.length_map, List.drop_append_of_le_length (by simp; omega)]
  simp [List.map_take, List.map_drop, List.append_assoc]
theorem splice_bytes {L d : List Int} {o : Nat} (h1 : AllBytes L) (h2 : AllBytes d) : AllBytes (splice L o d) := fun x hx => by
  unfold splice at hx
  rcases List.mem_append.1 hx with a | a
  · exact h1 x (List.mem_of_mem_take a)
  · rcases List.mem_append.1 a with a | a
    · exact h2 x a
    · exact h1 x (List.mem_of_mem_drop a)
/-- copy into a row, as one step of a region that draws its order: that block alone is written. -/
theorem step_copy_at {P : Program} {ops : Array Oper} {o : Oper} {a : Act} {w : World} {K : Act → World → Prop} {Q : Exit → Act → World → Prop} {E : Prop} (hgd : o.guard = none) (d s : Operand) (dT sT : TypeId)
    (ho : o.op = .call { callee := .builtin .copy, args := #[d, s], argTypes := #[dT, sT] }) (elem : TypeId) (hu : P.underlying dT = some (.slice elem)) (hsz : (P.info? elem).map (·.size) = some 1)
    (dp : Option Addr) (ad : Addr) (dLen dCap sLen sCap : Nat) (hd : a.eval d = .slice dp dLen dCap) (hs : a.eval s = .slice (some ad) sLen sCap)
    (g off : Nat) (hdp : dp = some ⟨g, off, none⟩) (cur : List Value) (t : TypeId) (hg : w.heap[g]? = some (.cells cur.toArray t (0, 0))) (cs : List Value) (hn : cs.length = Nat.min sLen dLen)
    (hsrc : ∀ j v, cs[j]? = some v → w.cell? (ad.add j) = some v)
    (hfit : off + cs.length ≤ cur.length) (h1 : ∀ v ∈ cs, v.oneCell' = true)
    (h : ∀ w', Hid (w'.heap[g]? = some (.cells (splice cur off cs).toArray t (0, 0))) → Hid (Touch (fun j => j = g) w w') → K (a.put o.dst (goInt cs.length)) w') :
    if Region.wanted o (yielded ops a.tmps) = true then Oper.wp P o a w K Q else E := by
  have hw : Region.wanted o (yielded ops a.tmps) = true := by simp [Region.wanted, hgd]
  rw [if_pos hw]
  subst hdp
  have hrun := run_copy_row (P := P) w dT sT o.type elem g off dLen dCap ad sLen sCap cur.toArray t cs hu hsz hg hn hsrc (by simpa using hfit) h1
  unfold Oper.wp
  simp [execOp, ho, resolve, invoke, builtin, hd, hs, hrun, Result.andThen]
  exact h _ (show _ = _ by simpa [splice] using setRow_heap w g _ _ t _ hg) (Lib.hid ⟨rfl, rfl, rfl, by simp [World.setRow], fun k hk hne => setRow_other w g k _ (fun e => hne e)⟩)

end Go.Proofs.YtkpmfobmlaldfaaDoor

/-
  append of bytes as an equation and as a step of a region that draws; a number's bytes in new memory. Conditions: those that each says.
-/
namespace Go.Proofs.YtkpmfobmlaldfaaDoor
open Go.RowKit
set_option maxRecDepth 100000
set_option linter.unusedVariables false

theorem bkAppend_run {w : World} {base n B m c : Nat} {v : Value} {A : Option Addr} {xs l : List Int} (hown : w.ownsRow base 5 1 v n (xs.map (Value.int .u8))) (hr : RB w B A m l) (h63 : n + m ≤ 140737488355328) (hbase : base ≤ w.heap.size) (ty : TypeId) :
    ∃ v' w', (Builtin.append_ #[69, 69] ty #[v, .slice A m c]).run Tryd.prog w = .ok v' w' ∧ w'.ownsRow base 5 1 v' (n + m) ((xs ++ l).map (Value.int .u8)) ∧ w.grownBy w' v.ownBlock ∧ (v'.ownBlock = v.ownBlock ∨ v'.ownBlock = some w.heap.size) ∧ Below base w w' := by
  obtain ⟨i0, hi, hz0, hz1, hz2⟩ := info_parts info_u8
  rcases A with _ | ad
  · have hm : m = 0 := by
      rcases Nat.eq_zero_or_pos m with h0 | h0
      · exact h0
      · obtain ⟨b, off, e, _⟩ := hr.at_ h0; cases e
    subst hm
    have hl : l = [] := List.eq_nil_of_length_eq_zero hr.len
    subst hl
    exact ⟨v, w, run_append_none (P := Tryd.prog) (w := w) base 69 ty 5 i0 1 Tryd.underlying69 hi v n _ hown c, by simpa using hown, World.grownBy.refl w _, .inl rfl, Below.refl _ _⟩
  · obtain ⟨v', w', hrun, h1, h2, _, h3⟩ := run_append_own_at (P := Tryd.prog) w base 69 ty 5 i0 (.int .u8 0) 1 1 Tryd.underlying69 hi hz0 hz1 hz2 rfl (by decide) v n _ hown ad m c (l.map (Value.int .u8)) (by simp [hr.len]) (fun j u hj => by
      obtain ⟨ad', e, hc⟩ := hr.src j u hj
      cases e
      exact hc) (oneCell_bytes l) (by unfold maxLen; omega) (by omega) hbase
    exact ⟨v', w', hrun, by simpa using h1, h2, h3, (Below.refl base w).grown h2 hbase (own_ge hown)⟩

theorem step_append_run {P : Program} {ops : Array Oper} {o : Oper} {a : Act} {w : World} {K : Act → World → Prop} {Q : Exit → Act → World → Prop} {E : Prop} (hgd : o.guard = none) (s x : Operand) (t tn : TypeId)
    (ho : o.op = .call { callee := .builtin .append, args := #[s, x], argTypes := #[t, tn] }) (v u : Value) (hs : a.eval s = v) (hx : a.eval x = u) {v' : Value} {w' : World}
    (hrun : (Builtin.append_ #[t, tn] o.type #[v, u]).run P w = .ok v' w') (h : K (a.put o.dst v') w') :
    if Region.wanted o (yielded ops a.tmps) = true then Oper.wp P o a w K Q else E := by
  have hw : Region.wanted o (yielded ops a.tmps) = true := by simp [Region.wanted, hgd]
  rw [if_pos hw]
  exact Lib.wp_append_run w s x t tn ho v u hs hx _ _ hrun h

theorem step_append_bytes2 {w : World} {ops : Array Oper} {o : Oper} {a : Act} {K : Act → World → Prop} {Q : Exit → Act → World → Prop} {E : Prop} (hgd : o.guard = none) (s x : Operand)
    (ho : o.op = .call { callee := .builtin .append, args := #[s, x], argTypes := #[69, 69] })
    (base : Nat) (v : Value) (n : Nat) (xs : List Int) (hs : a.eval s = v) (hown : w.ownsRow base 5 1 v n (xs.map (Value.int .u8)))
    (B : Nat) (A : Option Addr) (m c : Nat) (l : List Int) (hx : a.eval x = .slice A m c) (hr : RB w B A m l) (h63 : n + m ≤ 140737488355328) (hbase : base ≤ w.heap.size)
    (h : ∀ v' w', w'.ownsRow base 5 1 v' (n + m) ((xs ++ l).map (Value.int .u8)) → Below base w w' → K (a.put o.dst v') w') :
    if Region.wanted o (yielded ops a.tmps) = true then Oper.wp Tryd.prog o a w K Q else E := by
  obtain ⟨v', w', hrun, h1, _, _, h4⟩ := bkAppend_run (c := c) hown hr h63 hbase o.type
  exact step_append_run hgd s x _ _ ho v _ hs hx hrun (h v' w' h1 h4)

theorem own_relen {w : World} {base e n k : Nat} {v : Value} {xs : List Value} (h : w.ownsRow base e 1 v n xs) (hk : xs.length = k) : w.ownsRow base e 1 v k xs := by
  obtain rfl : n = k := by have := h.1; omega
  exact h

theorem PutNil_any (x : Int) (k : Nat) (w : World) (hs : rightB x (k : Int) = true) (hk8 : k ≤ 8) (hx : -9223372036854775808 ≤ x ∧ x ≤ 9223372036854775807) :
    Calls Tryd.prog 25 #[.slice none 0 0, .int .i64 x, .int .i64 (k : Int)] w fun e w' => ∃ g, e = .returned (.slice (some ⟨g, 0, none⟩) k k) ∧ w.heap.size ≤ g ∧ w'.heap[g]? = some (.cells ((putB x k).map (Value.int .u8)).toArray 5 (0, 0)) ∧ Below w.heap.size w w' := by
  refine (Put_any none 0 0 0 [] x (k : Int) w RB.nil_ (Nat.zero_le _) (Nat.le_refl _) (by decide) hx.1 hx.2).mono ?_
  rintro e w' ⟨v, rfl, ⟨g, rfl, hg, hh⟩, hb⟩
  have e1 : putR [] x (k : Int) = putB x k := by
    unfold putR
    rw [if_pos hs, Int.toNat_natCast, List.nil_append]
  rw [e1] at hh
  exact ⟨g, by rw [e1, putB_length], hg, hh, hb⟩

theorem row_src {w : World} {g : Nat} {l : List Int} (h : w.heap[g]? = some (.cells (l.map (Value.int .u8)).toArray 5 (0, 0))) : ∀ j v, (l.map (Value.int .u8))[j]? = some v → w.cell? ((⟨g, 0, none⟩ : Addr).add j) = some v := by
  intro j v hv
  rw [add_none, Nat.zero_add, cell_of_row w g j _ _ (0, 0) h, List.getElem?_toArray]
  exact hv

end Go.Proofs.YtkpmfobmlaldfaaDoor

/-
  Contract of dir.Set: over any pager that answers as it is to. Conditions: the table that crc.Step reads holds what the program's text lays in it; a page that is loaded has 240 bytes.
-/
namespace Go.Proofs.YtkpmfobmlaldfaaDoor
open Go.RowKit
set_option maxRecDepth 100000
set_option linter.unusedVariables false

/-- What Set answers, and what is set then. -/
def dirSetR (S : DS) (L : List (Int × List Int)) (d : Int) (k : Nat) (l : List Int) (slot page : Int) : Int × List (Int × List Int) :=
  if okD d k slot = true ∧ (0 ≤ page ∧ page < 4294967296) then
    (if (getPg S L (ownD l slot)).2 = 0 then
      (setPgE S (ownD l slot) (splice (getPg S L (ownD l slot)).1 ((slot % 60).toNat * 4) (putB page 4)), setPg S L (ownD l slot) (splice (getPg S L (ownD l slot)).1 ((slot % 60).toNat * 4) (putB page 4)))
    else ((getPg S L (ownD l slot)).2, L))
  else (1, L)

theorem right4_iff (x : Int) : rightB x 4 = decide (0 ≤ x ∧ x < 4294967296) := by
  unfold rightB
  simp
section
variable {S : DS} {L : List (Int × List Int)} {d : Int} {k : Nat} {l : List Int} {slot page : Int}
theorem dirSet_no (h : ¬ (okD d k slot = true ∧ (0 ≤ page ∧ page < 4294967296))) : dirSetR S L d k l slot page = (1, L) := by
  unfold dirSetR
  rw [if_neg h]
theorem dirSet_err (h : okD d k slot = true ∧ (0 ≤ page ∧ page < 4294967296)) (he : ¬ (getPg S L (ownD l slot)).2 = 0) : dirSetR S L d k l slot page = ((getPg S L (ownD l slot)).2, L) := by
  unfold dirSetR
  rw [if_pos h, if_neg he]
theorem dirSet_ok (h : okD d k slot = true ∧ (0 ≤ page ∧ page < 4294967296)) (he : (getPg S L (ownD l slot)).2 = 0) : dirSetR S L d k l slot page = (setPgE S (ownD l slot) (splice (getPg S L (ownD l slot)).1 ((slot % 60).toNat * 4) (putB page 4)), setPg S L (ownD l slot) (splice (getPg S L (ownD l slot)).1 ((slot % 60).toNat * 4) (putB page 4))) := by
  unfold dirSetR
  rw [if_pos h, if_pos he]
end

section
variable {D : World → (Nat → Prop) → Addr → DS → Prop} {w w' : World} {F O : Nat → Prop} {p : Addr} {S : DS} {q r b : Nat} {seq : Int} {L : List (Int × List Int)}

set_option maxHeartbeats 6400000 in
theorem dirSet_any (api : DiskApi D) (h : PgAt D w F O p S q seq r b L) (ht : TabF w F) (hlen : ∀ i, (getPg S L i).2 = 0 → (getPg S L i).1.length = 240) (d f n c : Int) {A : Option Addr} {k cap B : Nat} {l : List Int} (slot page : Int) (hpg : -9223372036854775808 ≤ page ∧ page ≤ 9223372036854775807) (hr : RI w B A k l) (hB : B ≤ w.heap.size) (hk : k ≤ cap) (hkm : k ≤ maxLen) :
    Calls Tryd.prog 7 #[.pointer (some ⟨r, 0, none⟩), .agg #[.int .i64 d, .int .i64 f, .int .i64 n, .int .i64 c, .slice A k cap], .int .i64 slot, .int .i64 page] w fun e w' => e = .returned (.int .i64 (dirSetR S L d k l slot page).1) ∧ ∃ O', PgAt D w' F O' p S q seq r b (dirSetR S L d k l slot page).2 ∧ Touch O w w' ∧ ∀ k, O' k → O k ∨ w.heap.size ≤ k := by
  have hX : Below w.heap.size w (w.alloc (.cells #[.int .i64 d, .int .i64 f, .int .i64 n, .int .i64 c, .slice A k cap] 24)) := (Below.refl _ _).alloc (Nat.le_refl _) _
  have HX := Lib.hid hX
  have HBX := Lib.hid (DBox.new w d f n c (.slice A k cap))
  obtain ⟨z0, z1, z2, z3, z4, _⟩ := HBX.out.cells
  have HH := Lib.hid (dirHas_any d f n c A k cap slot (w.alloc (.cells #[.int .i64 d, .int .i64 f, .int .i64 n, .int .i64 c, .slice A k cap] 24)) hkm)
  have HPG := Lib.hid (And.intro h ht)
  have HR := Lib.hid hr
  have HLN := Lib.hid hlen
  have HRT := Lib.hid (fun w1 => Right_any page 4 w1)
  have HBT := Lib.hid (fun (w1 : World) (hb : Below w.heap.size w w1) => (⟨hb.os, hb.tape, hb.output, hb.size, fun k hk _ => hb.block k hk⟩ : Touch O w w1))
  rw [right4_iff] at HRT
  clear h ht hr hlen hX
  by_cases hok2 : okD d k slot = true ∧ (0 ≤ page ∧ page < 4294967296)
  case neg =>
    rw [dirSet_no hok2]
    cases hok : okD d k slot with
    | false =>
      rw [hok] at HH
      clear hok hok2
      go_enter Tryd.func7, Tryd.ntmps7
      go_wp2_with fail
      refine HH.out.mono ?_
      rintro e w1 ⟨rfl, hb1⟩
      have HE := Lib.hid (HX.out.trans (hb1.mono HX.out.size))
      clear hb1
      go_wp2
      go_ret
      exact ⟨rfl, O, HPG.out.1.below api HE.out, HBT.out _ HE.out, fun k hk => .inl hk⟩
    | true =>
      rw [hok] at HH
      rw [decide_eq_false (fun hh => hok2 ⟨hok, hh⟩)] at HRT
      clear hok hok2
      go_enter Tryd.func7, Tryd.ntmps7
      go_wp2_with fail
      refine HH.out.mono ?_
      rintro e w1 ⟨rfl, hb1⟩
      have HE := Lib.hid (HX.out.trans (hb1.mono HX.out.size))
      clear hb1
      go_wp2_with fail
      refine (HRT.out _).mono ?_
      rintro e w2 ⟨rfl, rfl⟩
      go_wp2
      go_ret
      exact ⟨rfl, O, HPG.out.1.below api HE.out, HBT.out _ HE.out, fun k hk => .inl hk⟩
  have hok := hok2.1
  rw [decide_eq_true hok2.2] at HRT
  rw [hok] at HH
  have HPF := Lib.hid (fun w1 (hb : Below w.heap.size w w1) => dirPlace_any d f n c (cap := cap) (HR.out.below (hb.mono hB)) (Nat.le_trans hB hb.size) hk hok)
  have HRG := Lib.hid (RI.range HR.out (slot / 60).toNat)
  by_cases he : (getPg S L (ownD l slot)).2 = 0
  case neg =>
    rw [dirSet_err hok2 he]
    have HG := Lib.hid (fun w2 (hb : Below w.heap.size w w2) => pget_any api (HPG.out.1.below api hb) (HPG.out.2.below hb) (ownD l slot) (RI.range HR.out _))
    generalize (getPg S L (ownD l slot)).2 = er at *
    generalize (getPg S L (ownD l slot)).1 = pg at *
    have k1 : (er != 0) = true := by simpa using he
    clear hok he hok2
    generalize ownD l slot = own at HG HPF
    generalize (slot % 60).toNat * 4 = at4 at HPF
    go_enter Tryd.func7, Tryd.ntmps7
    go_wp2_with fail
    refine HH.out.mono ?_
    rintro e w1 ⟨rfl, hb1⟩
    have HB1 := Lib.hid (HX.out.trans (hb1.mono HX.out.size))
    have HP := Lib.hid (HPF.out w1 HB1.out)
    obtain ⟨y0, y1, y2, y3, y4, _⟩ := (HBX.out.below hb1).cells
    clear hb1 z0 z1 z2 z3 z4
    go_wp2_with fail
    refine (HRT.out _).mono ?_
    rintro e w2 ⟨rfl, rfl⟩
    go_wp2_with fail
    refine HP.out.mono ?_
    rintro e w2 ⟨rfl, hb2⟩
    have HB2 := Lib.hid (HB1.out.trans (hb2.mono HB1.out.size))
    clear hb2 y0 y1 y2 y3 y4 HP
    go_wp2_with fail
    refine (HG.out w2 HB2.out).mono ?_
    rintro e w3 ⟨A3, n3, c3, rfl, hc3, hr3, hb3⟩
    have HB3 := Lib.hid (HB2.out.trans (hb3.mono HB2.out.size))
    clear hr3 hb3 hc3
    go_wp2
    go_ret
    exact ⟨rfl, O, HPG.out.1.below api HB3.out, HBT.out _ HB3.out, fun k hk => .inl hk⟩
  rw [dirSet_ok hok2 he]
  have hl := HLN.out _ he
  have HG := Lib.hid (fun w2 (hb : Below w.heap.size w w2) => pget_own api (HPG.out.1.below api hb) (HPG.out.2.below hb) (ownD l slot) (RI.range HR.out _))
  have HL := Lib.hid hl
  rw [he] at HG
  have HRB := Lib.hid (show rightB page ((4 : Nat) : Int) = true from (right4_iff page).trans (decide_eq_true hok2.2))
  obtain ⟨_, t, _, e60, _, ht60, _⟩ := okD_nat hok
  have hat4 : (slot % 60).toNat * 4 ≤ 236 := by omega
  have HOWR := Lib.hid (show -9223372036854775808 ≤ ownD l slot ∧ ownD l slot ≤ 9223372036854775807 from HRG.out)
  clear hok he hl hok2 e60 HRG ht60 t
  generalize (getPg S L (ownD l slot)).1 = pg at *
  generalize ownD l slot = own at HG HPF HOWR ⊢
  generalize (slot % 60).toNat * 4 = at4 at HPF hat4 ⊢
  have HNW := Lib.hid (show (splice pg at4 (putB page 4)).length = 240 from by rw [length_splice _ _ _ (by rw [putB_length, HL.out]; omega)]; exact HL.out)
  have hsp : ∀ (tl : List Value), splice ((pg.map (Value.int .u8)) ++ tl) at4 ((putB page 4).map (Value.int .u8)) = ((splice pg at4 (putB page 4)).map (Value.int .u8)) ++ tl := fun tl => splice_map (by rw [putB_length, HL.out]; omega)
  have HSP := Lib.hid hsp
  have hby : ∀ x ∈ splice pg at4 (putB page 4), x ∈ pg ∨ x ∈ putB page 4 := fun x hx => by
    unfold splice at hx
    rcases List.mem_append.1 hx with a | a
    · exact .inl (List.mem_of_mem_take a)
    · rcases List.mem_append.1 a with a | a
      · exact .inr a
      · exact .inl (List.mem_of_mem_drop a)
  have HBY := Lib.hid hby
  clear hsp hby
  generalize splice pg at4 (putB page 4) = npg at *
  go_enter Tryd.func7, Tryd.ntmps7
  go_wp2_with fail
  refine HH.out.mono ?_
  rintro e w1 ⟨rfl, hb1⟩
  have HB1 := Lib.hid (HX.out.trans (hb1.mono HX.out.size))
  have HP := Lib.hid (HPF.out w1 HB1.out)
  obtain ⟨y0, y1, y2, y3, y4, _⟩ := (HBX.out.below hb1).cells
  clear hb1 z0 z1 z2 z3 z4
  go_wp2_with fail
  refine (HRT.out _).mono ?_
  rintro e w2 ⟨rfl, rfl⟩
  go_wp2_with fail
  refine HP.out.mono ?_
  rintro e w2 ⟨rfl, hb2⟩
  have HB2 := Lib.hid (HB1.out.trans (hb2.mono HB1.out.size))
  clear hb2 y0 y1 y2 y3 y4 HP
  go_wp2_with fail
  refine (HG.out w2 HB2.out).mono ?_
  rintro e w3 ⟨A3, n3, c3, rfl, hc3, hm3, hb3⟩
  have HB3 := Lib.hid (HB2.out.trans (hb3.mono HB2.out.size))
  obtain rfl : n3 = 240 := by rw [← hm3.rb.len]; exact HL.out
  obtain ⟨g3, c3', e3, _, hg3⟩ := own_some hm3.1 (by decide)
  simp only [Value.slice.injEq] at e3
  obtain ⟨rfl, _, rfl⟩ := e3
  obtain ⟨tl, hblk⟩ := NowBlk.of_own hm3.1
  have HM3 := Lib.hid (And.intro hm3.2 hblk)
  have hg3w : g3 < w3.heap.size := (Array.getElem?_eq_some_iff.1 hblk).1
  have hg3l : w.heap.size ≤ g3 := Nat.le_trans HB2.out.size hg3
  have hP3 := Lib.hid (HPG.out.1.below api HB3.out)
  have hwl := HPG.out.1.lt
  have hne : ¬ (240 = at4) := by omega
  have hne2 : ¬ (c3 = at4) := by omega
  have hat240 : at4 ≤ 240 := by omega
  have hatc : at4 ≤ c3 := by omega
  have hI1 : (0 : Int) ≤ (at4 : Int) := by omega
  have hI2 : (at4 : Int) ≤ 240 := by omega
  clear hm3 hblk hb3
  go_wp2_with fail
  trace "REGION"
  go_region_held3 (fun w' => True) (exact trivial)
    (first
      | (go_at_call 25; refine (PutNil_any page 4 _ HRB.out (by decide) hpg).mono ?_; rintro e w4 ⟨g4, rfl, hg4, hh4, hb4⟩)
      | (refine step_copy_at (by rfl) _ _ 69 69 (by rfl) 5 Tryd.underlying69 size_u8' (some ⟨g3, at4, none⟩) ⟨g4, 0, none⟩ (240 - at4) (c3 - at4) 4 4 (by rfl) (by rfl) g3 at4 rfl (pg.map (Value.int .u8) ++ tl) 5 ((hb4.block g3 hg3w).trans HM3.out.2) ((putB page 4).map (Value.int .u8)) (by rw [List.length_map, putB_length]; exact (Nat.min_eq_left (by omega)).symm) (fun j v hj => row_src hh4 j v hj) (by rw [List.length_map, List.length_append, List.length_map, putB_length, HL.out]; omega) (oneCell_bytes _) ?_; intro w5 hblk5 htc5))
  have hb34 : Below w3.heap.size w3 w4 := (Below.refl _ _).drew.trans hb4
  have hP4 := hP3.out.below api hb34
  have hs4 := hb34.size
  have hnO : ∀ k, O k → k ≠ g3 := fun k hk e => by have := hwl k hk; omega
  have hP5 := hP4.keep api htc5.out.size (fun k hk => htc5.out.block k (Nat.lt_of_lt_of_le (hwl k hk) (Nat.le_trans HB3.out.size hs4)) (hnO k hk))
  have hrb5 : RB w5 w5.heap.size (some ⟨g3, 0, none⟩) 240 npg := by
    have e5 := hblk5.out
    rw [HSP.out tl] at e5
    exact NowBlk.rb ⟨tl, e5⟩ HNW.out (fun x hx => by
      rcases HBY.out x hx with a | a
      · exact HM3.out.1 x a
      · exact putB_bytes _ _ x a)
  have HS := Lib.hid (pset_any (c := c3) api hP5 own HOWR.out hrb5 (Nat.le_refl _) (by decide))
  have HT5 := Lib.hid (show Touch O w w5 from ⟨htc5.out.os.trans (hb34.os.trans HB3.out.os), htc5.out.tape.trans (hb34.tape.trans HB3.out.tape), htc5.out.output.trans (hb34.output.trans HB3.out.output), Nat.le_trans HB3.out.size (Nat.le_trans hs4 htc5.out.size), fun k hk _ => (htc5.out.block k (by have := HB3.out.size; omega) (fun e => by omega)).trans ((hb34.block k (Nat.lt_of_lt_of_le hk HB3.out.size)).trans (HB3.out.block k hk))⟩)
  clear hP3 hP4 hP5 hrb5 hblk5 htc5 hb34 hb4 hh4 hnO hs4 hg4
  go_wp2_with fail
  refine HS.out.mono ?_
  rintro e w6 ⟨rfl, O6, h6, t6, n6⟩
  have HE := Lib.hid (show ∃ O', PgAt D w6 F O' p S q seq r b (setPg S L own npg) ∧ Touch O w w6 ∧ ∀ k, O' k → O k ∨ w.heap.size ≤ k from ⟨O6, h6, ⟨t6.os.trans HT5.out.os, t6.tape.trans HT5.out.tape, t6.output.trans HT5.out.output, Nat.le_trans HT5.out.size t6.size, fun k hk hn => (t6.block k (Nat.lt_of_lt_of_le hk HT5.out.size) hn).trans (HT5.out.block k hk hn)⟩, fun k hk => (n6 k hk).imp id (fun a => Nat.le_trans HT5.out.size a)⟩)
  clear h6 t6 n6 HS
  go_wp2
  go_ret
  exact ⟨rfl, HE.out⟩
end
end Go.Proofs.YtkpmfobmlaldfaaDoor

/-
  Contract of the plain pager's Commit. Condition: its list may be committed, and the numbers are small enough.
-/
namespace Go.Proofs.YtkpmfobmlaldfaaDoor
open Go.RowKit
set_option maxRecDepth 100000
set_option linter.unusedVariables false

/-- The end of what the plain pager did: its disk, log and list then. -/
def RpDone (w : World) (G Z : Nat → Prop) (base : Nat) (xa : Addr) (T' : DS) (q' : Nat) (t' : Int) (xr : Nat) (v : Value) (M' : List (Int × List Int)) (w' : World) : Prop :=
  ∃ G' v', RPg w' G' Z base xa T' q' t' xr v' M' ∧ Touch (rpY G q' xr v) w w' ∧ ∀ k, G' k → G k ∨ w.heap.size ≤ k

section
variable {w w' : World} {G Z : Nat → Prop} {xa : Addr} {T : DS} {q' xr base : Nat} {t : Int} {v : Value} {M : List (Int × List Int)}

/-- The plain log did something. -/
theorem RPg.did (h : RPg w G Z base xa T q' t xr v M) {r : Int × Int × DS} (hc : Committed w G xa q' r w') : ∃ G', RPg w' G' Z base xa r.2.2 q' r.2.1 xr v M ∧ Touch (fun k => G k ∨ k = q') w w' ∧ ∀ k, G' k → G k ∨ w.heap.size ≤ k := by
  obtain ⟨G', h1, h2, h3, ht, hG⟩ := hc
  have hxl := h.cells.2.2.2
  refine ⟨G', ⟨h1, h2, h3, (ht.block xr hxl (fun a => a.elim h.xG h.xq)).trans h.me, fun a => ?_, h.xq, h.row.keep (by decide) ht.size (fun k hk hx hx' => hx ?_) (fun k hk hx => ht.block k hk (fun a => hx (a.elim (fun a => .inl a) (fun a => .inr (.inl a))))), h.nil_⟩, ht, hG⟩
  · rcases hG xr a with a | a
    · exact h.xG a
    · omega
  · rcases hx' with a | a | a | a
    · rcases hG k a with a | a
      · exact .inl a
      · omega
    · exact .inr (.inl a)
    · exact .inr (.inr (.inl a))
    · exact .inr (.inr (.inr a))
/-- What was set is let go. -/
theorem RPg.nilled (h : RPg w G Z base xa T q' t xr v M) : RPg (w.setCell ⟨xr, 1, none⟩ (.slice none 0 0)) G Z base xa T q' t xr (.slice none 0 0) [] := by
  refine ⟨h.ref.keep (fun k hk => Below.heap_setCell _ _ _ _ (fun e => h.xG (by have e' : k = xr := e; rw [← e']; exact hk))), h.log.keep (Below.heap_setCell _ _ _ _ (fun e => h.xq e.symm)), h.qG, ?_, h.xG, h.xq, PRow.start _ _ _ _ _, fun _ => rfl⟩
  have := heap_setCell_same w xr 1 _ _ (.slice none 0 0) h.me
  exact this

end

end Go.Proofs.YtkpmfobmlaldfaaDoor

/-
  Plain: where a page is set in a rising list; a place of a row of images written over. No program.
-/
namespace Go.Proofs.YtkpmfobmlaldfaaDoor
open Go.RowKit
set_option maxRecDepth 100000
set_option linter.unusedVariables false

theorem setL_at {i : Int} {l : List Int} : ∀ {M : List (Int × List Int)} {k : Nat} {y : Int × List Int}, (∀ t z, t < k → M[t]? = some z → z.1 < i) → M[k]? = some y → y.1 = i → setL M i l = M.set k (i, l)
  | [], k, y, _, hk, _ => by simp at hk
  | x :: r, 0, y, _, hk, hy => by
    simp at hk
    subst hk
    unfold setL
    rw [if_neg (by omega), if_pos hy]
    rfl
  | x :: r, k + 1, y, hn, hk, hy => by
    have h0 : x.1 < i := hn 0 x (Nat.succ_pos _) rfl
    unfold setL
    rw [if_pos h0, setL_at (fun t z ht hz => hn (t + 1) z (Nat.succ_lt_succ ht) (by simpa using hz)) (by simpa using hk) hy]
    rfl
theorem setL_in {i : Int} {l : List Int} : ∀ {M : List (Int × List Int)} {k : Nat}, (∀ t z, t < k → M[t]? = some z → z.1 < i) → (∀ y, M[k]? = some y → i < y.1) → k ≤ M.length → setL M i l = M.take k ++ (i, l) :: M.drop k
  | [], k, _, _, hk => by
    obtain rfl : k = 0 := by simpa using hk
    rfl
  | x :: r, 0, _, h2, _ => by
    have h0 : i < x.1 := h2 x rfl
    unfold setL
    rw [if_neg (by omega), if_neg (by omega)]
    rfl
  | x :: r, k + 1, hn, h2, hk => by
    have h0 : x.1 < i := hn 0 x (Nat.succ_pos _) rfl
    unfold setL
    rw [if_pos h0, setL_in (fun t z ht hz => hn (t + 1) z (Nat.succ_lt_succ ht) (by simpa using hz)) (fun y hy => h2 y (by simpa using hy)) (by simpa using hk)]
    rfl

/-- A place of the row has another slice now. -/
theorem PRow.over {e m : Nat} {w : World} {F : Nat → Prop} {base g k : Nat} {v u : Value} {l : List (Int × List Int)} {x : Int} {b b0 : List Int} (hm : 0 < m) (h : PRow e m w F base v l) (hv : v.ownBlock = some g) (hk : l[k]? = some (x, b0)) (hu : Far w F v u m b) :
    PRow e m (w.setCell ⟨g, k * 2 + 1, none⟩ u) F base v (l.set k (x, b)) := by
  obtain ⟨vs, h1, h2⟩ := h.row
  have hkl := (List.getElem?_eq_some_iff.1 hk).1
  have far : ∀ {z : Value} {y : List Int}, Far w F v z m y → Far (w.setCell ⟨g, k * 2 + 1, none⟩ u) F v z m y := fun ha =>
    ha.keep hm (by simp) (fun _ _ h => h) (fun j _ _ hne => Below.heap_setCell _ _ _ _ (fun e => hne (by have e' : j = g := e; rw [hv, e'])))
  rcases h1.2 with ⟨rfl, h0⟩ | ⟨g', cap, cur, rfl, hb, hg, hc, hcm, hcs, htake⟩
  · omega
  · obtain rfl : g' = g := by simpa [Value.ownBlock] using hv
    refine ⟨⟨vs.set (k * 2 + 1) u, ⟨by rw [List.length_set, List.length_set]; exact h1.1, .inr ⟨g', cap, cur.setIfInBounds (k * 2 + 1) u, by rw [List.length_set], hb, heap_setCell_same w g' (k * 2 + 1) _ _ u hg, by rw [List.length_set]; exact hc, hcm, by rw [Array.size_setIfInBounds]; exact hcs, ?_⟩⟩, fun i y hy => ?_⟩, h.out⟩
    · rw [List.length_set, Array.toList_setIfInBounds, List.take_set, htake]
    · rw [List.getElem?_set] at hy
      by_cases hik : k = i
      · subst hik
        rw [if_pos rfl, if_pos hkl] at hy
        cases hy
        obtain ⟨h3, z, h4, _⟩ := h2 k _ hk
        refine ⟨by rw [List.getElem?_set_ne (by omega)]; exact h3, u, ?_, far hu⟩
        rw [List.getElem?_set_self (by have := (List.getElem?_eq_some_iff.1 h4).1; omega)]
      · rw [if_neg hik] at hy
        obtain ⟨h3, z, h4, h5⟩ := h2 i y hy
        exact ⟨by rw [List.getElem?_set_ne (by omega)]; exact h3, z, by rw [List.getElem?_set_ne (by omega)]; exact h4, far h5⟩

end Go.Proofs.YtkpmfobmlaldfaaDoor

/-
  append of some images, or none, as a step of a region that draws. Condition: fewer than 2^31 elements.
-/
namespace Go.Proofs.YtkpmfobmlaldfaaDoor
open Go.RowKit
set_option maxRecDepth 100000
set_option linter.unusedVariables false

theorem step_append_imgs {w : World} {ops : Array Oper} {o : Oper} {a : Act} {K : Act → World → Prop} {Q : Exit → Act → World → Prop} {E : Prop} (hgd : o.guard = none) (s x : Operand)
    (ho : o.op = .call { callee := .builtin .append, args := #[s, x], argTypes := #[61, 61] })
    (base : Nat) (v : Value) (n : Nat) (xs : List Value) (hs : a.eval s = v) (A : Option Addr) (m c : Nat) (hx : a.eval x = .slice A m c)
    (hown : w.ownsRow base 107 2 v n xs) (news : List Value) (hl : news.length = m * 2) (hnews : ∀ j u, news[j]? = some u → ∃ ad, A = some ad ∧ w.cell? (ad.add j) = some u) (h1 : ∀ u ∈ news, u.oneCell' = true)
    (h63 : n + m ≤ 2147483647) (hbase : base ≤ w.heap.size)
    (h : ∀ A' c' w', w'.ownsRow base 107 2 (.slice A' (n + m) c') (n + m) (xs ++ news) → w.grownBy w' v.ownBlock → ((Value.slice A' (n + m) c').ownBlock = v.ownBlock ∨ (Value.slice A' (n + m) c').ownBlock = some w.heap.size) → K (a.put o.dst (.slice A' (n + m) c')) w') :
    if Region.wanted o (yielded ops a.tmps) = true then Oper.wp Tryd.prog o a w K Q else E := by
  obtain ⟨i0, hi, hz0, hz1, hz2⟩ := info_parts info_image
  have hw : Region.wanted o (yielded ops a.tmps) = true := by simp [Region.wanted, hgd]
  rw [if_pos hw]
  have shape : ∀ {w' : World} {v' : Value} {k : Nat} {ys : List Value}, w'.ownsRow base 107 2 v' k ys → ∃ A' c', v' = .slice A' k c' := fun h' => by
    rcases h'.2 with ⟨rfl, rfl⟩ | ⟨g, cap, cur, rfl, _⟩
    · exact ⟨none, 0, rfl⟩
    · exact ⟨_, _, rfl⟩
  cases A with
  | none =>
    have hn0 : news = [] := by
      cases news with
      | nil => rfl
      | cons u r =>
        obtain ⟨ad, e, _⟩ := hnews 0 u rfl
        cases e
    subst hn0
    obtain rfl : m = 0 := by
      have hl0 : 0 = m * 2 := hl
      omega
    have hrun := run_append_none (P := Tryd.prog) (w := w) base 61 o.type 107 i0 2 Tryd.underlying61 hi v n xs hown c
    obtain ⟨A', c', rfl⟩ := shape hown
    refine Lib.wp_append_run w s x 61 61 ho _ _ hs hx _ w hrun ?_
    exact h A' c' w (by simpa using hown) ⟨rfl, rfl, rfl, Nat.le_refl _, fun _ _ _ => rfl⟩ (.inl rfl)
  | some ad =>
    obtain ⟨v', w', hr, h2, h3, _, h5⟩ := run_append_own_at (P := Tryd.prog) w base 61 o.type 107 i0 (.agg #[.int .i64 0, .slice none 0 0]) 2 32 Tryd.underlying61 hi hz0 hz1 hz2 rfl (by decide) v n xs hown ad m c news hl (fun j u hu => by
      obtain ⟨ad', e, hc⟩ := hnews j u hu
      cases e
      exact hc) h1 (by unfold maxLen; omega) (by omega) hbase
    obtain ⟨A', c', rfl⟩ := shape h2
    refine Lib.wp_append_run w s x 61 61 ho _ _ hs hx _ w' hr ?_
    exact h A' c' w' h2 h3 h5

end Go.Proofs.YtkpmfobmlaldfaaDoor

/-
  Plain: an element put in at a place of a list of images, and the row that holds it then. No program.
-/
namespace Go.Proofs.YtkpmfobmlaldfaaDoor
open Go.RowKit
set_option maxRecDepth 100000
set_option linter.unusedVariables false

theorem img_add (b off j : Nat) : (⟨b, off, none⟩ : Addr).add j = ⟨b, off + j, none⟩ := by unfold Addr.add; split <;> simp_all
theorem insert_get {α : Type} (l : List α) {k : Nat} (hk : k ≤ l.length) (x : α) (i : Nat) : (l.take k ++ x :: l.drop k)[i]? = if i < k then l[i]? else if i = k then some x else l[i - 1]? := by
  have hl : (l.take k).length = k := by rw [List.length_take]; omega
  by_cases h1 : i < k
  · rw [if_pos h1, List.getElem?_append_left (by omega), List.getElem?_take, if_pos h1]
  · rw [if_neg h1, List.getElem?_append_right (by omega), hl]
    by_cases h2 : i = k
    · rw [if_pos h2, h2, Nat.sub_self]; rfl
    · rw [if_neg h2]
      obtain ⟨j, hj⟩ : ∃ j, i - k = j + 1 := ⟨i - k - 1, by omega⟩
      rw [hj, List.getElem?_cons_succ, List.getElem?_drop, show k + j = i - 1 by omega]
theorem insert2_get {α : Type} (l : List α) {k : Nat} (hk : k ≤ l.length) (x y : α) (i : Nat) : (l.take k ++ [x, y] ++ l.drop k)[i]? = if i < k then l[i]? else if i = k then some x else if i = k + 1 then some y else l[i - 2]? := by
  have hl : (l.take k).length = k := by rw [List.length_take]; omega
  rw [List.append_assoc]
  by_cases h1 : i < k
  · rw [if_pos h1, List.getElem?_append_left (by omega), List.getElem?_take, if_pos h1]
  · rw [if_neg h1, List.getElem?_append_right (by omega), hl]
    by_cases h2 : i = k
    · rw [if_pos h2, h2, Nat.sub_self]; rfl
    · rw [if_neg h2]
      by_cases h3 : i = k + 1
      · rw [if_pos h3, h3, show k + 1 - k = 1 by omega]; rfl
      · rw [if_neg h3]
        obtain ⟨j, hj⟩ : ∃ j, i - k = j + 2 := ⟨i - k - 2, by omega⟩
        rw [hj]
        show (l.drop k)[j]? = _
        rw [List.getElem?_drop, show k + j = i - 2 by omega]

section
variable {e m : Nat} {w w1 : World} {F : Nat → Prop} {base : Nat} {v : Value} {l : List (Int × List Int)}
/-- A row's values, one cell each. -/
theorem prow_one {vs : List Value} (hl : vs.length = l.length * 2) (hvl : ∀ (i : Nat) (x : Int × List Int), l[i]? = some x → vs[i * 2]? = some (.int .i64 x.1) ∧ ∃ u, vs[i * 2 + 1]? = some u ∧ Far w F v u m x.2) : ∀ u ∈ vs, u.oneCell' = true := fun u hu => by
  obtain ⟨j, hj, e⟩ := List.getElem_of_mem hu
  have hi : j / 2 < l.length := by omega
  obtain ⟨h1, z, h2, h3⟩ := hvl (j / 2) _ (List.getElem?_eq_getElem hi)
  have hu' : vs[j]? = some u := by rw [List.getElem?_eq_getElem hj, e]
  rcases Nat.mod_two_eq_zero_or_one j with a | a
  · rw [show j / 2 * 2 = j by omega, hu'] at h1
    cases h1
    rfl
  · rw [show j / 2 * 2 + 1 = j by omega, hu'] at h2
    cases h2
    obtain ⟨g, c, rfl, _⟩ := h3
    rfl
/-- An element put in; all of it in a new row. -/
theorem PRow.insert (hm : 0 < m) (h : PRow e m w F base v l) (hFlt : ∀ k, F k → k < w.heap.size) {k : Nat} (hk : k ≤ l.length) {x : Int} {u : Value} {b : List Int} (hu : ∃ g c, u = .slice (some ⟨g, 0, none⟩) m c ∧ m ≤ c ∧ w.heap.size ≤ g ∧ g < w1.heap.size ∧ RB w1 w1.heap.size (some ⟨g, 0, none⟩) m b) {vs : List Value} (hvs : w.ownsRow base e 2 v l.length vs) (hvl : ∀ (i : Nat) (x : Int × List Int), l[i]? = some x → vs[i * 2]? = some (.int .i64 x.1) ∧ ∃ u, vs[i * 2 + 1]? = some u ∧ Far w F v u m x.2)
    {w2 : World} {v' : Value} (h1 : Below w.heap.size w w1) (h2 : Below w1.heap.size w1 w2) (hown : w2.ownsRow base e 2 v' (l.length + 1) (vs.take (k * 2) ++ [.int .i64 x, u] ++ vs.drop (k * 2))) (hnew : ∀ r, v'.ownBlock = some r → w1.heap.size ≤ r) :
    PRow e m w2 F base v' (l.take k ++ (x, b) :: l.drop k) := by
  have hs1 := h1.size
  have hs2 := h2.size
  have far : ∀ {u : Value} {y : List Int}, Far w F v u m y → Far w2 F v' u m y := fun {u y} ha => by
    obtain ⟨g, c, h4, h5, h6, h7, h8, h9⟩ := ha
    refine ⟨g, c, h4, h5, h6, fun e => ?_, by omega, h9.there hm ((h2.block g (by omega)).trans (h1.block g h8)) (by omega)⟩
    have := hnew g e
    omega
  have farx : Far w2 F v' u m b := by
    obtain ⟨g, c, h4, h5, h6, h8, h9⟩ := hu
    refine ⟨g, c, h4, h5, fun hf => ?_, fun e => ?_, by omega, h9.there hm (h2.block g h8) hs2⟩
    · have := hFlt g hf; omega
    · have := hnew g e; omega
  have hvlen : vs.length = l.length * 2 := hvs.1
  have hlen : (l.take k ++ (x, b) :: l.drop k).length = l.length + 1 := by
    rw [List.length_append, List.length_take, List.length_cons, List.length_drop]; omega
  refine ⟨⟨_, by rw [hlen]; exact hown, fun i y hy => ?_⟩, fun r hr hf => ?_⟩
  · rw [insert_get _ hk] at hy
    rw [insert2_get _ (by omega), insert2_get _ (by omega)]
    by_cases a : i < k
    · rw [if_pos a] at hy
      rw [if_pos (by omega), if_pos (by omega)]
      obtain ⟨h3, z, h4, h5⟩ := hvl i y hy
      exact ⟨h3, z, h4, far h5⟩
    · rw [if_neg a] at hy
      by_cases c : i = k
      · rw [if_pos c] at hy
        cases hy
        rw [if_neg (by omega), if_pos (by omega), if_neg (by omega), if_neg (by omega), if_pos (by omega)]
        exact ⟨rfl, u, rfl, farx⟩
      · rw [if_neg c] at hy
        rw [if_neg (by omega), if_neg (by omega), if_neg (by omega), if_neg (by omega), if_neg (by omega), if_neg (by omega)]
        obtain ⟨h3, z, h4, h5⟩ := hvl (i - 1) y hy
        exact ⟨by rw [show i * 2 - 2 = (i - 1) * 2 by omega]; exact h3, z, by rw [show i * 2 + 1 - 2 = (i - 1) * 2 + 1 by omega]; exact h4, far h5⟩
  · have := hnew r hr
    have := hFlt r hf
    omega
end

section
variable {w w1 w8 : World} {G Z : Nat → Prop} {xa : Addr} {T : DS} {q' xr base : Nat} {t : Int} {v : Value} {M : List (Int × List Int)}
/-- The list has one more; its new row is stored. -/
theorem RPg.insert (h : RPg w G Z base xa T q' t xr v M) (hZ : ∀ k, Z k → k < w.heap.size) (hbase : base ≤ w.heap.size) {k : Nat} (hk : k ≤ M.length) {i : Int} {u : Value} {l : List Int} (hset : setL M i l = M.take k ++ (i, l) :: M.drop k) (hb1 : Below w.heap.size w w1) (hb8 : Below w1.heap.size w1 w8) (hu : ∃ g c, u = .slice (some ⟨g, 0, none⟩) 240 c ∧ 240 ≤ c ∧ w.heap.size ≤ g ∧ g < w1.heap.size ∧ RB w1 w1.heap.size (some ⟨g, 0, none⟩) 240 l) {vs : List Value} (hvs : w.ownsRow base 107 2 v M.length vs) (hvl : ∀ (i : Nat) (x : Int × List Int), M[i]? = some x → vs[i * 2]? = some (.int .i64 x.1) ∧ ∃ u, vs[i * 2 + 1]? = some u ∧ Far w (rpX G q' xr Z) v u 240 x.2)
    {v' : Value} (hown : w8.ownsRow w1.heap.size 107 2 v' (M.length + 1) (vs.take (k * 2) ++ [.int .i64 i, u] ++ vs.drop (k * 2))) : RpDone w G Z base xa T q' t xr v (setL M i l) (w8.setCell ⟨xr, 1, none⟩ v') := by
  have hs1 := hb1.size
  have hs8 := hb8.size
  have hql := h.log.cells.2.2.2
  have hxl := h.cells.2.2.2
  have hb : Below w.heap.size w w8 := hb1.trans (hb8.mono hs1)
  have hlt : ∀ k, rpX G q' xr Z k → k < w.heap.size := fun k hk => by
    rcases hk with a | a | a | a
    · exact h.ref.lt k a
    · omega
    · omega
    · exact hZ k a
  have hrow := h.row.insert (by decide) hlt hk hu hvs hvl hb1 hb8 (own_base_le hown (by omega)) (fun r hr => (own_at hown r hr).1)
  rw [← hset] at hrow
  refine ⟨G, v', ⟨h.ref.keep (fun k hk => (Below.heap_setCell _ _ _ _ (fun e => h.xG (by have e' : k = xr := e; rw [← e']; exact hk))).trans (hb.block k (h.ref.lt k hk))), h.log.keep ((Below.heap_setCell _ _ _ _ (fun e => h.xq e.symm)).trans (hb.block q' hql)), h.qG, ?_, h.xG, h.xq, hrow.keep (by decide) (by simp) (fun _ _ h => h) (fun k _ hx => Below.heap_setCell _ _ _ _ (fun e => hx (.inr (.inr (.inl e))))), fun e => ?_⟩, ⟨hb.os, hb.tape, hb.output, Nat.le_trans hb.size (by simp), fun k hk hn => (Below.heap_setCell _ _ _ _ (fun e => hn (.inr (.inr (.inl e))))).trans (hb.block k hk)⟩, fun k hk => .inl hk⟩
  · exact heap_setCell_same w8 xr 1 _ _ v' ((hb.block xr hxl).trans h.me)
  · rw [hset] at e
    have := congrArg List.length e
    simp at this
end

end Go.Proofs.YtkpmfobmlaldfaaDoor

/-
  A region that draws its order: an operation that reads a cell may be taken first, if that cell stands behind every operation that does not wait for it. Plain facts about the walk; no condition beyond what each says.
-/
namespace Go.Proofs.YtkpmfobmlaldfaaDoor
open Go.RowKit
set_option maxRecDepth 100000
set_option linter.unusedVariables false

section
variable {P : Program} {ops : Array Oper} {Q : Exit → Act → World → Prop} {md : Region.Mode} {S : World → Prop}

/-- Whatever order is picked, and S holds behind every operation up to the first one that waits for operation i. -/
def wpAnyT (P : Program) (md : Region.Mode) (ops : Array Oper) (Q : Exit → Act → World → Prop) (S : World → Prop) (i : Nat) : Nat → Array Bool → Act → World → Prop
  | 0, listed, a, w => Region.ready md ops listed = [] ∧ Q .normal a w
  | fuel + 1, listed, a, w =>
    (Region.ready md ops listed = [] → Q .normal a w) ∧
    ∀ j ∈ Region.ready md ops listed, (Region.waitsFor md ops j i = true → wpOp P ops Q j (fun a' w' => wpAny P md ops Q fuel (listed.setIfInBounds j true) a' w') a w) ∧
      (Region.waitsFor md ops j i = false → wpOp P ops Q j (fun a' w' => S w' ∧ wpAnyT P md ops Q S i fuel (listed.setIfInBounds j true) a' w') a w)

theorem wpAny_of_T {i : Nat} : ∀ (fuel : Nat) (listed : Array Bool) (a : Act) (w : World), wpAnyT P md ops Q S i fuel listed a w → wpAny P md ops Q fuel listed a w
  | 0, _, _, _, h => h
  | fuel + 1, _, _, _, h => ⟨h.1, fun j hj => by
      cases hw : Region.waitsFor md ops j i
      · exact wpOp_mono (fun a' w' h' => wpAny_of_T fuel _ a' w' h'.2) ((h.2 j hj).2 hw)
      · exact (h.2 j hj).1 hw⟩

theorem wpAnyT_first {i : Nat} {oi : Oper} {v : Value} (hi : ops[i]? = some oi) (hsel : ∀ (j : Nat) (o : Oper) cs b, ops[j]? = some o → o.op ≠ .select cs b)
    (hQ : ∀ c a w, Q (.panic c) (a.put oi.dst v) w → Q (.panic c) a w) :
    ∀ (fuel : Nat) (listed : Array Bool) (a : Act) (w : World),
      (∀ j oj, ops[j]? = some oj → j ≠ i → listed.getD j true = false → (∀ e ∈ oj.after, Region.binds md e = true → e.on ≠ i) → oi.apart ops oj = true) →
      i ∈ Region.ready md ops listed → YieldsIf P ops S oi v a → S w →
      wpAnyT P md ops Q S i fuel (listed.setIfInBounds i true) (a.put oi.dst v) w → wpAny P md ops Q (fuel + 1) listed a w := by
  intro fuel
  induction fuel with
  | zero =>
    intro listed a w _ hr hy hS H
    refine ⟨fun h => (by rw [h] at hr; cases hr), fun j hj => ?_⟩
    by_cases hji : j = i
    · subst hji; exact hy.wpOp hi hS H
    · have := ready_mono hj hji
      rw [H.1] at this
      cases this
  | succ fuel ih =>
    intro listed a w hfree hr hy hS H
    refine ⟨fun h => (by rw [h] at hr; cases hr), fun j hj => ?_⟩
    by_cases hji : j = i
    · subst hji; exact hy.wpOp hi hS (wpAny_of_T _ _ _ _ H)
    · obtain ⟨hjun, oj, hoj, hall⟩ := mem_ready.1 hj
      have hnot : ∀ e ∈ oj.after, Region.binds md e = true → e.on ≠ i := fun e he hb heq => by
        have h1 := hall e he hb
        have h0 := (mem_ready.1 hr).1
        rw [heq] at h1
        rcases Nat.lt_or_ge i listed.size with h' | h'
        · simp [h'] at h0 h1; rw [h0] at h1; cases h1
        · simp [Array.getElem?_eq_none h'] at h1
      have hwf : Region.waitsFor md ops j i = false := by
        cases hw : Region.waitsFor md ops j i
        · rfl
        · obtain ⟨oj', hoj', e, he, hb, heq⟩ := Region.waitsFor_spec hw
          rw [hoj] at hoj'
          cases hoj'
          exact absurd heq (hnot e he hb)
      have h1 := (H.2 j (ready_mono hj hji)).2 hwf
      have h2 := wpOp_putIf hoj (hfree j oj hoj hji hjun hnot) (fun cs b => hsel i oi cs b hi) (fun cs b => hsel j oj cs b hoj) hQ hy h1
      have hfree' : ∀ k ok, ops[k]? = some ok → k ≠ i → (listed.setIfInBounds j true).getD k true = false →
          (∀ e ∈ ok.after, Region.binds md e = true → e.on ≠ i) → oi.apart ops ok = true := fun k ok hk hki hun hno => by
        refine hfree k ok hk hki ?_ hno
        by_cases hjk : j = k
        · subst hjk; exact hjun
        · rw [getD_set_ne true hjk] at hun; exact hun
      refine wpOp_mono (fun a' w' h3 => ih (listed.setIfInBounds j true) a' w' hfree' (ready_mono hr (Ne.symm hji)) h3.1 h3.2.1 ?_) h2
      rw [Array.setIfInBounds_comm _ _ hji]
      exact h3.2.2

/-- Take number i first: it reads cells that S speaks of. -/
theorem wpAny_take_read {i : Nat} {oi : Oper} {v : Value} {fuel : Nat} {listed : Array Bool} {a : Act} {w : World} (S : World → Prop) (hi : ops[i]? = some oi)
    (hs : Region.noSelect ops = true) (hf : Region.free md ops listed i = true) (hr : (Region.ready md ops listed).contains i = true)
    (hQ : ∀ c a w, Q (.panic c) (a.put oi.dst v) w → Q (.panic c) a w) (hy : YieldsIf P ops S oi v a) (hS : S w)
    (h : wpAnyT P md ops Q S i fuel (listed.setIfInBounds i true) (a.put oi.dst v) w) : wpAny P md ops Q (fuel + 1) listed a w :=
  wpAnyT_first hi (Region.noSelect_spec hs) hQ fuel listed a w (Region.free_spec hi hf) (by simpa using hr) hy hS h
/-- The one operation that may come up, S behind it. -/
theorem wpAnyT_one {i j fuel : Nat} {o : Oper} {listed : Array Bool} {a : Act} {w : World} (ho : ops[j]? = some o) (hr : Region.ready md ops listed = [j]) (hw : Region.waitsFor md ops j i = false)
    (h : ∀ K' : Act → World → Prop, (∀ a w, S w → wpAnyT P md ops Q S i fuel (listed.setIfInBounds j true) a w → K' a w) → if Region.wanted o (yielded ops a.tmps) = true then Oper.wp P o a w K' Q else K' (a.put o.dst undef) w) : wpAnyT P md ops Q S i (fuel + 1) listed a w := by
  refine ⟨fun h0 => (by rw [hr] at h0; cases h0), fun k hk => ?_⟩
  rw [hr] at hk
  obtain rfl := List.mem_singleton.1 hk
  exact ⟨fun e => (by rw [hw] at e; cases e), fun _ => wpOp_step ho (fun K' hK => h K' (fun a w h1 h2 => hK a w ⟨h1, h2⟩))⟩
/-- The one operation that may come up; it waits for number i. -/
theorem wpAnyT_last {i j fuel : Nat} {o : Oper} {listed : Array Bool} {a : Act} {w : World} (ho : ops[j]? = some o) (hr : Region.ready md ops listed = [j]) (hw : Region.waitsFor md ops j i = true)
    (h : ∀ K' : Act → World → Prop, (∀ a w, wpAny P md ops Q fuel (listed.setIfInBounds j true) a w → K' a w) → if Region.wanted o (yielded ops a.tmps) = true then Oper.wp P o a w K' Q else K' (a.put o.dst undef) w) : wpAnyT P md ops Q S i (fuel + 1) listed a w := by
  refine ⟨fun h0 => (by rw [hr] at h0; cases h0), fun k hk => ?_⟩
  rw [hr] at hk
  obtain rfl := List.mem_singleton.1 hk
  exact ⟨fun _ => wpOp_step ho h, fun e => (by rw [hw] at e; cases e)⟩
/-- The one operation that may come up yields its value. -/
theorem wpAnyT_yield {i j fuel : Nat} {o : Oper} {v : Value} {listed : Array Bool} {a : Act} {w : World} (ho : ops[j]? = some o) (hr : Region.ready md ops listed = [j]) (hw : Region.waitsFor md ops j i = false) (hy : YieldsIf P ops S o v a) (hS : S w)
    (h : wpAnyT P md ops Q S i fuel (listed.setIfInBounds j true) (a.put o.dst v) w) : wpAnyT P md ops Q S i (fuel + 1) listed a w := by
  refine ⟨fun h0 => (by rw [hr] at h0; cases h0), fun k hk => ?_⟩
  rw [hr] at hk
  obtain rfl := List.mem_singleton.1 hk
  exact ⟨fun e => (by rw [hw] at e; cases e), fun _ => hy.wpOp ho hS ⟨hS, h⟩⟩
theorem wpAny_one {j fuel : Nat} {o : Oper} {listed : Array Bool} {a : Act} {w : World} (ho : ops[j]? = some o) (hr : Region.ready md ops listed = [j])
    (h : ∀ K' : Act → World → Prop, (∀ a w, wpAny P md ops Q fuel (listed.setIfInBounds j true) a w → K' a w) → if Region.wanted o (yielded ops a.tmps) = true then Oper.wp P o a w K' Q else K' (a.put o.dst undef) w) : wpAny P md ops Q (fuel + 1) listed a w := by
  refine ⟨fun h0 => (by rw [hr] at h0; cases h0), fun k hk => ?_⟩
  rw [hr] at hk
  obtain rfl := List.mem_singleton.1 hk
  exact wpOp_step ho h
end
end Go.Proofs.YtkpmfobmlaldfaaDoor

/-
  A region that draws its order and ends in one operation that breaks what the others keep: operations that read what S speaks of may be taken first. Plain facts about the walk; no condition beyond what each says.
-/
namespace Go.Proofs.YtkpmfobmlaldfaaDoor
open Go.RowKit
set_option maxRecDepth 100000
set_option linter.unusedVariables false

section
variable {P : Program} {ops : Array Oper} {Q : Exit → Act → World → Prop} {md : Region.Mode} {S : World → Prop} {z : Nat}

/-- Whatever order is picked, and S holds behind every operation but number z. -/
def wpAnyZ (P : Program) (md : Region.Mode) (ops : Array Oper) (Q : Exit → Act → World → Prop) (S : World → Prop) (z : Nat) : Nat → Array Bool → Act → World → Prop
  | 0, listed, a, w => Region.ready md ops listed = [] ∧ Q .normal a w
  | fuel + 1, listed, a, w =>
    (Region.ready md ops listed = [] → Q .normal a w) ∧
    ∀ j ∈ Region.ready md ops listed, (j = z → wpOp P ops Q j (fun a' w' => wpAny P md ops Q fuel (listed.setIfInBounds j true) a' w') a w) ∧
      (j ≠ z → wpOp P ops Q j (fun a' w' => S w' ∧ wpAnyZ P md ops Q S z fuel (listed.setIfInBounds j true) a' w') a w)

theorem wpAny_of_Z : ∀ (fuel : Nat) (listed : Array Bool) (a : Act) (w : World), wpAnyZ P md ops Q S z fuel listed a w → wpAny P md ops Q fuel listed a w
  | 0, _, _, _, h => h
  | fuel + 1, _, _, _, h => ⟨h.1, fun j hj => by
      by_cases hw : j = z
      · exact (h.2 j hj).1 hw
      · exact wpOp_mono (fun a' w' h' => wpAny_of_Z fuel _ a' w' h'.2) ((h.2 j hj).2 hw)⟩

theorem wpAnyZ_first {i : Nat} {oi : Oper} {v : Value} (hi : ops[i]? = some oi) (hiz : i ≠ z) (hzw : Region.waitsFor md ops z i = true) (hsel : ∀ (j : Nat) (o : Oper) cs b, ops[j]? = some o → o.op ≠ .select cs b)
    (hQ : ∀ c a w, Q (.panic c) (a.put oi.dst v) w → Q (.panic c) a w) :
    ∀ (fuel : Nat) (listed : Array Bool) (a : Act) (w : World),
      (∀ j oj, ops[j]? = some oj → j ≠ i → listed.getD j true = false → (∀ e ∈ oj.after, Region.binds md e = true → e.on ≠ i) → oi.apart ops oj = true) →
      i ∈ Region.ready md ops listed → YieldsIf P ops S oi v a → S w →
      wpAnyZ P md ops Q S z fuel (listed.setIfInBounds i true) (a.put oi.dst v) w → wpAnyZ P md ops Q S z (fuel + 1) listed a w := by
  intro fuel
  induction fuel with
  | zero =>
    intro listed a w _ hr hy hS H
    refine ⟨fun h => (by rw [h] at hr; cases hr), fun j hj => ?_⟩
    by_cases hji : j = i
    · subst hji; exact ⟨fun e => absurd e hiz, fun _ => hy.wpOp hi hS ⟨hS, H⟩⟩
    · have := ready_mono hj hji
      rw [H.1] at this
      cases this
  | succ fuel ih =>
    intro listed a w hfree hr hy hS H
    refine ⟨fun h => (by rw [h] at hr; cases hr), fun j hj => ?_⟩
    by_cases hji : j = i
    · subst hji; exact ⟨fun e => absurd e hiz, fun _ => hy.wpOp hi hS ⟨hS, H⟩⟩
    · obtain ⟨hjun, oj, hoj, hall⟩ := mem_ready.1 hj
      have hnot : ∀ e ∈ oj.after, Region.binds md e = true → e.on ≠ i := fun e he hb heq => by
        have h1 := hall e he hb
        have h0 := (mem_ready.1 hr).1
        rw [heq] at h1
        rcases Nat.lt_or_ge i listed.size with h' | h'
        · simp [h'] at h0 h1; rw [h0] at h1; cases h1
        · simp [Array.getElem?_eq_none h'] at h1
      refine ⟨fun e => ?_, fun hjz => ?_⟩
      · subst e
        obtain ⟨oj', hoj', e, he, hb, heq⟩ := Region.waitsFor_spec hzw
        rw [hoj] at hoj'
        cases hoj'
        exact absurd heq (hnot e he hb)
      have h1 := (H.2 j (ready_mono hj hji)).2 hjz
      have h2 := wpOp_putIf hoj (hfree j oj hoj hji hjun hnot) (fun cs b => hsel i oi cs b hi) (fun cs b => hsel j oj cs b hoj) hQ hy h1
      have hfree' : ∀ k ok, ops[k]? = some ok → k ≠ i → (listed.setIfInBounds j true).getD k true = false →
          (∀ e ∈ ok.after, Region.binds md e = true → e.on ≠ i) → oi.apart ops ok = true := fun k ok hk hki hun hno => by
        refine hfree k ok hk hki ?_ hno
        by_cases hjk : j = k
        · subst hjk; exact hjun
        · rw [getD_set_ne true hjk] at hun; exact hun
      refine wpOp_mono (fun a' w' h3 => ⟨h3.2.1, ih (listed.setIfInBounds j true) a' w' hfree' (ready_mono hr (Ne.symm hji)) h3.1 h3.2.1 ?_⟩) h2
      rw [Array.setIfInBounds_comm _ _ hji]
      exact h3.2.2

/-- Take number i first: it is pure, or reads what S speaks of. -/
theorem wpAnyZ_take {i : Nat} {oi : Oper} {v : Value} {fuel : Nat} {listed : Array Bool} {a : Act} {w : World} (hi : ops[i]? = some oi) (hiz : i ≠ z) (hzw : Region.waitsFor md ops z i = true)
    (hs : Region.noSelect ops = true) (hf : Region.free md ops listed i = true) (hr : (Region.ready md ops listed).contains i = true)
    (hQ : ∀ c a w, Q (.panic c) (a.put oi.dst v) w → Q (.panic c) a w) (hy : YieldsIf P ops S oi v a) (hS : S w)
    (h : wpAnyZ P md ops Q S z fuel (listed.setIfInBounds i true) (a.put oi.dst v) w) : wpAnyZ P md ops Q S z (fuel + 1) listed a w :=
  wpAnyZ_first hi hiz hzw (Region.noSelect_spec hs) hQ fuel listed a w (Region.free_spec hi hf) (by simpa using hr) hy hS h
/-- The one operation that may come up, S behind it. -/
theorem wpAnyZ_one {j fuel : Nat} {o : Oper} {listed : Array Bool} {a : Act} {w : World} (ho : ops[j]? = some o) (hr : Region.ready md ops listed = [j]) (hjz : j ≠ z)
    (h : ∀ K' : Act → World → Prop, (∀ a w, S w → wpAnyZ P md ops Q S z fuel (listed.setIfInBounds j true) a w → K' a w) → if Region.wanted o (yielded ops a.tmps) = true then Oper.wp P o a w K' Q else K' (a.put o.dst undef) w) : wpAnyZ P md ops Q S z (fuel + 1) listed a w := by
  refine ⟨fun h0 => (by rw [hr] at h0; cases h0), fun k hk => ?_⟩
  rw [hr] at hk
  obtain rfl := List.mem_singleton.1 hk
  exact ⟨fun e => absurd e hjz, fun _ => wpOp_step ho (fun K' hK => h K' (fun a w h1 h2 => hK a w ⟨h1, h2⟩))⟩
/-- One of two may come up, S behind either. -/
theorem wpAnyZ_two {j k fuel : Nat} {o o' : Oper} {listed : Array Bool} {a : Act} {w : World} (ho : ops[j]? = some o) (ho' : ops[k]? = some o') (hr : Region.ready md ops listed = [j, k]) (hjz : j ≠ z) (hkz : k ≠ z)
    (h : ∀ K' : Act → World → Prop, (∀ a w, S w → wpAnyZ P md ops Q S z fuel (listed.setIfInBounds j true) a w → K' a w) → if Region.wanted o (yielded ops a.tmps) = true then Oper.wp P o a w K' Q else K' (a.put o.dst undef) w)
    (h' : ∀ K' : Act → World → Prop, (∀ a w, S w → wpAnyZ P md ops Q S z fuel (listed.setIfInBounds k true) a w → K' a w) → if Region.wanted o' (yielded ops a.tmps) = true then Oper.wp P o' a w K' Q else K' (a.put o'.dst undef) w) : wpAnyZ P md ops Q S z (fuel + 1) listed a w := by
  refine ⟨fun h0 => (by rw [hr] at h0; cases h0), fun m hm => ?_⟩
  rw [hr] at hm
  rcases List.mem_cons.1 hm with rfl | hm
  · exact ⟨fun e => absurd e hjz, fun _ => wpOp_step ho (fun K' hK => h K' (fun a w h1 h2 => hK a w ⟨h1, h2⟩))⟩
  · obtain rfl := List.mem_singleton.1 hm
    exact ⟨fun e => absurd e hkz, fun _ => wpOp_step ho' (fun K' hK => h' K' (fun a w h1 h2 => hK a w ⟨h1, h2⟩))⟩
/-- Number z comes up. -/
theorem wpAnyZ_last {fuel : Nat} {o : Oper} {listed : Array Bool} {a : Act} {w : World} (ho : ops[z]? = some o) (hr : Region.ready md ops listed = [z])
    (h : ∀ K' : Act → World → Prop, (∀ a w, wpAny P md ops Q fuel (listed.setIfInBounds z true) a w → K' a w) → if Region.wanted o (yielded ops a.tmps) = true then Oper.wp P o a w K' Q else K' (a.put o.dst undef) w) : wpAnyZ P md ops Q S z (fuel + 1) listed a w := by
  refine ⟨fun h0 => (by rw [hr] at h0; cases h0), fun k hk => ?_⟩
  rw [hr] at hk
  obtain rfl := List.mem_singleton.1 hk
  exact ⟨fun _ => wpOp_step ho h, fun e => absurd rfl e⟩
end
end Go.Proofs.YtkpmfobmlaldfaaDoor

/-
  Contract of the plain pager's Set. Condition: numbers and lengths are ints.
-/
namespace Go.Proofs.YtkpmfobmlaldfaaDoor
open Go.RowKit
set_option maxRecDepth 100000
set_option linter.unusedVariables false

section
variable {w w' : World} {G Z : Nat → Prop} {xa : Addr} {T : DS} {q' xr base : Nat} {t : Int} {v : Value} {M : List (Int × List Int)}

theorem RpDone.same (h : RPg w G Z base xa T q' t xr v M) : RpDone w G Z base xa T q' t xr v M w := ⟨G, v, h, ⟨rfl, rfl, rfl, Nat.le_refl _, fun _ _ _ => rfl⟩, fun k hk => .inl hk⟩
/-- A place of the list was written over. -/
theorem RPg.over {g k : Nat} {x : Int} {b b0 : List Int} {u : Value} (h : RPg w G Z base xa T q' t xr v M) (hv : v.ownBlock = some g) (hk : M[k]? = some (x, b0)) (hu : Far w (rpX G q' xr Z) v u 240 b) : RPg (w.setCell ⟨g, k * 2 + 1, none⟩ u) G Z base xa T q' t xr v (M.set k (x, b)) := by
  have ho := h.row.out g hv
  refine ⟨h.ref.keep (fun j hj => Below.heap_setCell _ _ _ _ (fun e => ho (.inl (by have e' : j = g := e; rw [← e']; exact hj)))), h.log.keep (Below.heap_setCell _ _ _ _ (fun e => ho (.inr (.inl (by have e' : q' = g := e; exact e'.symm))))), h.qG, (Below.heap_setCell _ _ _ _ (fun e => ho (.inr (.inr (.inl (by have e' : xr = g := e; exact e'.symm)))))).trans h.me, h.xG, h.xq, h.row.over (by decide) hv hk hu, fun e => ?_⟩
  have h0 : M = [] := by
    cases M with
    | nil => rfl
    | cons a r =>
      have := congrArg List.length e
      simp at this
  exact h.nil_ h0

set_option maxHeartbeats 6400000 in
theorem rpset_any (h : RPg w G Z base xa T q' t xr v M) (hZ : ∀ k, Z k → k < w.heap.size) (hbase : base ≤ w.heap.size) (hM : M.length ≤ 65536) (i : Int) {A : Option Addr} {n c B : Nat} {l : List Int} (hr : RB w B A n l) (hB : B ≤ w.heap.size) (hn : n ≤ maxLen) :
    Calls Tryd.prog 30 #[.pointer (some ⟨xr, 0, none⟩), .int .i64 i, .slice A n c] w fun e w' => e = .returned (.int .i64 (setPgE T i l)) ∧ RpDone w G Z base xa T q' t xr v (setPg T M i l) w' := by
  unfold maxLen at hn
  obtain ⟨m0, m1, _, hxl⟩ := h.cells
  have hlen := hr.len
  have HS := Lib.hid (RpDone.same h)
  have HP := Lib.hid (refLogPages_any h.ref h.log)
  have hP : T.P = pagesOf T.n := rfl
  by_cases h1 : i < 0
  · have hE : setPgE T i l = 1 := by unfold setPgE; rw [if_pos (.inl h1)]
    have hL : setPg T M i l = M := by unfold setPg; rw [if_pos (.inl h1)]
    rw [hE, hL]
    have k1 : decide (i < 0) = true := by simpa using h1
    clear h hE hL h1 hr
    go_enter Tryd.func30, Tryd.ntmps30
    go_wp2
    go_ret
    exact ⟨rfl, HS.out⟩
  have k1 : decide (i < 0) = false := by simpa using h1
  by_cases h2 : i ≥ T.P
  · have hE : setPgE T i l = 1 := by unfold setPgE; rw [if_pos (.inr (.inl h2))]
    have hL : setPg T M i l = M := by unfold setPg; rw [if_pos (.inr (.inl h2))]
    rw [hE, hL]
    have k2 : decide (pagesOf T.n ≤ i) = true := by simpa using (hP ▸ h2)
    clear h hE hL h1 h2 hr hP
    go_enter Tryd.func30, Tryd.ntmps30
    go_wp2_with fail
    refine HP.out.mono ?_
    rintro e w1 ⟨rfl, rfl⟩
    go_wp2
    go_ret
    exact ⟨rfl, HS.out⟩
  have k2 : decide (pagesOf T.n ≤ i) = false := by
    have h2' := h2
    rw [hP] at h2'
    simpa using h2'
  by_cases h3 : n = 240
  case neg =>
    have hE : setPgE T i l = 1 := by unfold setPgE; rw [if_pos (.inr (.inr (by rw [hlen]; exact h3)))]
    have hL : setPg T M i l = M := by unfold setPg; rw [if_pos (.inr (.inr (by rw [hlen]; exact h3)))]
    rw [hE, hL]
    have k3 : ((n : Int) != 240) = true := by simp; omega
    clear h hE hL h1 h2 h3 hr hP hlen
    go_enter Tryd.func30, Tryd.ntmps30
    go_wp2_with fail
    refine HP.out.mono ?_
    rintro e w1 ⟨rfl, rfl⟩
    go_wp2
    go_ret
    exact ⟨rfl, HS.out⟩
  subst h3
  have hok : ¬ (i < 0 ∨ i ≥ T.P ∨ l.length ≠ 240) := fun a => a.elim h1 (fun a => a.elim h2 (fun a => a hlen))
  have hE : setPgE T i l = 0 := by unfold setPgE; rw [if_neg hok]
  have hL : setPg T M i l = setL M i l := by unfold setPg; rw [if_neg hok]
  rw [hE, hL]
  clear hE hL hok h1 h2 hP HS hlen
  have HH := Lib.hid h
  have HR := Lib.hid hr
  have hrl := h.ref.lt
  have hql := h.log.cells.2.2.2
  obtain ⟨AM, cM, rfl, hcM, _⟩ := h.row.imgs (by decide)
  have h0row := h.row.row
  have HNIL := Lib.hid h.nil_
  have HOWN := Lib.hid (show ∀ g, (Value.slice AM M.length cM).ownBlock = some g → g < w.heap.size from fun g hg => by
    obtain ⟨vs0, hrow0, _⟩ := h.row.row
    exact (own_at hrow0 g hg).2)
  have HXL := Lib.hid (And.intro hxl (And.intro hrl hql))
  clear h hr hrl hql
  have HVS0 := Lib.hid h0row
  clear h0row
  generalize hN : M.length = N at *
  have HN := Lib.hid hN
  clear hN
  go_enter Tryd.func30, Tryd.ntmps30
  go_wp2_with fail
  refine HP.out.mono ?_
  rintro e w0 ⟨rfl, rfl⟩
  clear HP m0 m1
  go_wp2_with (at_builtin; refine wpList_append_bytes rfl _ _ rfl w.heap.size (.slice none 0 0) 0 [] rfl ⟨rfl, .inl ⟨rfl, rfl⟩⟩ _ A 240 c l rfl HR.out (by decide) (Nat.le_refl _) ?_; intro u w1 hown1 hg1 hb1; have HO1 := Lib.hid hown1; have HB1 := Lib.hid hb1; clear hown1 hg1 hb1)
  rcases HO1.out.2 with ⟨_, h0⟩ | ⟨g1, cap1, cur1, rfl, hg1, hhc1, _, _, _, _⟩
  · simp at h0
  have hh1 := HH.out.below HB1.out
  obtain ⟨m0, m1, _, hxl1⟩ := hh1.cells
  obtain ⟨vs, hrow0, hvl0⟩ := HVS0.out
  have HROW0 := Lib.hid (And.intro hrow0 hvl0)
  have hrow := own_stays hrow0 (fun g hg => HB1.out.block g (own_at hrow0 g hg).2)
  have HONE := Lib.hid (prow_one (w := w) (by rw [HN.out]; exact hrow0.1) hvl0)
  have hru1 : RB w1 w1.heap.size (some ⟨g1, 0, none⟩) 240 l := by simpa using RB.of_own HO1.out (by simpa using HR.out.bytes)
  have HG1 := Lib.hid (show w.heap.size ≤ g1 ∧ g1 < w1.heap.size ∧ RB w1 w1.heap.size (some ⟨g1, 0, none⟩) 240 l ∧ 240 ≤ cap1 from ⟨hg1, (Array.getElem?_eq_some_iff.1 hhc1).1, hru1, by omega⟩)
  clear HVS0 hrow0 hvl0 hru1
  obtain ⟨AM', cM', e3, _, himg⟩ := hh1.row.imgs (by decide)
  simp only [Value.slice.injEq] at e3
  obtain ⟨rfl, e4, rfl⟩ := e3
  clear e4
  rw [HN.out] at himg
  have HH1 := Lib.hid hh1
  have HI := Lib.hid himg
  have HROW := Lib.hid hrow
  clear hh1 himg hrow


  go_loop [8] (fun x => ∃ k : Nat, k ≤ N ∧ x = .int .i64 k ∧ Hid (∀ t z, t < k → M[t]? = some z → z.1 < i)) (fun x => N - (intOf x).toNat)
  case atStart => exact ⟨0, Nat.zero_le _, rfl, Lib.hid (fun t z ht => absurd ht (by omega))⟩
  case round =>
    obtain ⟨k, hk, rfl, hbef⟩ := hrel
    have hn63 : N ≤ 9223372036854775807 := by omega
    by_cases hlt : k < N
    · have hlt' : (k : Int) < (N : Int) := by omega
      obtain ⟨y, hy⟩ : ∃ y, M[k]? = some y := ⟨_, List.getElem?_eq_getElem (by rw [HN.out]; exact hlt)⟩
      obtain ⟨b, rfl, _, hbl, hat⟩ := HI.out.2 (by omega)
      obtain ⟨c1, D, m, cm, c2, _, _, _, _⟩ := hat k y hy
      have HY := Lib.hid hy
      obtain ⟨p, pl⟩ := y
      simp only at c1
      clear hat hy
      by_cases h4 : p < i
      · have k4 : decide (p < i) = true := by simpa using h4
        have HNX := Lib.hid (show ∀ t z, t < k + 1 → M[t]? = some z → z.1 < i from fun t z ht hz => by
          rcases Nat.lt_or_ge t k with a | a
          · exact hbef.out t z a hz
          · obtain rfl : t = k := by omega
            rw [HY.out] at hz
            cases hz
            exact h4)
        clear h4
        go_wp2
        go_round
        case rel => exact ⟨k + 1, by omega, by go_num, by first | exact HNX | exact Lib.hid (fun t a b ht hz => HNX.out t (a, b) ht hz)⟩
        case measure => simp [intOf]; omega
      have k4 : decide (p < i) = false := by simpa using h4
      by_cases h5 : p = i
      · have k5 : (p == i) = true := by simpa using h5
        have HSET := Lib.hid (setL_at (l := l) hbef.out HY.out h5)
        have hru := RB.of_own HO1.out (by simpa using HR.out.bytes)
        have hfar : Far w1 (rpX G q' xr Z) (.slice (some ⟨b, 0, none⟩) N cM) (.slice (some ⟨g1, 0, none⟩) 240 cap1) 240 l := by
          refine ⟨g1, cap1, rfl, by omega, fun a => ?_, fun e => ?_, (Array.getElem?_eq_some_iff.1 hhc1).1, ?_⟩
          · rcases a with a | a | a | a
            · have := HXL.out.2.1 g1 a; omega
            · have := HXL.out.2.2; omega
            · have := HXL.out.1; omega
            · have := hZ g1 a; omega
          · have := HOWN.out g1 e; omega
          · simpa using hru
        have hfz : w1.frozen? ⟨b, k * 2 + 1, none⟩ = false := by
          rcases HROW.out.2 with ⟨e, _⟩ | ⟨g, cap, cur, hv, _, hg, _⟩
          · cases e
          · injection hv with e1 e2 e3
            injection e1 with e1
            injection e1 with e1
            subst e1
            simp [World.frozen?, hg]
        have HOV := Lib.hid (HH1.out.over (g := b) (x := i) rfl (by rw [← h5]; exact HY.out) hfar)
        have HEND := Lib.hid (show RpDone w G Z base xa T q' t xr (.slice (some ⟨b, 0, none⟩) N cM) (setL M i l) (w1.setCell ⟨b, k * 2 + 1, none⟩ (.slice (some ⟨g1, 0, none⟩) 240 cap1)) from ⟨G, .slice (some ⟨b, 0, none⟩) N cM, by rw [HSET.out]; exact HOV.out, ⟨HB1.out.os, HB1.out.tape, HB1.out.output, Nat.le_trans HB1.out.size (by simp), fun j hj hn => (Below.heap_setCell _ _ _ _ (fun e => hn (.inr (.inr (.inr (by have e' : j = b := e; rw [e']; rfl)))))).trans (HB1.out.block j hj)⟩, fun j hj => .inl hj⟩)
        clear HOV hfar hru h5 h4
        go_wp2
        go_ret
        exact ⟨rfl, HEND.out⟩
      · have k5 : (p == i) = false := by simpa using h5
        have x1 : w1.drew.cell? ⟨xr, 1, none⟩ = some (.slice (some ⟨b, 0, none⟩) N cM) := m1
        have hxz : w1.frozen? ⟨xr, 1, none⟩ = false := HH1.out.cells.2.2.1
        have hvl : vs.length = N * 2 := HROW.out.1
        have HCV0 := Lib.hid (fun j u (hj : vs[j]? = some u) => World.ownsRow.cells (g := b) HROW.out rfl j u hj)
        have HCV := Lib.hid (show ∀ j u, vs[j]? = some u → w1.drew.cell? ((⟨b, 0, none⟩ : Addr).add j) = some u from fun j u hj => HCV0.out j u hj)
        have HBL := Lib.hid (show ∀ j, ((⟨b, 0, none⟩ : Addr).add j).block < w1.heap.size from fun j => by rw [img_add]; exact (own_at HROW.out b rfl).2)
        have HSET := Lib.hid (setL_in (l := l) hbef.out (fun y hy => by rw [HY.out] at hy; cases hy; show i < p; omega) (by rw [HN.out]; omega))
        have hkc : (k : Int) ≤ (cM : Int) := by omega
        have hkn : (k : Int) ≤ (N : Int) := by omega
        have hNc : (N : Int) ≤ (cM : Int) := by omega
        have hk0 : (0 : Int) ≤ (k : Int) := by omega
        have hnk : ¬ cM = k := by omega
        clear hlt'
        go_wp2_with fail
        refine wp_region_any (by rfl) ?_
        change wpAny _ _ _ _ _ _ _ w1.drew
        refine wpAny_of_Z (S := fun wz => wz.cell? ⟨xr, 1, none⟩ = some (.slice (some ⟨b, 0, none⟩) N cM)) (z := 22) _ _ _ _ ?_
        refine wpAnyZ_take (i := 0) (oi := { dst := some 75, op := _, type := _, pos := _, after := _, guard := _ }) (v := .pointer (some ⟨xr, 0, none⟩)) rfl (by decide) (by kernel_rfl) (by kernel_rfl) (by kernel_rfl) (by kernel_rfl) (fun _ _ _ h => h) (Or.inl ⟨by rfl, fun wz hS => ?_⟩) x1 ?_
        · go_simp
        try simp only [Act.put, List.setIfInBounds_toArray, List.set_cons_zero, List.set_cons_succ]
        refine wpAnyZ_take (i := 1) (oi := { dst := some 76, op := _, type := _, pos := _, after := _, guard := _ }) (v := .pointer (some ⟨xr, 0, none⟩)) rfl (by decide) (by kernel_rfl) (by kernel_rfl) (by kernel_rfl) (by kernel_rfl) (fun _ _ _ h => h) (Or.inl ⟨by rfl, fun wz hS => ?_⟩) x1 ?_
        · go_simp
        try simp only [Act.put, List.setIfInBounds_toArray, List.set_cons_zero, List.set_cons_succ]
        refine wpAnyZ_take (i := 2) (oi := { dst := some 77, op := _, type := _, pos := _, after := _, guard := _ }) (v := .pointer (some ⟨xr, 0, none⟩)) rfl (by decide) (by kernel_rfl) (by kernel_rfl) (by kernel_rfl) (by kernel_rfl) (fun _ _ _ h => h) (Or.inl ⟨by rfl, fun wz hS => ?_⟩) x1 ?_
        · go_simp
        try simp only [Act.put, List.setIfInBounds_toArray, List.set_cons_zero, List.set_cons_succ]
        refine wpAnyZ_take (i := 3) (oi := { dst := some 78, op := _, type := _, pos := _, after := _, guard := _ }) (v := .pointer (some ⟨xr, 1, none⟩)) rfl (by decide) (by kernel_rfl) (by kernel_rfl) (by kernel_rfl) (by kernel_rfl) (fun _ _ _ h => h) (Or.inl ⟨by rfl, fun wz hS => ?_⟩) x1 ?_
        · go_simp
        try simp only [Act.put, List.setIfInBounds_toArray, List.set_cons_zero, List.set_cons_succ]
        refine wpAnyZ_take (i := 4) (oi := { dst := some 79, op := _, type := _, pos := _, after := _, guard := _ }) (v := .slice (some ⟨b, 0, none⟩) N cM) rfl (by decide) (by kernel_rfl) (by kernel_rfl) (by kernel_rfl) (by kernel_rfl) (fun _ _ _ h => h) (Or.inl ⟨by rfl, fun wz hS => ?_⟩) x1 ?_
        · go_simp
        try simp only [Act.put, List.setIfInBounds_toArray, List.set_cons_zero, List.set_cons_succ]
        refine wpAnyZ_take (i := 5) (oi := { dst := some 80, op := _, type := _, pos := _, after := _, guard := _ }) (v := .int .i64 ((k : Nat) : Int)) rfl (by decide) (by kernel_rfl) (by kernel_rfl) (by kernel_rfl) (by kernel_rfl) (fun _ _ _ h => h) (Or.inl ⟨by rfl, fun wz hS => ?_⟩) x1 ?_
        · go_simp
        try simp only [Act.put, List.setIfInBounds_toArray, List.set_cons_zero, List.set_cons_succ]
        refine wpAnyZ_take (i := 6) (oi := { dst := some 81, op := _, type := _, pos := _, after := _, guard := _ }) (v := .slice (some ⟨b, 0, none⟩) k cM) rfl (by decide) (by kernel_rfl) (by kernel_rfl) (by kernel_rfl) (by kernel_rfl) (fun _ _ _ h => h) (Or.inl ⟨by rfl, fun wz hS => ?_⟩) x1 ?_
        · go_simp
          all_goals omega
        try simp only [Act.put, List.setIfInBounds_toArray, List.set_cons_zero, List.set_cons_succ]
        refine wpAnyZ_take (i := 8) (oi := { dst := some 83, op := _, type := _, pos := _, after := _, guard := _ }) (v := .int .i64 i) rfl (by decide) (by kernel_rfl) (by kernel_rfl) (by kernel_rfl) (by kernel_rfl) (fun _ _ _ h => h) (Or.inl ⟨by rfl, fun wz hS => ?_⟩) x1 ?_
        · go_simp
        try simp only [Act.put, List.setIfInBounds_toArray, List.set_cons_zero, List.set_cons_succ]
        refine wpAnyZ_take (i := 9) (oi := { dst := some 84, op := _, type := _, pos := _, after := _, guard := _ }) (v := .slice (some ⟨g1, 0, none⟩) 240 cap1) rfl (by decide) (by kernel_rfl) (by kernel_rfl) (by kernel_rfl) (by kernel_rfl) (fun _ _ _ h => h) (Or.inl ⟨by rfl, fun wz hS => ?_⟩) x1 ?_
        · go_simp
        try simp only [Act.put, List.setIfInBounds_toArray, List.set_cons_zero, List.set_cons_succ]
        refine wpAnyZ_take (i := 10) (oi := { dst := some 85, op := _, type := _, pos := _, after := _, guard := _ }) (v := .agg #[.int .i64 i, .slice (some ⟨g1, 0, none⟩) 240 cap1]) rfl (by decide) (by kernel_rfl) (by kernel_rfl) (by kernel_rfl) (by kernel_rfl) (fun _ _ _ h => h) (Or.inl ⟨by rfl, fun wz hS => ?_⟩) x1 ?_
        · go_simp
        try simp only [Act.put, List.setIfInBounds_toArray, List.set_cons_zero, List.set_cons_succ]
        refine wpAnyZ_take (i := 13) (oi := { dst := some 88, op := _, type := _, pos := _, after := _, guard := _ }) (v := .pointer (some ⟨xr, 0, none⟩)) rfl (by decide) (by kernel_rfl) (by kernel_rfl) (by kernel_rfl) (by kernel_rfl) (fun _ _ _ h => h) (Or.inl ⟨by rfl, fun wz hS => ?_⟩) x1 ?_
        · go_simp
        try simp only [Act.put, List.setIfInBounds_toArray, List.set_cons_zero, List.set_cons_succ]
        refine wpAnyZ_take (i := 14) (oi := { dst := some 89, op := _, type := _, pos := _, after := _, guard := _ }) (v := .pointer (some ⟨xr, 0, none⟩)) rfl (by decide) (by kernel_rfl) (by kernel_rfl) (by kernel_rfl) (by kernel_rfl) (fun _ _ _ h => h) (Or.inl ⟨by rfl, fun wz hS => ?_⟩) x1 ?_
        · go_simp
        try simp only [Act.put, List.setIfInBounds_toArray, List.set_cons_zero, List.set_cons_succ]
        refine wpAnyZ_take (i := 15) (oi := { dst := some 90, op := _, type := _, pos := _, after := _, guard := _ }) (v := .pointer (some ⟨xr, 1, none⟩)) rfl (by decide) (by kernel_rfl) (by kernel_rfl) (by kernel_rfl) (by kernel_rfl) (fun _ _ _ h => h) (Or.inl ⟨by rfl, fun wz hS => ?_⟩) x1 ?_
        · go_simp
        try simp only [Act.put, List.setIfInBounds_toArray, List.set_cons_zero, List.set_cons_succ]
        refine wpAnyZ_take (i := 16) (oi := { dst := some 91, op := _, type := _, pos := _, after := _, guard := _ }) (v := .slice (some ⟨b, 0, none⟩) N cM) rfl (by decide) (by kernel_rfl) (by kernel_rfl) (by kernel_rfl) (by kernel_rfl) (fun _ _ _ h => h) (Or.inl ⟨by rfl, fun wz hS => ?_⟩) x1 ?_
        · go_simp
        try simp only [Act.put, List.setIfInBounds_toArray, List.set_cons_zero, List.set_cons_succ]
        refine wpAnyZ_take (i := 17) (oi := { dst := some 92, op := _, type := _, pos := _, after := _, guard := _ }) (v := .int .i64 ((k : Nat) : Int)) rfl (by decide) (by kernel_rfl) (by kernel_rfl) (by kernel_rfl) (by kernel_rfl) (fun _ _ _ h => h) (Or.inl ⟨by rfl, fun wz hS => ?_⟩) x1 ?_
        · go_simp
        try simp only [Act.put, List.setIfInBounds_toArray, List.set_cons_zero, List.set_cons_succ]
        refine wpAnyZ_take (i := 18) (oi := { dst := some 93, op := _, type := _, pos := _, after := _, guard := _ }) (v := .slice (some ⟨b, k * 2, none⟩) (N - k) (cM - k)) rfl (by decide) (by kernel_rfl) (by kernel_rfl) (by kernel_rfl) (by kernel_rfl) (fun _ _ _ h => h) (Or.inl ⟨by rfl, fun wz hS => ?_⟩) x1 ?_
        · go_simp
          all_goals omega
        try simp only [Act.put, List.setIfInBounds_toArray, List.set_cons_zero, List.set_cons_succ]
        refine wpAnyZ_two (j := 7) (k := 11) (o := { dst := some 82, op := _, type := _, pos := _, after := _, guard := none }) (o' := { dst := some 86, op := _, type := _, pos := _, after := _, guard := none }) rfl rfl (by kernel_rfl) (by decide) (by decide) ?_ ?_
        · intro K1 hK1
          have o0 : w1.drew.ownsRow w1.heap.size 107 2 (.slice none 0 0) 0 [] := ⟨rfl, .inl ⟨rfl, rfl⟩⟩
          with_reducible refine step_append_imgs ?_ (.const (.slice none 0 0)) (.tmp 81) ?_ w1.heap.size (.slice none 0 0) 0 [] ?_ (some ⟨b, 0, none⟩) k cM ?_ o0 (vs.take (k * 2)) (by rw [List.length_take]; omega) (fun j u hj => ⟨_, rfl, HCV.out j u (by rw [List.getElem?_take] at hj; split at hj; exact hj; cases hj)⟩) (fun u hu => HONE.out u (List.mem_of_mem_take hu)) (by omega) (Nat.le_refl _) ?_
          · rfl
          · rfl
          · rfl
          · rfl
          intro A6 c6 w6 hown6 hgr6 hl6
          generalize hk6 : 0 + k = k6 at hown6 hl6 ⊢
          have HK6 := Lib.hid hk6
          clear hk6
          have hb6 : Below w1.heap.size w1 w6 := ((Below.refl w1.heap.size w1).drew).grown hgr6 (Nat.le_refl _) (fun k hk => by cases hk)
          have y6 : w6.cell? ⟨xr, 1, none⟩ = some (.slice (some ⟨b, 0, none⟩) N cM) := (hb6.cell (p := ⟨xr, 1, none⟩) hxl1).trans m1
          refine hK1 _ _ y6 ?_
          clear hK1 K1
          try simp only [Act.put, List.setIfInBounds_toArray, List.set_cons_zero, List.set_cons_succ]
          refine wpAnyZ_one (j := 11) (o := { dst := some 86, op := _, type := _, pos := _, after := _, guard := none }) rfl (by kernel_rfl) (by decide) ?_
          intro K1 hK1
          rw [if_pos (by rfl)]
          go_simp
          have hW : Below w1.heap.size w1 (w6.alloc (.cells #[.int .i64 i, .slice (some ⟨g1, 0, none⟩) 240 cap1] 107)) := hb6.alloc hb6.size _
          have yW : (w6.alloc (.cells #[.int .i64 i, .slice (some ⟨g1, 0, none⟩) 240 cap1] 107)).cell? ⟨xr, 1, none⟩ = some (.slice (some ⟨b, 0, none⟩) N cM) := (hW.cell (p := ⟨xr, 1, none⟩) hxl1).trans m1
          have hlit : (w6.alloc (.cells #[.int .i64 i, .slice (some ⟨g1, 0, none⟩) 240 cap1] 107)).heap[w6.heap.size]? = some (.cells #[.int .i64 i, .slice (some ⟨g1, 0, none⟩) 240 cap1] 107 (0, 0)) := heap_alloc_new _ _
          have hgl := hb6.size
          have hownW := hown6.alloc (.cells #[.int .i64 i, .slice (some ⟨g1, 0, none⟩) 240 cap1] 107)
          refine hK1 _ _ yW ?_
          clear hK1 K1 hown6 hgr6 hl6 hb6 y6
          generalize w6.alloc (.cells #[.int .i64 i, .slice (some ⟨g1, 0, none⟩) 240 cap1] 107) = W at hW yW hlit hownW ⊢
          generalize w6.heap.size = gl at hlit hgl ⊢
          try simp only [Act.put, List.setIfInBounds_toArray, List.set_cons_zero, List.set_cons_succ]
          have hone2 : ∀ u ∈ [Value.int .i64 i, .slice (some ⟨g1, 0, none⟩) 240 cap1], u.oneCell' = true := fun u hu => by simp at hu; rcases hu with rfl | rfl <;> rfl
          refine wpAnyZ_one (j := 12) (o := { dst := some 87, op := _, type := _, pos := _, after := _, guard := none }) rfl (by kernel_rfl) (by decide) ?_
          intro K1 hK1
          with_reducible refine step_append_imgs ?_ (.tmp 82) (.tmp 86) ?_ w1.heap.size (.slice A6 k6 c6) k6 _ ?_ (some ⟨gl, 0, none⟩) 1 1 ?_ hownW [.int .i64 i, .slice (some ⟨g1, 0, none⟩) 240 cap1] rfl (fun j u hj => ⟨_, rfl, World.news_of_block hlit j u hj⟩) hone2 (by have := HK6.out; omega) hW.size ?_
          · rfl
          · rfl
          · rfl
          · rfl
          intro A7 c7 w7 hown7 hgr7 hl7
          generalize hk7 : k6 + 1 = k7 at hown7 hl7 ⊢
          have HK7 := Lib.hid hk7
          clear hk7
          have h7 : Below w1.heap.size w1 w7 := hW.grown hgr7 hW.size (fun k hk => (own_at hownW k hk).1)
          have y7 : w7.cell? ⟨xr, 1, none⟩ = some (.slice (some ⟨b, 0, none⟩) N cM) := (h7.cell (p := ⟨xr, 1, none⟩) hxl1).trans m1
          refine hK1 _ _ y7 ?_
          clear hK1 K1 hgr7 hl7 hlit hownW hW yW
          try simp only [Act.put, List.setIfInBounds_toArray, List.set_cons_zero, List.set_cons_succ]
          have HC7 := Lib.hid (fun j u (hj : vs[j]? = some u) => (h7.cell (p := (⟨b, 0, none⟩ : Addr).add j) (HBL.out j)).trans (HCV0.out j u hj))
          refine wpAnyZ_one (j := 19) (o := { dst := some 94, op := _, type := _, pos := _, after := _, guard := none }) rfl (by kernel_rfl) (by decide) ?_
          intro K1 hK1
          with_reducible refine step_append_imgs ?_ (.tmp 87) (.tmp 93) ?_ w1.heap.size (.slice A7 k7 c7) k7 _ ?_ (some ⟨b, k * 2, none⟩) (N - k) (cM - k) ?_ hown7 (vs.drop (k * 2)) (by rw [List.length_drop]; omega) (fun j u hj => ⟨_, rfl, by have := HC7.out (k * 2 + j) u (by rw [List.getElem?_drop] at hj; exact hj); rw [show ((⟨b, k * 2, none⟩ : Addr).add j) = ((⟨b, 0, none⟩ : Addr).add (k * 2 + j)) from by rw [img_add, img_add, Nat.zero_add]]; exact this⟩) (fun u hu => HONE.out u (List.mem_of_mem_drop hu)) (by have := HK6.out; have := HK7.out; omega) h7.size ?_
          · rfl
          · rfl
          · rfl
          · rfl
          intro A8 c8 w8 hown8 hgr8 hl8
          generalize hk8 : k7 + (N - k) = k8 at hown8 hl8 ⊢
          have HK8 := Lib.hid hk8
          clear hk8
          have h8 : Below w1.heap.size w1 w8 := h7.grown hgr8 h7.size (fun k hk => (own_at hown7 k hk).1)
          have y8 : w8.cell? ⟨xr, 1, none⟩ = some (.slice (some ⟨b, 0, none⟩) N cM) := (h8.cell (p := ⟨xr, 1, none⟩) hxl1).trans m1
          have f8 : w8.frozen? ⟨xr, 1, none⟩ = false := (h8.frozen (p := ⟨xr, 1, none⟩) hxl1).trans hxz
          refine hK1 _ _ y8 ?_
          clear hK1 K1 hgr8 hl8 hown7 h7 y7
          try simp only [Act.put, List.setIfInBounds_toArray, List.set_cons_zero, List.set_cons_succ]
          refine wpAnyZ_one (j := 20) (o := { dst := some 95, op := _, type := _, pos := _, after := _, guard := _ }) rfl (by kernel_rfl) (by decide) ?_
          intro K1 hK1
          rw [if_pos (by rfl)]
          go_simp
          refine hK1 _ _ y8 ?_
          clear hK1 K1
          try simp only [Act.put, List.setIfInBounds_toArray, List.set_cons_zero, List.set_cons_succ]
          refine wpAnyZ_one (j := 21) (o := { dst := some 96, op := _, type := _, pos := _, after := _, guard := _ }) rfl (by kernel_rfl) (by decide) ?_
          intro K1 hK1
          rw [if_pos (by rfl)]
          go_simp
          refine hK1 _ _ y8 ?_
          clear hK1 K1
          try simp only [Act.put, List.setIfInBounds_toArray, List.set_cons_zero, List.set_cons_succ]
          refine wpAnyZ_last (o := { dst := none, op := _, type := _, pos := _, after := _, guard := _ }) rfl (by kernel_rfl) ?_
          intro K1 hK1
          rw [if_pos (by rfl)]
          go_simp
          refine hK1 _ _ ?_
          clear hK1 K1
          refine wpAny_done (by kernel_rfl) ?_ _
          have HEND := Lib.hid (HH.out.insert (k := k) hZ hbase (by rw [HN.out]; omega) HSET.out HB1.out h8 ⟨g1, cap1, rfl, HG1.out.2.2.2, HG1.out.1, HG1.out.2.1, HG1.out.2.2.1⟩ (by rw [HN.out]; exact HROW0.out.1) HROW0.out.2 (v' := .slice A8 k8 c8) (by rw [show M.length + 1 = k8 by rw [HN.out]; have := HK6.out; have := HK7.out; have := HK8.out; omega]; simpa using hown8))
          clear hown8 h8 y8 f8
          go_wp2
          go_ret
          exact ⟨rfl, HEND.out⟩
        · intro K1 hK1
          rw [if_pos (by rfl)]
          go_simp
          have hW0 : Below w1.heap.size w1 (w1.alloc (.cells #[.int .i64 i, .slice (some ⟨g1, 0, none⟩) 240 cap1] 107)).drew := ((Below.refl w1.heap.size w1).alloc (Nat.le_refl _) _).drew
          have yW0 : (w1.alloc (.cells #[.int .i64 i, .slice (some ⟨g1, 0, none⟩) 240 cap1] 107)).drew.cell? ⟨xr, 1, none⟩ = some (.slice (some ⟨b, 0, none⟩) N cM) := (hW0.cell (p := ⟨xr, 1, none⟩) hxl1).trans m1
          have hlit0 : (w1.alloc (.cells #[.int .i64 i, .slice (some ⟨g1, 0, none⟩) 240 cap1] 107)).drew.heap[w1.heap.size]? = some (.cells #[.int .i64 i, .slice (some ⟨g1, 0, none⟩) 240 cap1] 107 (0, 0)) := heap_alloc_new w1 _
          have hsW0 : (w1.alloc (.cells #[.int .i64 i, .slice (some ⟨g1, 0, none⟩) 240 cap1] 107)).drew.heap.size = w1.heap.size + 1 := by show (w1.alloc _).heap.size = _; simp
          have HCW := Lib.hid (fun j u (hj : vs[j]? = some u) => (hW0.cell (p := (⟨b, 0, none⟩ : Addr).add j) (HBL.out j)).trans (HCV0.out j u hj))
          refine hK1 _ _ yW0 ?_
          clear hK1 K1
          try simp only [Act.put, List.setIfInBounds_toArray, List.set_cons_zero, List.set_cons_succ]
          refine wpAnyZ_one (j := 7) (o := { dst := some 82, op := _, type := _, pos := _, after := _, guard := none }) rfl (by kernel_rfl) (by decide) ?_
          intro K1 hK1
          have o0 : (w1.alloc (.cells #[.int .i64 i, .slice (some ⟨g1, 0, none⟩) 240 cap1] 107)).drew.ownsRow w1.heap.size 107 2 (.slice none 0 0) 0 [] := ⟨rfl, .inl ⟨rfl, rfl⟩⟩
          with_reducible refine step_append_imgs ?_ (.const (.slice none 0 0)) (.tmp 81) ?_ w1.heap.size (.slice none 0 0) 0 [] ?_ (some ⟨b, 0, none⟩) k cM ?_ o0 (vs.take (k * 2)) (by rw [List.length_take]; omega) (fun j u hj => ⟨_, rfl, HCW.out j u (by rw [List.getElem?_take] at hj; split at hj; exact hj; cases hj)⟩) (fun u hu => HONE.out u (List.mem_of_mem_take hu)) (by omega) (by simp) ?_
          · rfl
          · rfl
          · rfl
          · rfl
          intro A6 c6 w6 hown6 hgr6 hl6
          generalize hk6 : 0 + k = k6 at hown6 hl6 ⊢
          have HK6 := Lib.hid hk6
          clear hk6
          have hW : Below w1.heap.size w1 w6 := hW0.grown hgr6 (by rw [hsW0]; omega) (fun k hk => by cases hk)
          have yW : w6.cell? ⟨xr, 1, none⟩ = some (.slice (some ⟨b, 0, none⟩) N cM) := (hW.cell (p := ⟨xr, 1, none⟩) hxl1).trans m1
          have hlit : w6.heap[w1.heap.size]? = some (.cells #[.int .i64 i, .slice (some ⟨g1, 0, none⟩) 240 cap1] 107 (0, 0)) := (hgr6.block _ (by rw [hsW0]; omega) (fun e => by cases e)).trans hlit0
          have hgl : w1.heap.size ≤ w1.heap.size := Nat.le_refl _
          have hownW := hown6
          refine hK1 _ _ yW ?_
          rw [Array.setIfInBounds_comm _ _ (show (11 : Nat) ≠ 7 by decide)]
          clear hK1 K1 hown6 hgr6 hl6 hW0 yW0 hlit0 hsW0
          generalize w6 = W at hW yW hlit hownW ⊢
          generalize hgg : w1.heap.size = gl at hlit hgl
          try simp only [Act.put, List.setIfInBounds_toArray, List.set_cons_zero, List.set_cons_succ]
          have hone2 : ∀ u ∈ [Value.int .i64 i, .slice (some ⟨g1, 0, none⟩) 240 cap1], u.oneCell' = true := fun u hu => by simp at hu; rcases hu with rfl | rfl <;> rfl
          refine wpAnyZ_one (j := 12) (o := { dst := some 87, op := _, type := _, pos := _, after := _, guard := none }) rfl (by kernel_rfl) (by decide) ?_
          intro K1 hK1
          with_reducible refine step_append_imgs ?_ (.tmp 82) (.tmp 86) ?_ w1.heap.size (.slice A6 k6 c6) k6 _ ?_ (some ⟨gl, 0, none⟩) 1 1 ?_ hownW [.int .i64 i, .slice (some ⟨g1, 0, none⟩) 240 cap1] rfl (fun j u hj => ⟨_, rfl, World.news_of_block hlit j u hj⟩) hone2 (by have := HK6.out; omega) hW.size ?_
          · rfl
          · rfl
          · rfl
          · rfl
          intro A7 c7 w7 hown7 hgr7 hl7
          generalize hk7 : k6 + 1 = k7 at hown7 hl7 ⊢
          have HK7 := Lib.hid hk7
          clear hk7
          have h7 : Below w1.heap.size w1 w7 := hW.grown hgr7 hW.size (fun k hk => (own_at hownW k hk).1)
          have y7 : w7.cell? ⟨xr, 1, none⟩ = some (.slice (some ⟨b, 0, none⟩) N cM) := (h7.cell (p := ⟨xr, 1, none⟩) hxl1).trans m1
          refine hK1 _ _ y7 ?_
          clear hK1 K1 hgr7 hl7 hlit hownW hW yW
          try simp only [Act.put, List.setIfInBounds_toArray, List.set_cons_zero, List.set_cons_succ]
          have HC7 := Lib.hid (fun j u (hj : vs[j]? = some u) => (h7.cell (p := (⟨b, 0, none⟩ : Addr).add j) (HBL.out j)).trans (HCV0.out j u hj))
          refine wpAnyZ_one (j := 19) (o := { dst := some 94, op := _, type := _, pos := _, after := _, guard := none }) rfl (by kernel_rfl) (by decide) ?_
          intro K1 hK1
          with_reducible refine step_append_imgs ?_ (.tmp 87) (.tmp 93) ?_ w1.heap.size (.slice A7 k7 c7) k7 _ ?_ (some ⟨b, k * 2, none⟩) (N - k) (cM - k) ?_ hown7 (vs.drop (k * 2)) (by rw [List.length_drop]; omega) (fun j u hj => ⟨_, rfl, by have := HC7.out (k * 2 + j) u (by rw [List.getElem?_drop] at hj; exact hj); rw [show ((⟨b, k * 2, none⟩ : Addr).add j) = ((⟨b, 0, none⟩ : Addr).add (k * 2 + j)) from by rw [img_add, img_add, Nat.zero_add]]; exact this⟩) (fun u hu => HONE.out u (List.mem_of_mem_drop hu)) (by have := HK6.out; have := HK7.out; omega) h7.size ?_
          · rfl
          · rfl
          · rfl
          · rfl
          intro A8 c8 w8 hown8 hgr8 hl8
          generalize hk8 : k7 + (N - k) = k8 at hown8 hl8 ⊢
          have HK8 := Lib.hid hk8
          clear hk8
          have h8 : Below w1.heap.size w1 w8 := h7.grown hgr8 h7.size (fun k hk => (own_at hown7 k hk).1)
          have y8 : w8.cell? ⟨xr, 1, none⟩ = some (.slice (some ⟨b, 0, none⟩) N cM) := (h8.cell (p := ⟨xr, 1, none⟩) hxl1).trans m1
          have f8 : w8.frozen? ⟨xr, 1, none⟩ = false := (h8.frozen (p := ⟨xr, 1, none⟩) hxl1).trans hxz
          refine hK1 _ _ y8 ?_
          clear hK1 K1 hgr8 hl8 hown7 h7 y7
          try simp only [Act.put, List.setIfInBounds_toArray, List.set_cons_zero, List.set_cons_succ]
          refine wpAnyZ_one (j := 20) (o := { dst := some 95, op := _, type := _, pos := _, after := _, guard := _ }) rfl (by kernel_rfl) (by decide) ?_
          intro K1 hK1
          rw [if_pos (by rfl)]
          go_simp
          refine hK1 _ _ y8 ?_
          clear hK1 K1
          try simp only [Act.put, List.setIfInBounds_toArray, List.set_cons_zero, List.set_cons_succ]
          refine wpAnyZ_one (j := 21) (o := { dst := some 96, op := _, type := _, pos := _, after := _, guard := _ }) rfl (by kernel_rfl) (by decide) ?_
          intro K1 hK1
          rw [if_pos (by rfl)]
          go_simp
          refine hK1 _ _ y8 ?_
          clear hK1 K1
          try simp only [Act.put, List.setIfInBounds_toArray, List.set_cons_zero, List.set_cons_succ]
          refine wpAnyZ_last (o := { dst := none, op := _, type := _, pos := _, after := _, guard := _ }) rfl (by kernel_rfl) ?_
          intro K1 hK1
          rw [if_pos (by rfl)]
          go_simp
          refine hK1 _ _ ?_
          clear hK1 K1
          refine wpAny_done (by kernel_rfl) ?_ _
          have HEND := Lib.hid (HH.out.insert (k := k) hZ hbase (by rw [HN.out]; omega) HSET.out HB1.out h8 ⟨g1, cap1, rfl, HG1.out.2.2.2, HG1.out.1, HG1.out.2.1, HG1.out.2.2.1⟩ (by rw [HN.out]; exact HROW0.out.1) HROW0.out.2 (v' := .slice A8 k8 c8) (by rw [show M.length + 1 = k8 by rw [HN.out]; have := HK6.out; have := HK7.out; have := HK8.out; omega]; simpa using hown8))
          clear hown8 h8 y8 f8
          go_wp2
          go_ret
          exact ⟨rfl, HEND.out⟩
    · obtain rfl : k = N := by omega
      have hxz : w1.frozen? ⟨xr, 1, none⟩ = false := HH1.out.cells.2.2.1
      have hvl : vs.length = k * 2 := HROW.out.1
      have HSET := Lib.hid (setL_in (l := l) hbef.out (fun y hy => by have := (List.getElem?_eq_some_iff.1 hy).1; rw [HN.out] at this; omega) (by rw [HN.out]; omega))
      by_cases h0 : k = 0
      · skip
        subst h0
        have hM0 : M = [] := List.eq_nil_of_length_eq_zero HN.out
        obtain ⟨rfl, rfl⟩ : AM = none ∧ cM = 0 := by have e := HNIL.out hM0; simp only [Value.slice.injEq] at e; exact ⟨e.1, e.2.2⟩
        have x1 : w1.drew.cell? ⟨xr, 1, none⟩ = some (.slice none 0 0) := m1
        clear hM0
        obtain rfl : vs = [] := List.eq_nil_of_length_eq_zero (by omega)
        go_wp2_with fail
        refine wp_region_any (by rfl) ?_
        change wpAny _ _ _ _ _ _ _ w1.drew
        refine wpAny_of_Z (S := fun wz => wz.cell? ⟨xr, 1, none⟩ = some (.slice none 0 0)) (z := 22) _ _ _ _ ?_
        refine wpAnyZ_take (i := 0) (oi := { dst := some 75, op := _, type := _, pos := _, after := _, guard := _ }) (v := .pointer (some ⟨xr, 0, none⟩)) rfl (by decide) (by kernel_rfl) (by kernel_rfl) (by kernel_rfl) (by kernel_rfl) (fun _ _ _ h => h) (Or.inl ⟨by rfl, fun wz hS => ?_⟩) x1 ?_
        · go_simp
        try simp only [Act.put, List.setIfInBounds_toArray, List.set_cons_zero, List.set_cons_succ]
        refine wpAnyZ_take (i := 1) (oi := { dst := some 76, op := _, type := _, pos := _, after := _, guard := _ }) (v := .pointer (some ⟨xr, 0, none⟩)) rfl (by decide) (by kernel_rfl) (by kernel_rfl) (by kernel_rfl) (by kernel_rfl) (fun _ _ _ h => h) (Or.inl ⟨by rfl, fun wz hS => ?_⟩) x1 ?_
        · go_simp
        try simp only [Act.put, List.setIfInBounds_toArray, List.set_cons_zero, List.set_cons_succ]
        refine wpAnyZ_take (i := 2) (oi := { dst := some 77, op := _, type := _, pos := _, after := _, guard := _ }) (v := .pointer (some ⟨xr, 0, none⟩)) rfl (by decide) (by kernel_rfl) (by kernel_rfl) (by kernel_rfl) (by kernel_rfl) (fun _ _ _ h => h) (Or.inl ⟨by rfl, fun wz hS => ?_⟩) x1 ?_
        · go_simp
        try simp only [Act.put, List.setIfInBounds_toArray, List.set_cons_zero, List.set_cons_succ]
        refine wpAnyZ_take (i := 3) (oi := { dst := some 78, op := _, type := _, pos := _, after := _, guard := _ }) (v := .pointer (some ⟨xr, 1, none⟩)) rfl (by decide) (by kernel_rfl) (by kernel_rfl) (by kernel_rfl) (by kernel_rfl) (fun _ _ _ h => h) (Or.inl ⟨by rfl, fun wz hS => ?_⟩) x1 ?_
        · go_simp
        try simp only [Act.put, List.setIfInBounds_toArray, List.set_cons_zero, List.set_cons_succ]
        refine wpAnyZ_take (i := 4) (oi := { dst := some 79, op := _, type := _, pos := _, after := _, guard := _ }) (v := .slice none 0 0) rfl (by decide) (by kernel_rfl) (by kernel_rfl) (by kernel_rfl) (by kernel_rfl) (fun _ _ _ h => h) (Or.inl ⟨by rfl, fun wz hS => ?_⟩) x1 ?_
        · go_simp
        try simp only [Act.put, List.setIfInBounds_toArray, List.set_cons_zero, List.set_cons_succ]
        refine wpAnyZ_take (i := 5) (oi := { dst := some 80, op := _, type := _, pos := _, after := _, guard := _ }) (v := .int .i64 (0 : Int)) rfl (by decide) (by kernel_rfl) (by kernel_rfl) (by kernel_rfl) (by kernel_rfl) (fun _ _ _ h => h) (Or.inl ⟨by rfl, fun wz hS => ?_⟩) x1 ?_
        · go_simp
        try simp only [Act.put, List.setIfInBounds_toArray, List.set_cons_zero, List.set_cons_succ]
        refine wpAnyZ_take (i := 6) (oi := { dst := some 81, op := _, type := _, pos := _, after := _, guard := _ }) (v := .slice none 0 0) rfl (by decide) (by kernel_rfl) (by kernel_rfl) (by kernel_rfl) (by kernel_rfl) (fun _ _ _ h => h) (Or.inl ⟨by rfl, fun wz hS => ?_⟩) x1 ?_
        · go_simp
          all_goals omega
        try simp only [Act.put, List.setIfInBounds_toArray, List.set_cons_zero, List.set_cons_succ]
        refine wpAnyZ_take (i := 8) (oi := { dst := some 83, op := _, type := _, pos := _, after := _, guard := _ }) (v := .int .i64 i) rfl (by decide) (by kernel_rfl) (by kernel_rfl) (by kernel_rfl) (by kernel_rfl) (fun _ _ _ h => h) (Or.inl ⟨by rfl, fun wz hS => ?_⟩) x1 ?_
        · go_simp
        try simp only [Act.put, List.setIfInBounds_toArray, List.set_cons_zero, List.set_cons_succ]
        refine wpAnyZ_take (i := 9) (oi := { dst := some 84, op := _, type := _, pos := _, after := _, guard := _ }) (v := .slice (some ⟨g1, 0, none⟩) 240 cap1) rfl (by decide) (by kernel_rfl) (by kernel_rfl) (by kernel_rfl) (by kernel_rfl) (fun _ _ _ h => h) (Or.inl ⟨by rfl, fun wz hS => ?_⟩) x1 ?_
        · go_simp
        try simp only [Act.put, List.setIfInBounds_toArray, List.set_cons_zero, List.set_cons_succ]
        refine wpAnyZ_take (i := 10) (oi := { dst := some 85, op := _, type := _, pos := _, after := _, guard := _ }) (v := .agg #[.int .i64 i, .slice (some ⟨g1, 0, none⟩) 240 cap1]) rfl (by decide) (by kernel_rfl) (by kernel_rfl) (by kernel_rfl) (by kernel_rfl) (fun _ _ _ h => h) (Or.inl ⟨by rfl, fun wz hS => ?_⟩) x1 ?_
        · go_simp
        try simp only [Act.put, List.setIfInBounds_toArray, List.set_cons_zero, List.set_cons_succ]
        refine wpAnyZ_take (i := 13) (oi := { dst := some 88, op := _, type := _, pos := _, after := _, guard := _ }) (v := .pointer (some ⟨xr, 0, none⟩)) rfl (by decide) (by kernel_rfl) (by kernel_rfl) (by kernel_rfl) (by kernel_rfl) (fun _ _ _ h => h) (Or.inl ⟨by rfl, fun wz hS => ?_⟩) x1 ?_
        · go_simp
        try simp only [Act.put, List.setIfInBounds_toArray, List.set_cons_zero, List.set_cons_succ]
        refine wpAnyZ_take (i := 14) (oi := { dst := some 89, op := _, type := _, pos := _, after := _, guard := _ }) (v := .pointer (some ⟨xr, 0, none⟩)) rfl (by decide) (by kernel_rfl) (by kernel_rfl) (by kernel_rfl) (by kernel_rfl) (fun _ _ _ h => h) (Or.inl ⟨by rfl, fun wz hS => ?_⟩) x1 ?_
        · go_simp
        try simp only [Act.put, List.setIfInBounds_toArray, List.set_cons_zero, List.set_cons_succ]
        refine wpAnyZ_take (i := 15) (oi := { dst := some 90, op := _, type := _, pos := _, after := _, guard := _ }) (v := .pointer (some ⟨xr, 1, none⟩)) rfl (by decide) (by kernel_rfl) (by kernel_rfl) (by kernel_rfl) (by kernel_rfl) (fun _ _ _ h => h) (Or.inl ⟨by rfl, fun wz hS => ?_⟩) x1 ?_
        · go_simp
        try simp only [Act.put, List.setIfInBounds_toArray, List.set_cons_zero, List.set_cons_succ]
        refine wpAnyZ_take (i := 16) (oi := { dst := some 91, op := _, type := _, pos := _, after := _, guard := _ }) (v := .slice none 0 0) rfl (by decide) (by kernel_rfl) (by kernel_rfl) (by kernel_rfl) (by kernel_rfl) (fun _ _ _ h => h) (Or.inl ⟨by rfl, fun wz hS => ?_⟩) x1 ?_
        · go_simp
        try simp only [Act.put, List.setIfInBounds_toArray, List.set_cons_zero, List.set_cons_succ]
        refine wpAnyZ_take (i := 17) (oi := { dst := some 92, op := _, type := _, pos := _, after := _, guard := _ }) (v := .int .i64 (0 : Int)) rfl (by decide) (by kernel_rfl) (by kernel_rfl) (by kernel_rfl) (by kernel_rfl) (fun _ _ _ h => h) (Or.inl ⟨by rfl, fun wz hS => ?_⟩) x1 ?_
        · go_simp
        try simp only [Act.put, List.setIfInBounds_toArray, List.set_cons_zero, List.set_cons_succ]
        refine wpAnyZ_take (i := 18) (oi := { dst := some 93, op := _, type := _, pos := _, after := _, guard := _ }) (v := .slice none 0 0) rfl (by decide) (by kernel_rfl) (by kernel_rfl) (by kernel_rfl) (by kernel_rfl) (fun _ _ _ h => h) (Or.inl ⟨by rfl, fun wz hS => ?_⟩) x1 ?_
        · go_simp
          all_goals omega
        try simp only [Act.put, List.setIfInBounds_toArray, List.set_cons_zero, List.set_cons_succ]
        refine wpAnyZ_two (j := 7) (k := 11) (o := { dst := some 82, op := _, type := _, pos := _, after := _, guard := none }) (o' := { dst := some 86, op := _, type := _, pos := _, after := _, guard := none }) rfl rfl (by kernel_rfl) (by decide) (by decide) ?_ ?_
        · intro K1 hK1
          have o0 : w1.drew.ownsRow w1.heap.size 107 2 (.slice none 0 0) 0 [] := ⟨rfl, .inl ⟨rfl, rfl⟩⟩
          with_reducible refine step_append_imgs ?_ (.const (.slice none 0 0)) (.tmp 81) ?_ w1.heap.size (.slice none 0 0) 0 [] ?_ none 0 0 ?_ o0 [] rfl (fun j u hj => by simp at hj) (fun u hu => absurd hu List.not_mem_nil) (by omega) (Nat.le_refl _) ?_
          · rfl
          · rfl
          · rfl
          · rfl
          intro A6 c6 w6 hown6 hgr6 hl6
          generalize hk6 : 0 + 0 = k6 at hown6 hl6 ⊢
          have HK6 := Lib.hid hk6
          clear hk6
          have hb6 : Below w1.heap.size w1 w6 := ((Below.refl w1.heap.size w1).drew).grown hgr6 (Nat.le_refl _) (fun k hk => by cases hk)
          have y6 : w6.cell? ⟨xr, 1, none⟩ = some (.slice none 0 0) := (hb6.cell (p := ⟨xr, 1, none⟩) hxl1).trans m1
          refine hK1 _ _ y6 ?_
          clear hK1 K1
          try simp only [Act.put, List.setIfInBounds_toArray, List.set_cons_zero, List.set_cons_succ]
          refine wpAnyZ_one (j := 11) (o := { dst := some 86, op := _, type := _, pos := _, after := _, guard := none }) rfl (by kernel_rfl) (by decide) ?_
          intro K1 hK1
          rw [if_pos (by rfl)]
          go_simp
          have hW : Below w1.heap.size w1 (w6.alloc (.cells #[.int .i64 i, .slice (some ⟨g1, 0, none⟩) 240 cap1] 107)) := hb6.alloc hb6.size _
          have yW : (w6.alloc (.cells #[.int .i64 i, .slice (some ⟨g1, 0, none⟩) 240 cap1] 107)).cell? ⟨xr, 1, none⟩ = some (.slice none 0 0) := (hW.cell (p := ⟨xr, 1, none⟩) hxl1).trans m1
          have hlit : (w6.alloc (.cells #[.int .i64 i, .slice (some ⟨g1, 0, none⟩) 240 cap1] 107)).heap[w6.heap.size]? = some (.cells #[.int .i64 i, .slice (some ⟨g1, 0, none⟩) 240 cap1] 107 (0, 0)) := heap_alloc_new _ _
          have hgl := hb6.size
          have hownW := hown6.alloc (.cells #[.int .i64 i, .slice (some ⟨g1, 0, none⟩) 240 cap1] 107)
          refine hK1 _ _ yW ?_
          clear hK1 K1 hown6 hgr6 hl6 hb6 y6
          generalize w6.alloc (.cells #[.int .i64 i, .slice (some ⟨g1, 0, none⟩) 240 cap1] 107) = W at hW yW hlit hownW ⊢
          generalize w6.heap.size = gl at hlit hgl ⊢
          try simp only [Act.put, List.setIfInBounds_toArray, List.set_cons_zero, List.set_cons_succ]
          have hone2 : ∀ u ∈ [Value.int .i64 i, .slice (some ⟨g1, 0, none⟩) 240 cap1], u.oneCell' = true := fun u hu => by simp at hu; rcases hu with rfl | rfl <;> rfl
          refine wpAnyZ_one (j := 12) (o := { dst := some 87, op := _, type := _, pos := _, after := _, guard := none }) rfl (by kernel_rfl) (by decide) ?_
          intro K1 hK1
          with_reducible refine step_append_imgs ?_ (.tmp 82) (.tmp 86) ?_ w1.heap.size (.slice A6 k6 c6) k6 _ ?_ (some ⟨gl, 0, none⟩) 1 1 ?_ hownW [.int .i64 i, .slice (some ⟨g1, 0, none⟩) 240 cap1] rfl (fun j u hj => ⟨_, rfl, World.news_of_block hlit j u hj⟩) hone2 (by have := HK6.out; omega) hW.size ?_
          · rfl
          · rfl
          · rfl
          · rfl
          intro A7 c7 w7 hown7 hgr7 hl7
          generalize hk7 : k6 + 1 = k7 at hown7 hl7 ⊢
          have HK7 := Lib.hid hk7
          clear hk7
          have h7 : Below w1.heap.size w1 w7 := hW.grown hgr7 hW.size (fun k hk => (own_at hownW k hk).1)
          have y7 : w7.cell? ⟨xr, 1, none⟩ = some (.slice none 0 0) := (h7.cell (p := ⟨xr, 1, none⟩) hxl1).trans m1
          refine hK1 _ _ y7 ?_
          clear hK1 K1 hgr7 hl7 hlit hownW hW yW
          try simp only [Act.put, List.setIfInBounds_toArray, List.set_cons_zero, List.set_cons_succ]
          refine wpAnyZ_one (j := 19) (o := { dst := some 94, op := _, type := _, pos := _, after := _, guard := none }) rfl (by kernel_rfl) (by decide) ?_
          intro K1 hK1
          with_reducible refine step_append_imgs ?_ (.tmp 87) (.tmp 93) ?_ w1.heap.size (.slice A7 k7 c7) k7 _ ?_ none 0 0 ?_ hown7 [] rfl (fun j u hj => by rw [List.getElem?_eq_none (by simp)] at hj; simp at hj) (fun u hu => absurd hu List.not_mem_nil) (by have := HK6.out; have := HK7.out; omega) h7.size ?_
          · rfl
          · rfl
          · rfl
          · rfl
          intro A8 c8 w8 hown8 hgr8 hl8
          generalize hk8 : k7 + 0 = k8 at hown8 hl8 ⊢
          have HK8 := Lib.hid hk8
          clear hk8
          have h8 : Below w1.heap.size w1 w8 := h7.grown hgr8 h7.size (fun k hk => (own_at hown7 k hk).1)
          have y8 : w8.cell? ⟨xr, 1, none⟩ = some (.slice none 0 0) := (h8.cell (p := ⟨xr, 1, none⟩) hxl1).trans m1
          have f8 : w8.frozen? ⟨xr, 1, none⟩ = false := (h8.frozen (p := ⟨xr, 1, none⟩) hxl1).trans hxz
          refine hK1 _ _ y8 ?_
          clear hK1 K1 hgr8 hl8 hown7 h7 y7
          try simp only [Act.put, List.setIfInBounds_toArray, List.set_cons_zero, List.set_cons_succ]
          refine wpAnyZ_one (j := 20) (o := { dst := some 95, op := _, type := _, pos := _, after := _, guard := _ }) rfl (by kernel_rfl) (by decide) ?_
          intro K1 hK1
          rw [if_pos (by rfl)]
          go_simp
          refine hK1 _ _ y8 ?_
          clear hK1 K1
          try simp only [Act.put, List.setIfInBounds_toArray, List.set_cons_zero, List.set_cons_succ]
          refine wpAnyZ_one (j := 21) (o := { dst := some 96, op := _, type := _, pos := _, after := _, guard := _ }) rfl (by kernel_rfl) (by decide) ?_
          intro K1 hK1
          rw [if_pos (by rfl)]
          go_simp
          refine hK1 _ _ y8 ?_
          clear hK1 K1
          try simp only [Act.put, List.setIfInBounds_toArray, List.set_cons_zero, List.set_cons_succ]
          refine wpAnyZ_last (o := { dst := none, op := _, type := _, pos := _, after := _, guard := _ }) rfl (by kernel_rfl) ?_
          intro K1 hK1
          rw [if_pos (by rfl)]
          go_simp
          refine hK1 _ _ ?_
          clear hK1 K1
          refine wpAny_done (by kernel_rfl) ?_ _
          have HEND := Lib.hid (HH.out.insert (k := 0) hZ hbase (by rw [HN.out]; omega) HSET.out HB1.out h8 ⟨g1, cap1, rfl, HG1.out.2.2.2, HG1.out.1, HG1.out.2.1, HG1.out.2.2.1⟩ (by rw [HN.out]; exact HROW0.out.1) HROW0.out.2 (v' := .slice A8 k8 c8) (by rw [show M.length + 1 = k8 by rw [HN.out]; have := HK6.out; have := HK7.out; have := HK8.out; omega]; simpa using hown8))
          clear hown8 h8 y8 f8
          go_wp2
          go_ret
          exact ⟨rfl, HEND.out⟩
        · intro K1 hK1
          rw [if_pos (by rfl)]
          go_simp
          have hW0 : Below w1.heap.size w1 (w1.alloc (.cells #[.int .i64 i, .slice (some ⟨g1, 0, none⟩) 240 cap1] 107)).drew := ((Below.refl w1.heap.size w1).alloc (Nat.le_refl _) _).drew
          have yW0 : (w1.alloc (.cells #[.int .i64 i, .slice (some ⟨g1, 0, none⟩) 240 cap1] 107)).drew.cell? ⟨xr, 1, none⟩ = some (.slice none 0 0) := (hW0.cell (p := ⟨xr, 1, none⟩) hxl1).trans m1
          have hlit0 : (w1.alloc (.cells #[.int .i64 i, .slice (some ⟨g1, 0, none⟩) 240 cap1] 107)).drew.heap[w1.heap.size]? = some (.cells #[.int .i64 i, .slice (some ⟨g1, 0, none⟩) 240 cap1] 107 (0, 0)) := heap_alloc_new w1 _
          have hsW0 : (w1.alloc (.cells #[.int .i64 i, .slice (some ⟨g1, 0, none⟩) 240 cap1] 107)).drew.heap.size = w1.heap.size + 1 := by show (w1.alloc _).heap.size = _; simp
          refine hK1 _ _ yW0 ?_
          clear hK1 K1
          try simp only [Act.put, List.setIfInBounds_toArray, List.set_cons_zero, List.set_cons_succ]
          refine wpAnyZ_one (j := 7) (o := { dst := some 82, op := _, type := _, pos := _, after := _, guard := none }) rfl (by kernel_rfl) (by decide) ?_
          intro K1 hK1
          have o0 : (w1.alloc (.cells #[.int .i64 i, .slice (some ⟨g1, 0, none⟩) 240 cap1] 107)).drew.ownsRow w1.heap.size 107 2 (.slice none 0 0) 0 [] := ⟨rfl, .inl ⟨rfl, rfl⟩⟩
          with_reducible refine step_append_imgs ?_ (.const (.slice none 0 0)) (.tmp 81) ?_ w1.heap.size (.slice none 0 0) 0 [] ?_ none 0 0 ?_ o0 [] rfl (fun j u hj => by simp at hj) (fun u hu => absurd hu List.not_mem_nil) (by omega) (by simp) ?_
          · rfl
          · rfl
          · rfl
          · rfl
          intro A6 c6 w6 hown6 hgr6 hl6
          generalize hk6 : 0 + 0 = k6 at hown6 hl6 ⊢
          have HK6 := Lib.hid hk6
          clear hk6
          have hW : Below w1.heap.size w1 w6 := hW0.grown hgr6 (by rw [hsW0]; omega) (fun k hk => by cases hk)
          have yW : w6.cell? ⟨xr, 1, none⟩ = some (.slice none 0 0) := (hW.cell (p := ⟨xr, 1, none⟩) hxl1).trans m1
          have hlit : w6.heap[w1.heap.size]? = some (.cells #[.int .i64 i, .slice (some ⟨g1, 0, none⟩) 240 cap1] 107 (0, 0)) := (hgr6.block _ (by rw [hsW0]; omega) (fun e => by cases e)).trans hlit0
          have hgl : w1.heap.size ≤ w1.heap.size := Nat.le_refl _
          have hownW := hown6
          refine hK1 _ _ yW ?_
          rw [Array.setIfInBounds_comm _ _ (show (11 : Nat) ≠ 7 by decide)]
          clear hK1 K1 hown6 hgr6 hl6 hW0 yW0 hlit0 hsW0
          generalize w6 = W at hW yW hlit hownW ⊢
          generalize hgg : w1.heap.size = gl at hlit hgl
          try simp only [Act.put, List.setIfInBounds_toArray, List.set_cons_zero, List.set_cons_succ]
          have hone2 : ∀ u ∈ [Value.int .i64 i, .slice (some ⟨g1, 0, none⟩) 240 cap1], u.oneCell' = true := fun u hu => by simp at hu; rcases hu with rfl | rfl <;> rfl
          refine wpAnyZ_one (j := 12) (o := { dst := some 87, op := _, type := _, pos := _, after := _, guard := none }) rfl (by kernel_rfl) (by decide) ?_
          intro K1 hK1
          with_reducible refine step_append_imgs ?_ (.tmp 82) (.tmp 86) ?_ w1.heap.size (.slice A6 k6 c6) k6 _ ?_ (some ⟨gl, 0, none⟩) 1 1 ?_ hownW [.int .i64 i, .slice (some ⟨g1, 0, none⟩) 240 cap1] rfl (fun j u hj => ⟨_, rfl, World.news_of_block hlit j u hj⟩) hone2 (by have := HK6.out; omega) hW.size ?_
          · rfl
          · rfl
          · rfl
          · rfl
          intro A7 c7 w7 hown7 hgr7 hl7
          generalize hk7 : k6 + 1 = k7 at hown7 hl7 ⊢
          have HK7 := Lib.hid hk7
          clear hk7
          have h7 : Below w1.heap.size w1 w7 := hW.grown hgr7 hW.size (fun k hk => (own_at hownW k hk).1)
          have y7 : w7.cell? ⟨xr, 1, none⟩ = some (.slice none 0 0) := (h7.cell (p := ⟨xr, 1, none⟩) hxl1).trans m1
          refine hK1 _ _ y7 ?_
          clear hK1 K1 hgr7 hl7 hlit hownW hW yW
          try simp only [Act.put, List.setIfInBounds_toArray, List.set_cons_zero, List.set_cons_succ]
          refine wpAnyZ_one (j := 19) (o := { dst := some 94, op := _, type := _, pos := _, after := _, guard := none }) rfl (by kernel_rfl) (by decide) ?_
          intro K1 hK1
          with_reducible refine step_append_imgs ?_ (.tmp 87) (.tmp 93) ?_ w1.heap.size (.slice A7 k7 c7) k7 _ ?_ none 0 0 ?_ hown7 [] rfl (fun j u hj => by rw [List.getElem?_eq_none (by simp)] at hj; simp at hj) (fun u hu => absurd hu List.not_mem_nil) (by have := HK6.out; have := HK7.out; omega) h7.size ?_
          · rfl
          · rfl
          · rfl
          · rfl
          intro A8 c8 w8 hown8 hgr8 hl8
          generalize hk8 : k7 + 0 = k8 at hown8 hl8 ⊢
          have HK8 := Lib.hid hk8
          clear hk8
          have h8 : Below w1.heap.size w1 w8 := h7.grown hgr8 h7.size (fun k hk => (own_at hown7 k hk).1)
          have y8 : w8.cell? ⟨xr, 1, none⟩ = some (.slice none 0 0) := (h8.cell (p := ⟨xr, 1, none⟩) hxl1).trans m1
          have f8 : w8.frozen? ⟨xr, 1, none⟩ = false := (h8.frozen (p := ⟨xr, 1, none⟩) hxl1).trans hxz
          refine hK1 _ _ y8 ?_
          clear hK1 K1 hgr8 hl8 hown7 h7 y7
          try simp only [Act.put, List.setIfInBounds_toArray, List.set_cons_zero, List.set_cons_succ]
          refine wpAnyZ_one (j := 20) (o := { dst := some 95, op := _, type := _, pos := _, after := _, guard := _ }) rfl (by kernel_rfl) (by decide) ?_
          intro K1 hK1
          rw [if_pos (by rfl)]
          go_simp
          refine hK1 _ _ y8 ?_
          clear hK1 K1
          try simp only [Act.put, List.setIfInBounds_toArray, List.set_cons_zero, List.set_cons_succ]
          refine wpAnyZ_one (j := 21) (o := { dst := some 96, op := _, type := _, pos := _, after := _, guard := _ }) rfl (by kernel_rfl) (by decide) ?_
          intro K1 hK1
          rw [if_pos (by rfl)]
          go_simp
          refine hK1 _ _ y8 ?_
          clear hK1 K1
          try simp only [Act.put, List.setIfInBounds_toArray, List.set_cons_zero, List.set_cons_succ]
          refine wpAnyZ_last (o := { dst := none, op := _, type := _, pos := _, after := _, guard := _ }) rfl (by kernel_rfl) ?_
          intro K1 hK1
          rw [if_pos (by rfl)]
          go_simp
          refine hK1 _ _ ?_
          clear hK1 K1
          refine wpAny_done (by kernel_rfl) ?_ _
          have HEND := Lib.hid (HH.out.insert (k := 0) hZ hbase (by rw [HN.out]; omega) HSET.out HB1.out h8 ⟨g1, cap1, rfl, HG1.out.2.2.2, HG1.out.1, HG1.out.2.1, HG1.out.2.2.1⟩ (by rw [HN.out]; exact HROW0.out.1) HROW0.out.2 (v' := .slice A8 k8 c8) (by rw [show M.length + 1 = k8 by rw [HN.out]; have := HK6.out; have := HK7.out; have := HK8.out; omega]; simpa using hown8))
          clear hown8 h8 y8 f8
          go_wp2
          go_ret
          exact ⟨rfl, HEND.out⟩
      · obtain ⟨b, rfl, _, hbl, hat⟩ := HI.out.2 (by omega)
        have HCV0 := Lib.hid (fun j u (hj : vs[j]? = some u) => World.ownsRow.cells (g := b) HROW.out rfl j u hj)
        have HCV := Lib.hid (show ∀ j u, vs[j]? = some u → w1.drew.cell? ((⟨b, 0, none⟩ : Addr).add j) = some u from fun j u hj => HCV0.out j u hj)
        have HBL := Lib.hid (show ∀ j, ((⟨b, 0, none⟩ : Addr).add j).block < w1.heap.size from fun j => by rw [img_add]; exact (own_at HROW.out b rfl).2)
        clear hat
        have hk0 : (0 : Int) ≤ (k : Int) := by omega
        have hkn : (k : Int) ≤ (k : Int) := by omega
        by_cases hc : cM = k
        · subst hc
          have x1 : w1.drew.cell? ⟨xr, 1, none⟩ = some (.slice (some ⟨b, 0, none⟩) cM cM) := m1
          go_wp2_with fail
          refine wp_region_any (by rfl) ?_
          change wpAny _ _ _ _ _ _ _ w1.drew
          refine wpAny_of_Z (S := fun wz => wz.cell? ⟨xr, 1, none⟩ = some (.slice (some ⟨b, 0, none⟩) cM cM)) (z := 22) _ _ _ _ ?_
          refine wpAnyZ_take (i := 0) (oi := { dst := some 75, op := _, type := _, pos := _, after := _, guard := _ }) (v := .pointer (some ⟨xr, 0, none⟩)) rfl (by decide) (by kernel_rfl) (by kernel_rfl) (by kernel_rfl) (by kernel_rfl) (fun _ _ _ h => h) (Or.inl ⟨by rfl, fun wz hS => ?_⟩) x1 ?_
          · go_simp
          try simp only [Act.put, List.setIfInBounds_toArray, List.set_cons_zero, List.set_cons_succ]
          refine wpAnyZ_take (i := 1) (oi := { dst := some 76, op := _, type := _, pos := _, after := _, guard := _ }) (v := .pointer (some ⟨xr, 0, none⟩)) rfl (by decide) (by kernel_rfl) (by kernel_rfl) (by kernel_rfl) (by kernel_rfl) (fun _ _ _ h => h) (Or.inl ⟨by rfl, fun wz hS => ?_⟩) x1 ?_
          · go_simp
          try simp only [Act.put, List.setIfInBounds_toArray, List.set_cons_zero, List.set_cons_succ]
          refine wpAnyZ_take (i := 2) (oi := { dst := some 77, op := _, type := _, pos := _, after := _, guard := _ }) (v := .pointer (some ⟨xr, 0, none⟩)) rfl (by decide) (by kernel_rfl) (by kernel_rfl) (by kernel_rfl) (by kernel_rfl) (fun _ _ _ h => h) (Or.inl ⟨by rfl, fun wz hS => ?_⟩) x1 ?_
          · go_simp
          try simp only [Act.put, List.setIfInBounds_toArray, List.set_cons_zero, List.set_cons_succ]
          refine wpAnyZ_take (i := 3) (oi := { dst := some 78, op := _, type := _, pos := _, after := _, guard := _ }) (v := .pointer (some ⟨xr, 1, none⟩)) rfl (by decide) (by kernel_rfl) (by kernel_rfl) (by kernel_rfl) (by kernel_rfl) (fun _ _ _ h => h) (Or.inl ⟨by rfl, fun wz hS => ?_⟩) x1 ?_
          · go_simp
          try simp only [Act.put, List.setIfInBounds_toArray, List.set_cons_zero, List.set_cons_succ]
          refine wpAnyZ_take (i := 4) (oi := { dst := some 79, op := _, type := _, pos := _, after := _, guard := _ }) (v := .slice (some ⟨b, 0, none⟩) cM cM) rfl (by decide) (by kernel_rfl) (by kernel_rfl) (by kernel_rfl) (by kernel_rfl) (fun _ _ _ h => h) (Or.inl ⟨by rfl, fun wz hS => ?_⟩) x1 ?_
          · go_simp
          try simp only [Act.put, List.setIfInBounds_toArray, List.set_cons_zero, List.set_cons_succ]
          refine wpAnyZ_take (i := 5) (oi := { dst := some 80, op := _, type := _, pos := _, after := _, guard := _ }) (v := .int .i64 ((cM : Nat) : Int)) rfl (by decide) (by kernel_rfl) (by kernel_rfl) (by kernel_rfl) (by kernel_rfl) (fun _ _ _ h => h) (Or.inl ⟨by rfl, fun wz hS => ?_⟩) x1 ?_
          · go_simp
          try simp only [Act.put, List.setIfInBounds_toArray, List.set_cons_zero, List.set_cons_succ]
          refine wpAnyZ_take (i := 6) (oi := { dst := some 81, op := _, type := _, pos := _, after := _, guard := _ }) (v := .slice (some ⟨b, 0, none⟩) cM cM) rfl (by decide) (by kernel_rfl) (by kernel_rfl) (by kernel_rfl) (by kernel_rfl) (fun _ _ _ h => h) (Or.inl ⟨by rfl, fun wz hS => ?_⟩) x1 ?_
          · go_simp
            all_goals omega
          try simp only [Act.put, List.setIfInBounds_toArray, List.set_cons_zero, List.set_cons_succ]
          refine wpAnyZ_take (i := 8) (oi := { dst := some 83, op := _, type := _, pos := _, after := _, guard := _ }) (v := .int .i64 i) rfl (by decide) (by kernel_rfl) (by kernel_rfl) (by kernel_rfl) (by kernel_rfl) (fun _ _ _ h => h) (Or.inl ⟨by rfl, fun wz hS => ?_⟩) x1 ?_
          · go_simp
          try simp only [Act.put, List.setIfInBounds_toArray, List.set_cons_zero, List.set_cons_succ]
          refine wpAnyZ_take (i := 9) (oi := { dst := some 84, op := _, type := _, pos := _, after := _, guard := _ }) (v := .slice (some ⟨g1, 0, none⟩) 240 cap1) rfl (by decide) (by kernel_rfl) (by kernel_rfl) (by kernel_rfl) (by kernel_rfl) (fun _ _ _ h => h) (Or.inl ⟨by rfl, fun wz hS => ?_⟩) x1 ?_
          · go_simp
          try simp only [Act.put, List.setIfInBounds_toArray, List.set_cons_zero, List.set_cons_succ]
          refine wpAnyZ_take (i := 10) (oi := { dst := some 85, op := _, type := _, pos := _, after := _, guard := _ }) (v := .agg #[.int .i64 i, .slice (some ⟨g1, 0, none⟩) 240 cap1]) rfl (by decide) (by kernel_rfl) (by kernel_rfl) (by kernel_rfl) (by kernel_rfl) (fun _ _ _ h => h) (Or.inl ⟨by rfl, fun wz hS => ?_⟩) x1 ?_
          · go_simp
          try simp only [Act.put, List.setIfInBounds_toArray, List.set_cons_zero, List.set_cons_succ]
          refine wpAnyZ_take (i := 13) (oi := { dst := some 88, op := _, type := _, pos := _, after := _, guard := _ }) (v := .pointer (some ⟨xr, 0, none⟩)) rfl (by decide) (by kernel_rfl) (by kernel_rfl) (by kernel_rfl) (by kernel_rfl) (fun _ _ _ h => h) (Or.inl ⟨by rfl, fun wz hS => ?_⟩) x1 ?_
          · go_simp
          try simp only [Act.put, List.setIfInBounds_toArray, List.set_cons_zero, List.set_cons_succ]
          refine wpAnyZ_take (i := 14) (oi := { dst := some 89, op := _, type := _, pos := _, after := _, guard := _ }) (v := .pointer (some ⟨xr, 0, none⟩)) rfl (by decide) (by kernel_rfl) (by kernel_rfl) (by kernel_rfl) (by kernel_rfl) (fun _ _ _ h => h) (Or.inl ⟨by rfl, fun wz hS => ?_⟩) x1 ?_
          · go_simp
          try simp only [Act.put, List.setIfInBounds_toArray, List.set_cons_zero, List.set_cons_succ]
          refine wpAnyZ_take (i := 15) (oi := { dst := some 90, op := _, type := _, pos := _, after := _, guard := _ }) (v := .pointer (some ⟨xr, 1, none⟩)) rfl (by decide) (by kernel_rfl) (by kernel_rfl) (by kernel_rfl) (by kernel_rfl) (fun _ _ _ h => h) (Or.inl ⟨by rfl, fun wz hS => ?_⟩) x1 ?_
          · go_simp
          try simp only [Act.put, List.setIfInBounds_toArray, List.set_cons_zero, List.set_cons_succ]
          refine wpAnyZ_take (i := 16) (oi := { dst := some 91, op := _, type := _, pos := _, after := _, guard := _ }) (v := .slice (some ⟨b, 0, none⟩) cM cM) rfl (by decide) (by kernel_rfl) (by kernel_rfl) (by kernel_rfl) (by kernel_rfl) (fun _ _ _ h => h) (Or.inl ⟨by rfl, fun wz hS => ?_⟩) x1 ?_
          · go_simp
          try simp only [Act.put, List.setIfInBounds_toArray, List.set_cons_zero, List.set_cons_succ]
          refine wpAnyZ_take (i := 17) (oi := { dst := some 92, op := _, type := _, pos := _, after := _, guard := _ }) (v := .int .i64 ((cM : Nat) : Int)) rfl (by decide) (by kernel_rfl) (by kernel_rfl) (by kernel_rfl) (by kernel_rfl) (fun _ _ _ h => h) (Or.inl ⟨by rfl, fun wz hS => ?_⟩) x1 ?_
          · go_simp
          try simp only [Act.put, List.setIfInBounds_toArray, List.set_cons_zero, List.set_cons_succ]
          refine wpAnyZ_take (i := 18) (oi := { dst := some 93, op := _, type := _, pos := _, after := _, guard := _ }) (v := .slice (some ⟨b, 0, none⟩) 0 0) rfl (by decide) (by kernel_rfl) (by kernel_rfl) (by kernel_rfl) (by kernel_rfl) (fun _ _ _ h => h) (Or.inl ⟨by rfl, fun wz hS => ?_⟩) x1 ?_
          · go_simp
            all_goals omega
          try simp only [Act.put, List.setIfInBounds_toArray, List.set_cons_zero, List.set_cons_succ]
          refine wpAnyZ_two (j := 7) (k := 11) (o := { dst := some 82, op := _, type := _, pos := _, after := _, guard := none }) (o' := { dst := some 86, op := _, type := _, pos := _, after := _, guard := none }) rfl rfl (by kernel_rfl) (by decide) (by decide) ?_ ?_
          · intro K1 hK1
            have o0 : w1.drew.ownsRow w1.heap.size 107 2 (.slice none 0 0) 0 [] := ⟨rfl, .inl ⟨rfl, rfl⟩⟩
            with_reducible refine step_append_imgs ?_ (.const (.slice none 0 0)) (.tmp 81) ?_ w1.heap.size (.slice none 0 0) 0 [] ?_ (some ⟨b, 0, none⟩) cM cM ?_ o0 (vs.take (cM * 2)) (by rw [List.length_take]; omega) (fun j u hj => ⟨_, rfl, HCV.out j u (by rw [List.getElem?_take] at hj; split at hj; exact hj; cases hj)⟩) (fun u hu => HONE.out u (List.mem_of_mem_take hu)) (by omega) (Nat.le_refl _) ?_
            · rfl
            · rfl
            · rfl
            · rfl
            intro A6 c6 w6 hown6 hgr6 hl6
            generalize hk6 : 0 + cM = k6 at hown6 hl6 ⊢
            have HK6 := Lib.hid hk6
            clear hk6
            have hb6 : Below w1.heap.size w1 w6 := ((Below.refl w1.heap.size w1).drew).grown hgr6 (Nat.le_refl _) (fun k hk => by cases hk)
            have y6 : w6.cell? ⟨xr, 1, none⟩ = some (.slice (some ⟨b, 0, none⟩) cM cM) := (hb6.cell (p := ⟨xr, 1, none⟩) hxl1).trans m1
            refine hK1 _ _ y6 ?_
            clear hK1 K1
            try simp only [Act.put, List.setIfInBounds_toArray, List.set_cons_zero, List.set_cons_succ]
            refine wpAnyZ_one (j := 11) (o := { dst := some 86, op := _, type := _, pos := _, after := _, guard := none }) rfl (by kernel_rfl) (by decide) ?_
            intro K1 hK1
            rw [if_pos (by rfl)]
            go_simp
            have hW : Below w1.heap.size w1 (w6.alloc (.cells #[.int .i64 i, .slice (some ⟨g1, 0, none⟩) 240 cap1] 107)) := hb6.alloc hb6.size _
            have yW : (w6.alloc (.cells #[.int .i64 i, .slice (some ⟨g1, 0, none⟩) 240 cap1] 107)).cell? ⟨xr, 1, none⟩ = some (.slice (some ⟨b, 0, none⟩) cM cM) := (hW.cell (p := ⟨xr, 1, none⟩) hxl1).trans m1
            have hlit : (w6.alloc (.cells #[.int .i64 i, .slice (some ⟨g1, 0, none⟩) 240 cap1] 107)).heap[w6.heap.size]? = some (.cells #[.int .i64 i, .slice (some ⟨g1, 0, none⟩) 240 cap1] 107 (0, 0)) := heap_alloc_new _ _
            have hgl := hb6.size
            have hownW := hown6.alloc (.cells #[.int .i64 i, .slice (some ⟨g1, 0, none⟩) 240 cap1] 107)
            refine hK1 _ _ yW ?_
            clear hK1 K1 hown6 hgr6 hl6 hb6 y6
            generalize w6.alloc (.cells #[.int .i64 i, .slice (some ⟨g1, 0, none⟩) 240 cap1] 107) = W at hW yW hlit hownW ⊢
            generalize w6.heap.size = gl at hlit hgl ⊢
            try simp only [Act.put, List.setIfInBounds_toArray, List.set_cons_zero, List.set_cons_succ]
            have hone2 : ∀ u ∈ [Value.int .i64 i, .slice (some ⟨g1, 0, none⟩) 240 cap1], u.oneCell' = true := fun u hu => by simp at hu; rcases hu with rfl | rfl <;> rfl
            refine wpAnyZ_one (j := 12) (o := { dst := some 87, op := _, type := _, pos := _, after := _, guard := none }) rfl (by kernel_rfl) (by decide) ?_
            intro K1 hK1
            with_reducible refine step_append_imgs ?_ (.tmp 82) (.tmp 86) ?_ w1.heap.size (.slice A6 k6 c6) k6 _ ?_ (some ⟨gl, 0, none⟩) 1 1 ?_ hownW [.int .i64 i, .slice (some ⟨g1, 0, none⟩) 240 cap1] rfl (fun j u hj => ⟨_, rfl, World.news_of_block hlit j u hj⟩) hone2 (by have := HK6.out; omega) hW.size ?_
            · rfl
            · rfl
            · rfl
            · rfl
            intro A7 c7 w7 hown7 hgr7 hl7
            generalize hk7 : k6 + 1 = k7 at hown7 hl7 ⊢
            have HK7 := Lib.hid hk7
            clear hk7
            have h7 : Below w1.heap.size w1 w7 := hW.grown hgr7 hW.size (fun k hk => (own_at hownW k hk).1)
            have y7 : w7.cell? ⟨xr, 1, none⟩ = some (.slice (some ⟨b, 0, none⟩) cM cM) := (h7.cell (p := ⟨xr, 1, none⟩) hxl1).trans m1
            refine hK1 _ _ y7 ?_
            clear hK1 K1 hgr7 hl7 hlit hownW hW yW
            try simp only [Act.put, List.setIfInBounds_toArray, List.set_cons_zero, List.set_cons_succ]
            have HC7 := Lib.hid (fun j u (hj : vs[j]? = some u) => (h7.cell (p := (⟨b, 0, none⟩ : Addr).add j) (HBL.out j)).trans (HCV0.out j u hj))
            refine wpAnyZ_one (j := 19) (o := { dst := some 94, op := _, type := _, pos := _, after := _, guard := none }) rfl (by kernel_rfl) (by decide) ?_
            intro K1 hK1
            with_reducible refine step_append_imgs ?_ (.tmp 87) (.tmp 93) ?_ w1.heap.size (.slice A7 k7 c7) k7 _ ?_ (some ⟨b, 0, none⟩) 0 0 ?_ hown7 (vs.drop (cM * 2)) (by rw [List.length_drop]; omega) (fun j u hj => by rw [List.getElem?_eq_none (by rw [List.length_drop]; omega)] at hj; simp at hj) (fun u hu => HONE.out u (List.mem_of_mem_drop hu)) (by have := HK6.out; have := HK7.out; omega) h7.size ?_
            · rfl
            · rfl
            · rfl
            · rfl
            intro A8 c8 w8 hown8 hgr8 hl8
            generalize hk8 : k7 + 0 = k8 at hown8 hl8 ⊢
            have HK8 := Lib.hid hk8
            clear hk8
            have h8 : Below w1.heap.size w1 w8 := h7.grown hgr8 h7.size (fun k hk => (own_at hown7 k hk).1)
            have y8 : w8.cell? ⟨xr, 1, none⟩ = some (.slice (some ⟨b, 0, none⟩) cM cM) := (h8.cell (p := ⟨xr, 1, none⟩) hxl1).trans m1
            have f8 : w8.frozen? ⟨xr, 1, none⟩ = false := (h8.frozen (p := ⟨xr, 1, none⟩) hxl1).trans hxz
            refine hK1 _ _ y8 ?_
            clear hK1 K1 hgr8 hl8 hown7 h7 y7
            try simp only [Act.put, List.setIfInBounds_toArray, List.set_cons_zero, List.set_cons_succ]
            refine wpAnyZ_one (j := 20) (o := { dst := some 95, op := _, type := _, pos := _, after := _, guard := _ }) rfl (by kernel_rfl) (by decide) ?_
            intro K1 hK1
            rw [if_pos (by rfl)]
            go_simp
            refine hK1 _ _ y8 ?_
            clear hK1 K1
            try simp only [Act.put, List.setIfInBounds_toArray, List.set_cons_zero, List.set_cons_succ]
            refine wpAnyZ_one (j := 21) (o := { dst := some 96, op := _, type := _, pos := _, after := _, guard := _ }) rfl (by kernel_rfl) (by decide) ?_
            intro K1 hK1
            rw [if_pos (by rfl)]
            go_simp
            refine hK1 _ _ y8 ?_
            clear hK1 K1
            try simp only [Act.put, List.setIfInBounds_toArray, List.set_cons_zero, List.set_cons_succ]
            refine wpAnyZ_last (o := { dst := none, op := _, type := _, pos := _, after := _, guard := _ }) rfl (by kernel_rfl) ?_
            intro K1 hK1
            rw [if_pos (by rfl)]
            go_simp
            refine hK1 _ _ ?_
            clear hK1 K1
            refine wpAny_done (by kernel_rfl) ?_ _
            have HEND := Lib.hid (HH.out.insert (k := cM) hZ hbase (by rw [HN.out]; omega) HSET.out HB1.out h8 ⟨g1, cap1, rfl, HG1.out.2.2.2, HG1.out.1, HG1.out.2.1, HG1.out.2.2.1⟩ (by rw [HN.out]; exact HROW0.out.1) HROW0.out.2 (v' := .slice A8 k8 c8) (by rw [show M.length + 1 = k8 by rw [HN.out]; have := HK6.out; have := HK7.out; have := HK8.out; omega]; simpa using hown8))
            clear hown8 h8 y8 f8
            go_wp2
            go_ret
            exact ⟨rfl, HEND.out⟩
          · intro K1 hK1
            rw [if_pos (by rfl)]
            go_simp
            have hW0 : Below w1.heap.size w1 (w1.alloc (.cells #[.int .i64 i, .slice (some ⟨g1, 0, none⟩) 240 cap1] 107)).drew := ((Below.refl w1.heap.size w1).alloc (Nat.le_refl _) _).drew
            have yW0 : (w1.alloc (.cells #[.int .i64 i, .slice (some ⟨g1, 0, none⟩) 240 cap1] 107)).drew.cell? ⟨xr, 1, none⟩ = some (.slice (some ⟨b, 0, none⟩) cM cM) := (hW0.cell (p := ⟨xr, 1, none⟩) hxl1).trans m1
            have hlit0 : (w1.alloc (.cells #[.int .i64 i, .slice (some ⟨g1, 0, none⟩) 240 cap1] 107)).drew.heap[w1.heap.size]? = some (.cells #[.int .i64 i, .slice (some ⟨g1, 0, none⟩) 240 cap1] 107 (0, 0)) := heap_alloc_new w1 _
            have hsW0 : (w1.alloc (.cells #[.int .i64 i, .slice (some ⟨g1, 0, none⟩) 240 cap1] 107)).drew.heap.size = w1.heap.size + 1 := by show (w1.alloc _).heap.size = _; simp
            have HCW := Lib.hid (fun j u (hj : vs[j]? = some u) => (hW0.cell (p := (⟨b, 0, none⟩ : Addr).add j) (HBL.out j)).trans (HCV0.out j u hj))
            refine hK1 _ _ yW0 ?_
            clear hK1 K1
            try simp only [Act.put, List.setIfInBounds_toArray, List.set_cons_zero, List.set_cons_succ]
            refine wpAnyZ_one (j := 7) (o := { dst := some 82, op := _, type := _, pos := _, after := _, guard := none }) rfl (by kernel_rfl) (by decide) ?_
            intro K1 hK1
            have o0 : (w1.alloc (.cells #[.int .i64 i, .slice (some ⟨g1, 0, none⟩) 240 cap1] 107)).drew.ownsRow w1.heap.size 107 2 (.slice none 0 0) 0 [] := ⟨rfl, .inl ⟨rfl, rfl⟩⟩
            with_reducible refine step_append_imgs ?_ (.const (.slice none 0 0)) (.tmp 81) ?_ w1.heap.size (.slice none 0 0) 0 [] ?_ (some ⟨b, 0, none⟩) cM cM ?_ o0 (vs.take (cM * 2)) (by rw [List.length_take]; omega) (fun j u hj => ⟨_, rfl, HCW.out j u (by rw [List.getElem?_take] at hj; split at hj; exact hj; cases hj)⟩) (fun u hu => HONE.out u (List.mem_of_mem_take hu)) (by omega) (by simp) ?_
            · rfl
            · rfl
            · rfl
            · rfl
            intro A6 c6 w6 hown6 hgr6 hl6
            generalize hk6 : 0 + cM = k6 at hown6 hl6 ⊢
            have HK6 := Lib.hid hk6
            clear hk6
            have hW : Below w1.heap.size w1 w6 := hW0.grown hgr6 (by rw [hsW0]; omega) (fun k hk => by cases hk)
            have yW : w6.cell? ⟨xr, 1, none⟩ = some (.slice (some ⟨b, 0, none⟩) cM cM) := (hW.cell (p := ⟨xr, 1, none⟩) hxl1).trans m1
            have hlit : w6.heap[w1.heap.size]? = some (.cells #[.int .i64 i, .slice (some ⟨g1, 0, none⟩) 240 cap1] 107 (0, 0)) := (hgr6.block _ (by rw [hsW0]; omega) (fun e => by cases e)).trans hlit0
            have hgl : w1.heap.size ≤ w1.heap.size := Nat.le_refl _
            have hownW := hown6
            refine hK1 _ _ yW ?_
            rw [Array.setIfInBounds_comm _ _ (show (11 : Nat) ≠ 7 by decide)]
            clear hK1 K1 hown6 hgr6 hl6 hW0 yW0 hlit0 hsW0
            generalize w6 = W at hW yW hlit hownW ⊢
            generalize hgg : w1.heap.size = gl at hlit hgl
            try simp only [Act.put, List.setIfInBounds_toArray, List.set_cons_zero, List.set_cons_succ]
            have hone2 : ∀ u ∈ [Value.int .i64 i, .slice (some ⟨g1, 0, none⟩) 240 cap1], u.oneCell' = true := fun u hu => by simp at hu; rcases hu with rfl | rfl <;> rfl
            refine wpAnyZ_one (j := 12) (o := { dst := some 87, op := _, type := _, pos := _, after := _, guard := none }) rfl (by kernel_rfl) (by decide) ?_
            intro K1 hK1
            with_reducible refine step_append_imgs ?_ (.tmp 82) (.tmp 86) ?_ w1.heap.size (.slice A6 k6 c6) k6 _ ?_ (some ⟨gl, 0, none⟩) 1 1 ?_ hownW [.int .i64 i, .slice (some ⟨g1, 0, none⟩) 240 cap1] rfl (fun j u hj => ⟨_, rfl, World.news_of_block hlit j u hj⟩) hone2 (by have := HK6.out; omega) hW.size ?_
            · rfl
            · rfl
            · rfl
            · rfl
            intro A7 c7 w7 hown7 hgr7 hl7
            generalize hk7 : k6 + 1 = k7 at hown7 hl7 ⊢
            have HK7 := Lib.hid hk7
            clear hk7
            have h7 : Below w1.heap.size w1 w7 := hW.grown hgr7 hW.size (fun k hk => (own_at hownW k hk).1)
            have y7 : w7.cell? ⟨xr, 1, none⟩ = some (.slice (some ⟨b, 0, none⟩) cM cM) := (h7.cell (p := ⟨xr, 1, none⟩) hxl1).trans m1
            refine hK1 _ _ y7 ?_
            clear hK1 K1 hgr7 hl7 hlit hownW hW yW
            try simp only [Act.put, List.setIfInBounds_toArray, List.set_cons_zero, List.set_cons_succ]
            have HC7 := Lib.hid (fun j u (hj : vs[j]? = some u) => (h7.cell (p := (⟨b, 0, none⟩ : Addr).add j) (HBL.out j)).trans (HCV0.out j u hj))
            refine wpAnyZ_one (j := 19) (o := { dst := some 94, op := _, type := _, pos := _, after := _, guard := none }) rfl (by kernel_rfl) (by decide) ?_
            intro K1 hK1
            with_reducible refine step_append_imgs ?_ (.tmp 87) (.tmp 93) ?_ w1.heap.size (.slice A7 k7 c7) k7 _ ?_ (some ⟨b, 0, none⟩) 0 0 ?_ hown7 (vs.drop (cM * 2)) (by rw [List.length_drop]; omega) (fun j u hj => by rw [List.getElem?_eq_none (by rw [List.length_drop]; omega)] at hj; simp at hj) (fun u hu => HONE.out u (List.mem_of_mem_drop hu)) (by have := HK6.out; have := HK7.out; omega) h7.size ?_
            · rfl
            · rfl
            · rfl
            · rfl
            intro A8 c8 w8 hown8 hgr8 hl8
            generalize hk8 : k7 + 0 = k8 at hown8 hl8 ⊢
            have HK8 := Lib.hid hk8
            clear hk8
            have h8 : Below w1.heap.size w1 w8 := h7.grown hgr8 h7.size (fun k hk => (own_at hown7 k hk).1)
            have y8 : w8.cell? ⟨xr, 1, none⟩ = some (.slice (some ⟨b, 0, none⟩) cM cM) := (h8.cell (p := ⟨xr, 1, none⟩) hxl1).trans m1
            have f8 : w8.frozen? ⟨xr, 1, none⟩ = false := (h8.frozen (p := ⟨xr, 1, none⟩) hxl1).trans hxz
            refine hK1 _ _ y8 ?_
            clear hK1 K1 hgr8 hl8 hown7 h7 y7
            try simp only [Act.put, List.setIfInBounds_toArray, List.set_cons_zero, List.set_cons_succ]
            refine wpAnyZ_one (j := 20) (o := { dst := some 95, op := _, type := _, pos := _, after := _, guard := _ }) rfl (by kernel_rfl) (by decide) ?_
            intro K1 hK1
            rw [if_pos (by rfl)]
            go_simp
            refine hK1 _ _ y8 ?_
            clear hK1 K1
            try simp only [Act.put, List.setIfInBounds_toArray, List.set_cons_zero, List.set_cons_succ]
            refine wpAnyZ_one (j := 21) (o := { dst := some 96, op := _, type := _, pos := _, after := _, guard := _ }) rfl (by kernel_rfl) (by decide) ?_
            intro K1 hK1
            rw [if_pos (by rfl)]
            go_simp
            refine hK1 _ _ y8 ?_
            clear hK1 K1
            try simp only [Act.put, List.setIfInBounds_toArray, List.set_cons_zero, List.set_cons_succ]
            refine wpAnyZ_last (o := { dst := none, op := _, type := _, pos := _, after := _, guard := _ }) rfl (by kernel_rfl) ?_
            intro K1 hK1
            rw [if_pos (by rfl)]
            go_simp
            refine hK1 _ _ ?_
            clear hK1 K1
            refine wpAny_done (by kernel_rfl) ?_ _
            have HEND := Lib.hid (HH.out.insert (k := cM) hZ hbase (by rw [HN.out]; omega) HSET.out HB1.out h8 ⟨g1, cap1, rfl, HG1.out.2.2.2, HG1.out.1, HG1.out.2.1, HG1.out.2.2.1⟩ (by rw [HN.out]; exact HROW0.out.1) HROW0.out.2 (v' := .slice A8 k8 c8) (by rw [show M.length + 1 = k8 by rw [HN.out]; have := HK6.out; have := HK7.out; have := HK8.out; omega]; simpa using hown8))
            clear hown8 h8 y8 f8
            go_wp2
            go_ret
            exact ⟨rfl, HEND.out⟩
        · have x1 : w1.drew.cell? ⟨xr, 1, none⟩ = some (.slice (some ⟨b, 0, none⟩) k cM) := m1
          have hkc : (k : Int) ≤ (cM : Int) := by omega
          go_wp2_with fail
          refine wp_region_any (by rfl) ?_
          change wpAny _ _ _ _ _ _ _ w1.drew
          refine wpAny_of_Z (S := fun wz => wz.cell? ⟨xr, 1, none⟩ = some (.slice (some ⟨b, 0, none⟩) k cM)) (z := 22) _ _ _ _ ?_
          refine wpAnyZ_take (i := 0) (oi := { dst := some 75, op := _, type := _, pos := _, after := _, guard := _ }) (v := .pointer (some ⟨xr, 0, none⟩)) rfl (by decide) (by kernel_rfl) (by kernel_rfl) (by kernel_rfl) (by kernel_rfl) (fun _ _ _ h => h) (Or.inl ⟨by rfl, fun wz hS => ?_⟩) x1 ?_
          · go_simp
          try simp only [Act.put, List.setIfInBounds_toArray, List.set_cons_zero, List.set_cons_succ]
          refine wpAnyZ_take (i := 1) (oi := { dst := some 76, op := _, type := _, pos := _, after := _, guard := _ }) (v := .pointer (some ⟨xr, 0, none⟩)) rfl (by decide) (by kernel_rfl) (by kernel_rfl) (by kernel_rfl) (by kernel_rfl) (fun _ _ _ h => h) (Or.inl ⟨by rfl, fun wz hS => ?_⟩) x1 ?_
          · go_simp
          try simp only [Act.put, List.setIfInBounds_toArray, List.set_cons_zero, List.set_cons_succ]
          refine wpAnyZ_take (i := 2) (oi := { dst := some 77, op := _, type := _, pos := _, after := _, guard := _ }) (v := .pointer (some ⟨xr, 0, none⟩)) rfl (by decide) (by kernel_rfl) (by kernel_rfl) (by kernel_rfl) (by kernel_rfl) (fun _ _ _ h => h) (Or.inl ⟨by rfl, fun wz hS => ?_⟩) x1 ?_
          · go_simp
          try simp only [Act.put, List.setIfInBounds_toArray, List.set_cons_zero, List.set_cons_succ]
          refine wpAnyZ_take (i := 3) (oi := { dst := some 78, op := _, type := _, pos := _, after := _, guard := _ }) (v := .pointer (some ⟨xr, 1, none⟩)) rfl (by decide) (by kernel_rfl) (by kernel_rfl) (by kernel_rfl) (by kernel_rfl) (fun _ _ _ h => h) (Or.inl ⟨by rfl, fun wz hS => ?_⟩) x1 ?_
          · go_simp
          try simp only [Act.put, List.setIfInBounds_toArray, List.set_cons_zero, List.set_cons_succ]
          refine wpAnyZ_take (i := 4) (oi := { dst := some 79, op := _, type := _, pos := _, after := _, guard := _ }) (v := .slice (some ⟨b, 0, none⟩) k cM) rfl (by decide) (by kernel_rfl) (by kernel_rfl) (by kernel_rfl) (by kernel_rfl) (fun _ _ _ h => h) (Or.inl ⟨by rfl, fun wz hS => ?_⟩) x1 ?_
          · go_simp
          try simp only [Act.put, List.setIfInBounds_toArray, List.set_cons_zero, List.set_cons_succ]
          refine wpAnyZ_take (i := 5) (oi := { dst := some 80, op := _, type := _, pos := _, after := _, guard := _ }) (v := .int .i64 ((k : Nat) : Int)) rfl (by decide) (by kernel_rfl) (by kernel_rfl) (by kernel_rfl) (by kernel_rfl) (fun _ _ _ h => h) (Or.inl ⟨by rfl, fun wz hS => ?_⟩) x1 ?_
          · go_simp
          try simp only [Act.put, List.setIfInBounds_toArray, List.set_cons_zero, List.set_cons_succ]
          refine wpAnyZ_take (i := 6) (oi := { dst := some 81, op := _, type := _, pos := _, after := _, guard := _ }) (v := .slice (some ⟨b, 0, none⟩) k cM) rfl (by decide) (by kernel_rfl) (by kernel_rfl) (by kernel_rfl) (by kernel_rfl) (fun _ _ _ h => h) (Or.inl ⟨by rfl, fun wz hS => ?_⟩) x1 ?_
          · go_simp
            all_goals omega
          try simp only [Act.put, List.setIfInBounds_toArray, List.set_cons_zero, List.set_cons_succ]
          refine wpAnyZ_take (i := 8) (oi := { dst := some 83, op := _, type := _, pos := _, after := _, guard := _ }) (v := .int .i64 i) rfl (by decide) (by kernel_rfl) (by kernel_rfl) (by kernel_rfl) (by kernel_rfl) (fun _ _ _ h => h) (Or.inl ⟨by rfl, fun wz hS => ?_⟩) x1 ?_
          · go_simp
          try simp only [Act.put, List.setIfInBounds_toArray, List.set_cons_zero, List.set_cons_succ]
          refine wpAnyZ_take (i := 9) (oi := { dst := some 84, op := _, type := _, pos := _, after := _, guard := _ }) (v := .slice (some ⟨g1, 0, none⟩) 240 cap1) rfl (by decide) (by kernel_rfl) (by kernel_rfl) (by kernel_rfl) (by kernel_rfl) (fun _ _ _ h => h) (Or.inl ⟨by rfl, fun wz hS => ?_⟩) x1 ?_
          · go_simp
          try simp only [Act.put, List.setIfInBounds_toArray, List.set_cons_zero, List.set_cons_succ]
          refine wpAnyZ_take (i := 10) (oi := { dst := some 85, op := _, type := _, pos := _, after := _, guard := _ }) (v := .agg #[.int .i64 i, .slice (some ⟨g1, 0, none⟩) 240 cap1]) rfl (by decide) (by kernel_rfl) (by kernel_rfl) (by kernel_rfl) (by kernel_rfl) (fun _ _ _ h => h) (Or.inl ⟨by rfl, fun wz hS => ?_⟩) x1 ?_
          · go_simp
          try simp only [Act.put, List.setIfInBounds_toArray, List.set_cons_zero, List.set_cons_succ]
          refine wpAnyZ_take (i := 13) (oi := { dst := some 88, op := _, type := _, pos := _, after := _, guard := _ }) (v := .pointer (some ⟨xr, 0, none⟩)) rfl (by decide) (by kernel_rfl) (by kernel_rfl) (by kernel_rfl) (by kernel_rfl) (fun _ _ _ h => h) (Or.inl ⟨by rfl, fun wz hS => ?_⟩) x1 ?_
          · go_simp
          try simp only [Act.put, List.setIfInBounds_toArray, List.set_cons_zero, List.set_cons_succ]
          refine wpAnyZ_take (i := 14) (oi := { dst := some 89, op := _, type := _, pos := _, after := _, guard := _ }) (v := .pointer (some ⟨xr, 0, none⟩)) rfl (by decide) (by kernel_rfl) (by kernel_rfl) (by kernel_rfl) (by kernel_rfl) (fun _ _ _ h => h) (Or.inl ⟨by rfl, fun wz hS => ?_⟩) x1 ?_
          · go_simp
          try simp only [Act.put, List.setIfInBounds_toArray, List.set_cons_zero, List.set_cons_succ]
          refine wpAnyZ_take (i := 15) (oi := { dst := some 90, op := _, type := _, pos := _, after := _, guard := _ }) (v := .pointer (some ⟨xr, 1, none⟩)) rfl (by decide) (by kernel_rfl) (by kernel_rfl) (by kernel_rfl) (by kernel_rfl) (fun _ _ _ h => h) (Or.inl ⟨by rfl, fun wz hS => ?_⟩) x1 ?_
          · go_simp
          try simp only [Act.put, List.setIfInBounds_toArray, List.set_cons_zero, List.set_cons_succ]
          refine wpAnyZ_take (i := 16) (oi := { dst := some 91, op := _, type := _, pos := _, after := _, guard := _ }) (v := .slice (some ⟨b, 0, none⟩) k cM) rfl (by decide) (by kernel_rfl) (by kernel_rfl) (by kernel_rfl) (by kernel_rfl) (fun _ _ _ h => h) (Or.inl ⟨by rfl, fun wz hS => ?_⟩) x1 ?_
          · go_simp
          try simp only [Act.put, List.setIfInBounds_toArray, List.set_cons_zero, List.set_cons_succ]
          refine wpAnyZ_take (i := 17) (oi := { dst := some 92, op := _, type := _, pos := _, after := _, guard := _ }) (v := .int .i64 ((k : Nat) : Int)) rfl (by decide) (by kernel_rfl) (by kernel_rfl) (by kernel_rfl) (by kernel_rfl) (fun _ _ _ h => h) (Or.inl ⟨by rfl, fun wz hS => ?_⟩) x1 ?_
          · go_simp
          try simp only [Act.put, List.setIfInBounds_toArray, List.set_cons_zero, List.set_cons_succ]
          refine wpAnyZ_take (i := 18) (oi := { dst := some 93, op := _, type := _, pos := _, after := _, guard := _ }) (v := .slice (some ⟨b, k * 2, none⟩) 0 (cM - k)) rfl (by decide) (by kernel_rfl) (by kernel_rfl) (by kernel_rfl) (by kernel_rfl) (fun _ _ _ h => h) (Or.inl ⟨by rfl, fun wz hS => ?_⟩) x1 ?_
          · go_simp
            all_goals omega
          try simp only [Act.put, List.setIfInBounds_toArray, List.set_cons_zero, List.set_cons_succ]
          refine wpAnyZ_two (j := 7) (k := 11) (o := { dst := some 82, op := _, type := _, pos := _, after := _, guard := none }) (o' := { dst := some 86, op := _, type := _, pos := _, after := _, guard := none }) rfl rfl (by kernel_rfl) (by decide) (by decide) ?_ ?_
          · intro K1 hK1
            have o0 : w1.drew.ownsRow w1.heap.size 107 2 (.slice none 0 0) 0 [] := ⟨rfl, .inl ⟨rfl, rfl⟩⟩
            with_reducible refine step_append_imgs ?_ (.const (.slice none 0 0)) (.tmp 81) ?_ w1.heap.size (.slice none 0 0) 0 [] ?_ (some ⟨b, 0, none⟩) k cM ?_ o0 (vs.take (k * 2)) (by rw [List.length_take]; omega) (fun j u hj => ⟨_, rfl, HCV.out j u (by rw [List.getElem?_take] at hj; split at hj; exact hj; cases hj)⟩) (fun u hu => HONE.out u (List.mem_of_mem_take hu)) (by omega) (Nat.le_refl _) ?_
            · rfl
            · rfl
            · rfl
            · rfl
            intro A6 c6 w6 hown6 hgr6 hl6
            generalize hk6 : 0 + k = k6 at hown6 hl6 ⊢
            have HK6 := Lib.hid hk6
            clear hk6
            have hb6 : Below w1.heap.size w1 w6 := ((Below.refl w1.heap.size w1).drew).grown hgr6 (Nat.le_refl _) (fun k hk => by cases hk)
            have y6 : w6.cell? ⟨xr, 1, none⟩ = some (.slice (some ⟨b, 0, none⟩) k cM) := (hb6.cell (p := ⟨xr, 1, none⟩) hxl1).trans m1
            refine hK1 _ _ y6 ?_
            clear hK1 K1
            try simp only [Act.put, List.setIfInBounds_toArray, List.set_cons_zero, List.set_cons_succ]
            refine wpAnyZ_one (j := 11) (o := { dst := some 86, op := _, type := _, pos := _, after := _, guard := none }) rfl (by kernel_rfl) (by decide) ?_
            intro K1 hK1
            rw [if_pos (by rfl)]
            go_simp
            have hW : Below w1.heap.size w1 (w6.alloc (.cells #[.int .i64 i, .slice (some ⟨g1, 0, none⟩) 240 cap1] 107)) := hb6.alloc hb6.size _
            have yW : (w6.alloc (.cells #[.int .i64 i, .slice (some ⟨g1, 0, none⟩) 240 cap1] 107)).cell? ⟨xr, 1, none⟩ = some (.slice (some ⟨b, 0, none⟩) k cM) := (hW.cell (p := ⟨xr, 1, none⟩) hxl1).trans m1
            have hlit : (w6.alloc (.cells #[.int .i64 i, .slice (some ⟨g1, 0, none⟩) 240 cap1] 107)).heap[w6.heap.size]? = some (.cells #[.int .i64 i, .slice (some ⟨g1, 0, none⟩) 240 cap1] 107 (0, 0)) := heap_alloc_new _ _
            have hgl := hb6.size
            have hownW := hown6.alloc (.cells #[.int .i64 i, .slice (some ⟨g1, 0, none⟩) 240 cap1] 107)
            refine hK1 _ _ yW ?_
            clear hK1 K1 hown6 hgr6 hl6 hb6 y6
            generalize w6.alloc (.cells #[.int .i64 i, .slice (some ⟨g1, 0, none⟩) 240 cap1] 107) = W at hW yW hlit hownW ⊢
            generalize w6.heap.size = gl at hlit hgl ⊢
            try simp only [Act.put, List.setIfInBounds_toArray, List.set_cons_zero, List.set_cons_succ]
            have hone2 : ∀ u ∈ [Value.int .i64 i, .slice (some ⟨g1, 0, none⟩) 240 cap1], u.oneCell' = true := fun u hu => by simp at hu; rcases hu with rfl | rfl <;> rfl
            refine wpAnyZ_one (j := 12) (o := { dst := some 87, op := _, type := _, pos := _, after := _, guard := none }) rfl (by kernel_rfl) (by decide) ?_
            intro K1 hK1
            with_reducible refine step_append_imgs ?_ (.tmp 82) (.tmp 86) ?_ w1.heap.size (.slice A6 k6 c6) k6 _ ?_ (some ⟨gl, 0, none⟩) 1 1 ?_ hownW [.int .i64 i, .slice (some ⟨g1, 0, none⟩) 240 cap1] rfl (fun j u hj => ⟨_, rfl, World.news_of_block hlit j u hj⟩) hone2 (by have := HK6.out; omega) hW.size ?_
            · rfl
            · rfl
            · rfl
            · rfl
            intro A7 c7 w7 hown7 hgr7 hl7
            generalize hk7 : k6 + 1 = k7 at hown7 hl7 ⊢
            have HK7 := Lib.hid hk7
            clear hk7
            have h7 : Below w1.heap.size w1 w7 := hW.grown hgr7 hW.size (fun k hk => (own_at hownW k hk).1)
            have y7 : w7.cell? ⟨xr, 1, none⟩ = some (.slice (some ⟨b, 0, none⟩) k cM) := (h7.cell (p := ⟨xr, 1, none⟩) hxl1).trans m1
            refine hK1 _ _ y7 ?_
            clear hK1 K1 hgr7 hl7 hlit hownW hW yW
            try simp only [Act.put, List.setIfInBounds_toArray, List.set_cons_zero, List.set_cons_succ]
            have HC7 := Lib.hid (fun j u (hj : vs[j]? = some u) => (h7.cell (p := (⟨b, 0, none⟩ : Addr).add j) (HBL.out j)).trans (HCV0.out j u hj))
            refine wpAnyZ_one (j := 19) (o := { dst := some 94, op := _, type := _, pos := _, after := _, guard := none }) rfl (by kernel_rfl) (by decide) ?_
            intro K1 hK1
            with_reducible refine step_append_imgs ?_ (.tmp 87) (.tmp 93) ?_ w1.heap.size (.slice A7 k7 c7) k7 _ ?_ (some ⟨b, k * 2, none⟩) 0 (cM - k) ?_ hown7 (vs.drop (k * 2)) (by rw [List.length_drop]; omega) (fun j u hj => by rw [List.getElem?_eq_none (by rw [List.length_drop]; omega)] at hj; simp at hj) (fun u hu => HONE.out u (List.mem_of_mem_drop hu)) (by have := HK6.out; have := HK7.out; omega) h7.size ?_
            · rfl
            · rfl
            · rfl
            · rfl
            intro A8 c8 w8 hown8 hgr8 hl8
            generalize hk8 : k7 + 0 = k8 at hown8 hl8 ⊢
            have HK8 := Lib.hid hk8
            clear hk8
            have h8 : Below w1.heap.size w1 w8 := h7.grown hgr8 h7.size (fun k hk => (own_at hown7 k hk).1)
            have y8 : w8.cell? ⟨xr, 1, none⟩ = some (.slice (some ⟨b, 0, none⟩) k cM) := (h8.cell (p := ⟨xr, 1, none⟩) hxl1).trans m1
            have f8 : w8.frozen? ⟨xr, 1, none⟩ = false := (h8.frozen (p := ⟨xr, 1, none⟩) hxl1).trans hxz
            refine hK1 _ _ y8 ?_
            clear hK1 K1 hgr8 hl8 hown7 h7 y7
            try simp only [Act.put, List.setIfInBounds_toArray, List.set_cons_zero, List.set_cons_succ]
            refine wpAnyZ_one (j := 20) (o := { dst := some 95, op := _, type := _, pos := _, after := _, guard := _ }) rfl (by kernel_rfl) (by decide) ?_
            intro K1 hK1
            rw [if_pos (by rfl)]
            go_simp
            refine hK1 _ _ y8 ?_
            clear hK1 K1
            try simp only [Act.put, List.setIfInBounds_toArray, List.set_cons_zero, List.set_cons_succ]
            refine wpAnyZ_one (j := 21) (o := { dst := some 96, op := _, type := _, pos := _, after := _, guard := _ }) rfl (by kernel_rfl) (by decide) ?_
            intro K1 hK1
            rw [if_pos (by rfl)]
            go_simp
            refine hK1 _ _ y8 ?_
            clear hK1 K1
            try simp only [Act.put, List.setIfInBounds_toArray, List.set_cons_zero, List.set_cons_succ]
            refine wpAnyZ_last (o := { dst := none, op := _, type := _, pos := _, after := _, guard := _ }) rfl (by kernel_rfl) ?_
            intro K1 hK1
            rw [if_pos (by rfl)]
            go_simp
            refine hK1 _ _ ?_
            clear hK1 K1
            refine wpAny_done (by kernel_rfl) ?_ _
            have HEND := Lib.hid (HH.out.insert (k := k) hZ hbase (by rw [HN.out]; omega) HSET.out HB1.out h8 ⟨g1, cap1, rfl, HG1.out.2.2.2, HG1.out.1, HG1.out.2.1, HG1.out.2.2.1⟩ (by rw [HN.out]; exact HROW0.out.1) HROW0.out.2 (v' := .slice A8 k8 c8) (by rw [show M.length + 1 = k8 by rw [HN.out]; have := HK6.out; have := HK7.out; have := HK8.out; omega]; simpa using hown8))
            clear hown8 h8 y8 f8
            go_wp2
            go_ret
            exact ⟨rfl, HEND.out⟩
          · intro K1 hK1
            rw [if_pos (by rfl)]
            go_simp
            have hW0 : Below w1.heap.size w1 (w1.alloc (.cells #[.int .i64 i, .slice (some ⟨g1, 0, none⟩) 240 cap1] 107)).drew := ((Below.refl w1.heap.size w1).alloc (Nat.le_refl _) _).drew
            have yW0 : (w1.alloc (.cells #[.int .i64 i, .slice (some ⟨g1, 0, none⟩) 240 cap1] 107)).drew.cell? ⟨xr, 1, none⟩ = some (.slice (some ⟨b, 0, none⟩) k cM) := (hW0.cell (p := ⟨xr, 1, none⟩) hxl1).trans m1
            have hlit0 : (w1.alloc (.cells #[.int .i64 i, .slice (some ⟨g1, 0, none⟩) 240 cap1] 107)).drew.heap[w1.heap.size]? = some (.cells #[.int .i64 i, .slice (some ⟨g1, 0, none⟩) 240 cap1] 107 (0, 0)) := heap_alloc_new w1 _
            have hsW0 : (w1.alloc (.cells #[.int .i64 i, .slice (some ⟨g1, 0, none⟩) 240 cap1] 107)).drew.heap.size = w1.heap.size + 1 := by show (w1.alloc _).heap.size = _; simp
            have HCW := Lib.hid (fun j u (hj : vs[j]? = some u) => (hW0.cell (p := (⟨b, 0, none⟩ : Addr).add j) (HBL.out j)).trans (HCV0.out j u hj))
            refine hK1 _ _ yW0 ?_
            clear hK1 K1
            try simp only [Act.put, List.setIfInBounds_toArray, List.set_cons_zero, List.set_cons_succ]
            refine wpAnyZ_one (j := 7) (o := { dst := some 82, op := _, type := _, pos := _, after := _, guard := none }) rfl (by kernel_rfl) (by decide) ?_
            intro K1 hK1
            have o0 : (w1.alloc (.cells #[.int .i64 i, .slice (some ⟨g1, 0, none⟩) 240 cap1] 107)).drew.ownsRow w1.heap.size 107 2 (.slice none 0 0) 0 [] := ⟨rfl, .inl ⟨rfl, rfl⟩⟩
            with_reducible refine step_append_imgs ?_ (.const (.slice none 0 0)) (.tmp 81) ?_ w1.heap.size (.slice none 0 0) 0 [] ?_ (some ⟨b, 0, none⟩) k cM ?_ o0 (vs.take (k * 2)) (by rw [List.length_take]; omega) (fun j u hj => ⟨_, rfl, HCW.out j u (by rw [List.getElem?_take] at hj; split at hj; exact hj; cases hj)⟩) (fun u hu => HONE.out u (List.mem_of_mem_take hu)) (by omega) (by simp) ?_
            · rfl
            · rfl
            · rfl
            · rfl
            intro A6 c6 w6 hown6 hgr6 hl6
            generalize hk6 : 0 + k = k6 at hown6 hl6 ⊢
            have HK6 := Lib.hid hk6
            clear hk6
            have hW : Below w1.heap.size w1 w6 := hW0.grown hgr6 (by rw [hsW0]; omega) (fun k hk => by cases hk)
            have yW : w6.cell? ⟨xr, 1, none⟩ = some (.slice (some ⟨b, 0, none⟩) k cM) := (hW.cell (p := ⟨xr, 1, none⟩) hxl1).trans m1
            have hlit : w6.heap[w1.heap.size]? = some (.cells #[.int .i64 i, .slice (some ⟨g1, 0, none⟩) 240 cap1] 107 (0, 0)) := (hgr6.block _ (by rw [hsW0]; omega) (fun e => by cases e)).trans hlit0
            have hgl : w1.heap.size ≤ w1.heap.size := Nat.le_refl _
            have hownW := hown6
            refine hK1 _ _ yW ?_
            rw [Array.setIfInBounds_comm _ _ (show (11 : Nat) ≠ 7 by decide)]
            clear hK1 K1 hown6 hgr6 hl6 hW0 yW0 hlit0 hsW0
            generalize w6 = W at hW yW hlit hownW ⊢
            generalize hgg : w1.heap.size = gl at hlit hgl
            try simp only [Act.put, List.setIfInBounds_toArray, List.set_cons_zero, List.set_cons_succ]
            have hone2 : ∀ u ∈ [Value.int .i64 i, .slice (some ⟨g1, 0, none⟩) 240 cap1], u.oneCell' = true := fun u hu => by simp at hu; rcases hu with rfl | rfl <;> rfl
            refine wpAnyZ_one (j := 12) (o := { dst := some 87, op := _, type := _, pos := _, after := _, guard := none }) rfl (by kernel_rfl) (by decide) ?_
            intro K1 hK1
            with_reducible refine step_append_imgs ?_ (.tmp 82) (.tmp 86) ?_ w1.heap.size (.slice A6 k6 c6) k6 _ ?_ (some ⟨gl, 0, none⟩) 1 1 ?_ hownW [.int .i64 i, .slice (some ⟨g1, 0, none⟩) 240 cap1] rfl (fun j u hj => ⟨_, rfl, World.news_of_block hlit j u hj⟩) hone2 (by have := HK6.out; omega) hW.size ?_
            · rfl
            · rfl
            · rfl
            · rfl
            intro A7 c7 w7 hown7 hgr7 hl7
            generalize hk7 : k6 + 1 = k7 at hown7 hl7 ⊢
            have HK7 := Lib.hid hk7
            clear hk7
            have h7 : Below w1.heap.size w1 w7 := hW.grown hgr7 hW.size (fun k hk => (own_at hownW k hk).1)
            have y7 : w7.cell? ⟨xr, 1, none⟩ = some (.slice (some ⟨b, 0, none⟩) k cM) := (h7.cell (p := ⟨xr, 1, none⟩) hxl1).trans m1
            refine hK1 _ _ y7 ?_
            clear hK1 K1 hgr7 hl7 hlit hownW hW yW
            try simp only [Act.put, List.setIfInBounds_toArray, List.set_cons_zero, List.set_cons_succ]
            have HC7 := Lib.hid (fun j u (hj : vs[j]? = some u) => (h7.cell (p := (⟨b, 0, none⟩ : Addr).add j) (HBL.out j)).trans (HCV0.out j u hj))
            refine wpAnyZ_one (j := 19) (o := { dst := some 94, op := _, type := _, pos := _, after := _, guard := none }) rfl (by kernel_rfl) (by decide) ?_
            intro K1 hK1
            with_reducible refine step_append_imgs ?_ (.tmp 87) (.tmp 93) ?_ w1.heap.size (.slice A7 k7 c7) k7 _ ?_ (some ⟨b, k * 2, none⟩) 0 (cM - k) ?_ hown7 (vs.drop (k * 2)) (by rw [List.length_drop]; omega) (fun j u hj => by rw [List.getElem?_eq_none (by rw [List.length_drop]; omega)] at hj; simp at hj) (fun u hu => HONE.out u (List.mem_of_mem_drop hu)) (by have := HK6.out; have := HK7.out; omega) h7.size ?_
            · rfl
            · rfl
            · rfl
            · rfl
            intro A8 c8 w8 hown8 hgr8 hl8
            generalize hk8 : k7 + 0 = k8 at hown8 hl8 ⊢
            have HK8 := Lib.hid hk8
            clear hk8
            have h8 : Below w1.heap.size w1 w8 := h7.grown hgr8 h7.size (fun k hk => (own_at hown7 k hk).1)
            have y8 : w8.cell? ⟨xr, 1, none⟩ = some (.slice (some ⟨b, 0, none⟩) k cM) := (h8.cell (p := ⟨xr, 1, none⟩) hxl1).trans m1
            have f8 : w8.frozen? ⟨xr, 1, none⟩ = false := (h8.frozen (p := ⟨xr, 1, none⟩) hxl1).trans hxz
            refine hK1 _ _ y8 ?_
            clear hK1 K1 hgr8 hl8 hown7 h7 y7
            try simp only [Act.put, List.setIfInBounds_toArray, List.set_cons_zero, List.set_cons_succ]
            refine wpAnyZ_one (j := 20) (o := { dst := some 95, op := _, type := _, pos := _, after := _, guard := _ }) rfl (by kernel_rfl) (by decide) ?_
            intro K1 hK1
            rw [if_pos (by rfl)]
            go_simp
            refine hK1 _ _ y8 ?_
            clear hK1 K1
            try simp only [Act.put, List.setIfInBounds_toArray, List.set_cons_zero, List.set_cons_succ]
            refine wpAnyZ_one (j := 21) (o := { dst := some 96, op := _, type := _, pos := _, after := _, guard := _ }) rfl (by kernel_rfl) (by decide) ?_
            intro K1 hK1
            rw [if_pos (by rfl)]
            go_simp
            refine hK1 _ _ y8 ?_
            clear hK1 K1
            try simp only [Act.put, List.setIfInBounds_toArray, List.set_cons_zero, List.set_cons_succ]
            refine wpAnyZ_last (o := { dst := none, op := _, type := _, pos := _, after := _, guard := _ }) rfl (by kernel_rfl) ?_
            intro K1 hK1
            rw [if_pos (by rfl)]
            go_simp
            refine hK1 _ _ ?_
            clear hK1 K1
            refine wpAny_done (by kernel_rfl) ?_ _
            have HEND := Lib.hid (HH.out.insert (k := k) hZ hbase (by rw [HN.out]; omega) HSET.out HB1.out h8 ⟨g1, cap1, rfl, HG1.out.2.2.2, HG1.out.1, HG1.out.2.1, HG1.out.2.2.1⟩ (by rw [HN.out]; exact HROW0.out.1) HROW0.out.2 (v' := .slice A8 k8 c8) (by rw [show M.length + 1 = k8 by rw [HN.out]; have := HK6.out; have := HK7.out; have := HK8.out; omega]; simpa using hown8))
            clear hown8 h8 y8 f8
            go_wp2
            go_ret
            exact ⟨rfl, HEND.out⟩
end

end Go.Proofs.YtkpmfobmlaldfaaDoor

/-
  Contract of the plain dir's Set: over the plain pager. Condition: a page that is loaded has 240 bytes.
-/
namespace Go.Proofs.YtkpmfobmlaldfaaDoor
open Go.RowKit
set_option maxRecDepth 100000
set_option linter.unusedVariables false

section
variable {w w' : World} {G Z : Nat → Prop} {xa : Addr} {T : DS} {q' xr base : Nat} {t : Int} {v : Value} {M : List (Int × List Int)}

theorem RpDone.of_below (h : RPg w G Z base xa T q' t xr v M) (hb : Below w.heap.size w w') : RpDone w G Z base xa T q' t xr v M w' := ⟨G, v, h.below hb, ⟨hb.os, hb.tape, hb.output, hb.size, fun k hk _ => hb.block k hk⟩, fun k hk => .inl hk⟩
theorem RpDone.behind {w1 : World} {T' : DS} {t' : Int} {M' : List (Int × List Int)} (hb : Below w.heap.size w w1) (h : RpDone w1 G Z base xa T' q' t' xr v M' w') : RpDone w G Z base xa T' q' t' xr v M' w' := by
  obtain ⟨G', v', h1, h2, h3⟩ := h
  exact ⟨G', v', h1, ⟨h2.os.trans hb.os, h2.tape.trans hb.tape, h2.output.trans hb.output, Nat.le_trans hb.size h2.size, fun k hk hn => (h2.block k (Nat.lt_of_lt_of_le hk hb.size) hn).trans (hb.block k hk)⟩, fun k hk => (h3 k hk).imp id (fun a => Nat.le_trans hb.size a)⟩

set_option maxHeartbeats 6400000 in
theorem refDirSet_any (h : RPg w G Z base xa T q' t xr v M) (hZ : ∀ k, Z k → k < w.heap.size) (hbase : base ≤ w.heap.size) (hM : M.length ≤ 65536) (hall : ∀ y ∈ M, y.2.length = 240) (hlen : ∀ i, (getPg T M i).2 = 0 → (getPg T M i).1.length = 240) (d f n c : Int) {A : Option Addr} {k cap B : Nat} {l : List Int} (slot page : Int) (hpg : -9223372036854775808 ≤ page ∧ page ≤ 9223372036854775807) (hr : RI w B A k l) (hB : B ≤ w.heap.size) (hk : k ≤ cap) (hkm : k ≤ maxLen) :
    Calls Tryd.prog 8 #[.pointer (some ⟨xr, 0, none⟩), .agg #[.int .i64 d, .int .i64 f, .int .i64 n, .int .i64 c, .slice A k cap], .int .i64 slot, .int .i64 page] w fun e w' => e = .returned (.int .i64 (dirSetR T M d k l slot page).1) ∧ RpDone w G Z base xa T q' t xr v (dirSetR T M d k l slot page).2 w' := by
  have hX : Below w.heap.size w (w.alloc (.cells #[.int .i64 d, .int .i64 f, .int .i64 n, .int .i64 c, .slice A k cap] 24)) := (Below.refl _ _).alloc (Nat.le_refl _) _
  have HX := Lib.hid hX
  have HBX := Lib.hid (DBox.new w d f n c (.slice A k cap))
  obtain ⟨z0, z1, z2, z3, z4, hbxl⟩ := HBX.out.cells
  have HH := Lib.hid (refRight_dir d f n c A k cap slot (w.alloc (.cells #[.int .i64 d, .int .i64 f, .int .i64 n, .int .i64 c, .slice A k cap] 24)) hkm)
  have HPG := Lib.hid h
  have HR := Lib.hid hr
  have HLN := Lib.hid hlen
  have HMM := Lib.hid (And.intro hM hall)
  have HZB := Lib.hid (And.intro hZ hbase)
  clear h hr hlen hX hM hall hZ hbase
  unfold maxLen at hkm
  by_cases hok2 : okD d k slot = true ∧ (0 ≤ page ∧ page < 4294967296)
  case neg =>
    rw [dirSet_no hok2]
    cases hok : okD d k slot with
    | false =>
      rw [hok] at HH
      clear hok hok2
      go_enter Tryd.func8, Tryd.ntmps8
      go_wp2_with fail
      refine HH.out.mono ?_
      rintro e w1 ⟨rfl, hb1⟩
      have HE := Lib.hid (HX.out.trans (hb1.mono HX.out.size))
      clear hb1
      go_wp2
      go_ret
      exact ⟨rfl, RpDone.of_below HPG.out HE.out⟩
    | true =>
      rw [hok] at HH
      by_cases hp0 : page < 0
      · have k1 : decide (page < 0) = true := by simpa using hp0
        clear hok hok2 hp0
        go_enter Tryd.func8, Tryd.ntmps8
        go_wp2_with fail
        refine HH.out.mono ?_
        rintro e w1 ⟨rfl, hb1⟩
        have HE := Lib.hid (HX.out.trans (hb1.mono HX.out.size))
        clear hb1
        go_wp2
        go_ret
        exact ⟨rfl, RpDone.of_below HPG.out HE.out⟩
      · have k1 : decide (page < 0) = false := by simpa using hp0
        have k2 : decide (4294967296 ≤ page) = true := by
          have : ¬ (0 ≤ page ∧ page < 4294967296) := fun hh => hok2 ⟨hok, hh⟩
          simp
          omega
        clear hok hok2 hp0
        go_enter Tryd.func8, Tryd.ntmps8
        go_wp2_with fail
        refine HH.out.mono ?_
        rintro e w1 ⟨rfl, hb1⟩
        have HE := Lib.hid (HX.out.trans (hb1.mono HX.out.size))
        clear hb1
        go_wp2
        go_ret
        exact ⟨rfl, RpDone.of_below HPG.out HE.out⟩
  have hok := hok2.1
  rw [hok] at HH
  have k1 : decide (page < 0) = false := by have := hok2.2.1; simp; omega
  have k2 : decide (4294967296 ≤ page) = false := by have := hok2.2.2; simp; omega
  obtain ⟨a, tt, ha, htt, hak, ht60, hk18, hs0, hs1⟩ := okD_nat hok
  obtain ⟨bb, off, rfl, hbb, hcell⟩ := HR.out.2.2 (by omega)
  have hca := hcell a hak
  have hown : ownD l slot = l[a]?.getD 0 := by unfold ownD; rw [ha, Int.toNat_natCast]
  have hat : ((slot % 60).toNat * 4 : Nat) = tt * 4 := by rw [htt, Int.toNat_natCast]
  have hak' : (a : Int) < (k : Int) := by omega
  have hd60 : Int.tdiv slot 60 = (a : Int) := by rw [Int.tdiv_eq_ediv_of_nonneg hs0]; exact ha
  have hm60 : Int.tmod slot 60 = (tt : Int) := by rw [Int.tmod_eq_emod_of_nonneg hs0]; exact htt
  by_cases he : (getPg T M (ownD l slot)).2 = 0
  case neg =>
    rw [dirSet_err hok2 he]
    have HG := Lib.hid (fun w2 (hb : Below w.heap.size w w2) => rpget_any (HPG.out.below hb) HMM.out.1 HMM.out.2 (ownD l slot))
    generalize (getPg T M (ownD l slot)).2 = er at *
    generalize (getPg T M (ownD l slot)).1 = pg at *
    have k3 : (er != 0) = true := by simpa using he
    clear hok he hcell hat hok2
    rw [hown] at HG
    clear hown
    generalize l[a]?.getD 0 = own at *
    go_enter Tryd.func8, Tryd.ntmps8
    go_wp2_with fail
    refine HH.out.mono ?_
    rintro e w1 ⟨rfl, hb1⟩
    have HB1 := Lib.hid (HX.out.trans (hb1.mono HX.out.size))
    have hc1 := (HB1.out.cell (p := ⟨bb, off + a, none⟩) (Nat.lt_of_lt_of_le hbb hB)).trans hca
    obtain ⟨y0, y1, y2, y3, y4, _⟩ := (HBX.out.below hb1).cells
    clear hb1 z0 z1 z2 z3 z4
    go_wp2_with fail
    refine (HG.out w1 HB1.out).mono ?_
    rintro e w3 ⟨A3, n3, c3, rfl, hc3, hr3, hb3⟩
    have HB3 := Lib.hid (HB1.out.trans (hb3.mono HB1.out.size))
    clear hr3 hb3 hc3
    go_wp2
    go_ret
    exact ⟨rfl, RpDone.of_below HPG.out HB3.out⟩
  rw [dirSet_ok hok2 he, hat]
  have hl := HLN.out _ he
  have HG := Lib.hid (fun w2 (hb : Below w.heap.size w w2) => rpget_any (HPG.out.below hb) HMM.out.1 HMM.out.2 (ownD l slot))
  have HL := Lib.hid hl
  rw [he] at HG
  have hrb : rightB page 4 = true := (right4_iff page).trans (decide_eq_true hok2.2)
  clear hok he hl hcell hat hok2
  generalize (getPg T M (ownD l slot)).1 = pg at *
  rw [hown] at HG ⊢
  clear hown
  generalize l[a]?.getD 0 = own at *
  obtain ⟨at4, hat4⟩ : ∃ at4, at4 = tt * 4 := ⟨_, rfl⟩
  obtain ⟨a5, ha5⟩ : ∃ a5, a5 = at4 + 4 := ⟨_, rfl⟩
  have ht4 : (tt : Int) * 4 = (at4 : Int) := by omega
  have hat236 : at4 ≤ 236 := by omega
  have ha45 : (at4 : Int) + 4 = (a5 : Int) := by omega
  have ha240 : a5 ≤ 240 := by omega
  have hat240 : at4 ≤ 240 := by omega
  rw [← hat4]
  have HPR := Lib.hid (show putR (pg.take at4) page 4 ++ pg.drop a5 = splice pg at4 (putB page 4) from by
    unfold putR splice
    rw [if_pos hrb, putB_length, ha5, List.append_assoc]
    rfl)
  have HPL := Lib.hid (show (putR (pg.take at4) page 4).length = at4 + 4 from by
    unfold putR
    rw [if_pos hrb, List.length_append, List.length_take, HL.out, show (4 : Int).toNat = 4 from rfl, putB_length]
    omega)
  have H5 := Lib.hid ha5
  clear hat4 ha5 hrb
  generalize splice pg at4 (putB page 4) = npg at *
  go_enter Tryd.func8, Tryd.ntmps8
  go_wp2_with fail
  refine HH.out.mono ?_
  rintro e w1 ⟨rfl, hb1⟩
  have HB1 := Lib.hid (HX.out.trans (hb1.mono HX.out.size))
  have hc1 := (HB1.out.cell (p := ⟨bb, off + a, none⟩) (Nat.lt_of_lt_of_le hbb hB)).trans hca
  have HBX1 := Lib.hid (HBX.out.below hb1)
  obtain ⟨y0, y1, y2, y3, y4, hyl⟩ := HBX1.out.cells
  clear hb1 z0 z1 z2 z3 z4
  go_wp2_with fail
  refine (HG.out w1 HB1.out).mono ?_
  rintro e w3 ⟨A3, n3, c3, rfl, hc3, hr3, hb3⟩
  have HB3 := Lib.hid (HB1.out.trans (hb3.mono HB1.out.size))
  obtain rfl : n3 = 240 := by rw [← hr3.len]; exact HL.out
  obtain ⟨ab, ao, rfl, hab, hcl3⟩ := hr3.at_ (by decide)
  have HBX3 := Lib.hid (HBX1.out.below hb3)
  have hr1 : RB w3.drew w3.heap.size (some ⟨ab, ao, none⟩) at4 (pg.take at4) := RB.drew ⟨by rw [List.length_take, HL.out]; omega, hr3.bytes.take _, fun _ => ⟨ab, ao, rfl, hab, fun j hj => by rw [hcl3 j (by omega), List.getElem?_take, if_pos hj]⟩⟩
  have hby3 := hr3.bytes
  have HBYT := Lib.hid (hr3.bytes.take at4)
  have hI1 : (0 : Int) ≤ (at4 : Int) := by omega
  have hI2 : (at4 : Int) ≤ (c3 : Int) := by omega
  have hI3 : (0 : Int) ≤ (a5 : Int) := by omega
  have hI4 : (a5 : Int) ≤ 240 := by omega
  have o0 : w3.drew.ownsRow w3.heap.size 5 1 (.slice none 0 0) 0 (([] : List Int).map (Value.int .u8)) := ⟨rfl, .inl ⟨rfl, rfl⟩⟩
  by_cases hce : c3 = a5
  · obtain rfl : a5 = 240 := by omega
    subst hce
    have q1 : IntKind.i64.wrap ((at4 : Int) + 4) = 240 := by rw [IntKind.wrap_i64]; omega
    have q3 : (at4 : Int) ≤ 240 := by omega
    clear ha45 hI2 hI4 hI3 ha240
    have hr2 : RB w3 w3.heap.size (some ⟨ab, ao, none⟩) 0 (pg.drop 240) := by rw [List.drop_of_length_le (by rw [HL.out]; exact Nat.le_refl _)]; exact RB.nil_
    clear hr3 hcl3 hc3
    have tok1 : True := trivial
    have hdz : w3.heap.size ≤ w3.drew.heap.size := Nat.le_refl _
    clear y0 y1 y2 y3 y4
    go_wp2_with fail
    go_region_held3 (fun w' => True) (exact trivial)
      (first
        | (have _t := tok1; with_reducible refine step_append_bytes2 ?_ (.const (.slice none 0 0)) (.tmp 44) ?_ w3.heap.size (.slice none 0 0) 0 [] ?_ o0 w3.heap.size (some ⟨ab, ao, none⟩) at4 240 (pg.take at4) ?_ hr1 ?_ ?_ ?_; rfl; rfl; first | rfl | go_simp; first | rfl | go_simp; omega; exact hdz; clear tok1; intro v5 w5 o5 b5; have o5 := own_relen (k := at4) o5 (by rw [List.nil_append, List.length_map]; exact hr1.len); rw [List.nil_append] at o5; obtain ⟨A5, c5, hv5, hc5, hr5⟩ := read_own o5 HBYT.out; subst hv5)
        | (go_at_call 29; refine (refPut_own A5 at4 c5 _ (pg.take at4) page 4 _ hr5 (Nat.le_refl _) (by omega) hpg.1 hpg.2).mono ?_; rintro e w6 ⟨v6, rfl, hown6, hb6⟩; have hs5 := b5.size; have hb36 : Below w3.heap.size w3 w6 := ((Below.refl w3.heap.size w3).drew.trans b5).trans (hb6.mono hs5); have hr26 := hr2.below hb36; have tok3 : True := trivial)
        | (have _t := tok3; with_reducible refine step_append_bytes2 ?_ (.tmp 47) (.tmp 51) ?_ w5.heap.size v6 (putR (pg.take at4) page 4).length (putR (pg.take at4) page 4) ?_ hown6 w3.heap.size (some ⟨ab, ao, none⟩) 0 0 (pg.drop 240) ?_ hr26 ?_ ?_ ?_; rfl; rfl; first | rfl | go_simp; first | rfl | go_simp; (rw [HPL.out]; omega); exact hb6.size; clear tok3; intro v7 w7 o7 b7))
    rw [HPR.out] at o7
    have hb37 : Below w3.heap.size w3 w7 := hb36.trans (b7.mono hs5)
    have hnl : npg.length = 240 := by rw [← HPR.out, List.length_append, HPL.out, List.length_drop, HL.out]; have := H5.out; omega
    have hnb : AllBytes npg := by rw [← HPR.out]; exact (putR_bytes HBYT.out _ _).append (hby3.drop _)
    have o7 := own_relen (k := 240) o7 (by rw [List.length_map]; exact hnl)
    obtain ⟨A7, c7, hv7, hc7, hr7⟩ := read_own o7 hnb
    subst hv7
    have HB7 := Lib.hid (HB3.out.trans (hb37.mono HB3.out.size))
    have hc17 := (HB7.out.cell (p := ⟨bb, off + a, none⟩) (Nat.lt_of_lt_of_le hbb hB)).trans hca
    obtain ⟨y0, y1, y2, y3, y4, _⟩ := (HBX3.out.below hb37).cells
    have HS := Lib.hid (rpset_any (c := c7) (HPG.out.below HB7.out) (fun k hk => Nat.lt_of_lt_of_le (HZB.out.1 k hk) HB7.out.size) (Nat.le_trans HZB.out.2 HB7.out.size) HMM.out.1 own hr7 (Nat.le_refl _) (by decide))
    clear o5 b5 hown6 hb6 hb36 hr26 o7 b7 hb37 hnl hnb hr7 hc7 hr1 hr2 o0 hby3 hr5 hc5 hs5 hc1 hb3
    go_wp2_with fail
    refine HS.out.mono ?_
    rintro e w8 ⟨rfl, h8⟩
    have HE := Lib.hid (h8.behind HB7.out)
    clear h8 HS
    go_wp2
    go_ret
    exact ⟨rfl, HE.out⟩
  · have q1 : IntKind.i64.wrap ((at4 : Int) + 4) = (a5 : Int) := by rw [IntKind.wrap_i64]; omega
    have q2 : at4 ≤ c3 := by omega
    have q3 : a5 ≤ c3 := by omega
    have q4 : (a5 : Int) ≤ (c3 : Int) := by omega
    clear ha45
    have hr2 : RB w3 w3.heap.size (some ⟨ab, ao + a5, none⟩) (240 - a5) (pg.drop a5) := hr3.cut hcl3 a5 (by omega) hab
    clear hr3 hcl3 hc3
    have tok1 : True := trivial
    have hdz : w3.heap.size ≤ w3.drew.heap.size := Nat.le_refl _
    clear y0 y1 y2 y3 y4
    go_wp2_with fail
    go_region_held3 (fun w' => True) (exact trivial)
      (first
        | (have _t := tok1; with_reducible refine step_append_bytes2 ?_ (.const (.slice none 0 0)) (.tmp 44) ?_ w3.heap.size (.slice none 0 0) 0 [] ?_ o0 w3.heap.size (some ⟨ab, ao, none⟩) at4 c3 (pg.take at4) ?_ hr1 ?_ ?_ ?_; rfl; rfl; first | rfl | go_simp; first | rfl | go_simp; omega; exact hdz; clear tok1; intro v5 w5 o5 b5; have o5 := own_relen (k := at4) o5 (by rw [List.nil_append, List.length_map]; exact hr1.len); rw [List.nil_append] at o5; obtain ⟨A5, c5, hv5, hc5, hr5⟩ := read_own o5 HBYT.out; subst hv5)
        | (go_at_call 29; refine (refPut_own A5 at4 c5 _ (pg.take at4) page 4 _ hr5 (Nat.le_refl _) (by omega) hpg.1 hpg.2).mono ?_; rintro e w6 ⟨v6, rfl, hown6, hb6⟩; have hs5 := b5.size; have hb36 : Below w3.heap.size w3 w6 := ((Below.refl w3.heap.size w3).drew.trans b5).trans (hb6.mono hs5); have hr26 := hr2.below hb36; have tok3 : True := trivial)
        | (have _t := tok3; with_reducible refine step_append_bytes2 ?_ (.tmp 47) (.tmp 51) ?_ w5.heap.size v6 (putR (pg.take at4) page 4).length (putR (pg.take at4) page 4) ?_ hown6 w3.heap.size (some ⟨ab, ao + a5, none⟩) (240 - a5) (c3 - a5) (pg.drop a5) ?_ hr26 ?_ ?_ ?_; rfl; rfl; first | rfl | go_simp; first | rfl | go_simp; (rw [HPL.out]; omega); exact hb6.size; clear tok3; intro v7 w7 o7 b7))
    rw [HPR.out] at o7
    have hb37 : Below w3.heap.size w3 w7 := hb36.trans (b7.mono hs5)
    have hnl : npg.length = 240 := by rw [← HPR.out, List.length_append, HPL.out, List.length_drop, HL.out]; have := H5.out; omega
    have hnb : AllBytes npg := by rw [← HPR.out]; exact (putR_bytes HBYT.out _ _).append (hby3.drop _)
    have o7 := own_relen (k := 240) o7 (by rw [List.length_map]; exact hnl)
    obtain ⟨A7, c7, hv7, hc7, hr7⟩ := read_own o7 hnb
    subst hv7
    have HB7 := Lib.hid (HB3.out.trans (hb37.mono HB3.out.size))
    have hc17 := (HB7.out.cell (p := ⟨bb, off + a, none⟩) (Nat.lt_of_lt_of_le hbb hB)).trans hca
    obtain ⟨y0, y1, y2, y3, y4, _⟩ := (HBX3.out.below hb37).cells
    have HS := Lib.hid (rpset_any (c := c7) (HPG.out.below HB7.out) (fun k hk => Nat.lt_of_lt_of_le (HZB.out.1 k hk) HB7.out.size) (Nat.le_trans HZB.out.2 HB7.out.size) HMM.out.1 own hr7 (Nat.le_refl _) (by decide))
    clear o5 b5 hown6 hb6 hb36 hr26 o7 b7 hb37 hnl hnb hr7 hc7 hr1 hr2 o0 hby3 hr5 hc5 hs5 hc1 hb3
    go_wp2_with fail
    refine HS.out.mono ?_
    rintro e w8 ⟨rfl, h8⟩
    have HE := Lib.hid (h8.behind HB7.out)
    clear h8 HS
    go_wp2
    go_ret
    exact ⟨rfl, HE.out⟩
end
end Go.Proofs.YtkpmfobmlaldfaaDoor

/-
  Nothing here: this seat's roots reach no page of one byte.
-/
namespace Go.Proofs.YtkpmfobmlaldfaaDoor
end Go.Proofs.YtkpmfobmlaldfaaDoor

/-
  The statement package's own check over the program's pager: it returns true. Condition: the table that crc.Step reads holds what the program's text lays in it.
-/
namespace Go.Proofs.YtkpmfobmlaldfaaDoor
open Go.RowKit
set_option maxRecDepth 100000
set_option linter.unusedVariables false

/-- The one image of the check. -/
def awI : List (Int × List Int) := [(1, reps 240 7)]
theorem awI_imgs : Imgs 9 1 awI := by
  have hp : pagesOf 9 = 4 := by decide
  refine ⟨fun x hx => ?_, fun x hx => ?_, by decide, by rw [hp]; decide, by decide, by decide⟩
  · rw [hp]
    obtain rfl := List.mem_singleton.1 hx
    exact ⟨by decide, by decide, reps_length _ _⟩
  · obtain rfl := List.mem_singleton.1 hx
    exact reps_bytes _ (by decide)
theorem awI_end {S : DS} (hF : Free S) (hn : S.n = 9) (hw : S.writes = 1) (hR : Rests S fresh1) : (commitS S 1 awI).1 = 0 ∧ (commitS S 1 awI).2.1 = 2 ∧ (commitS S 1 awI).2.2.n = 9 ∧ loadS (commitS S 1 awI).2.2 1 = (reps 240 7, 0) := by
  obtain ⟨h1, h2, h3, h4, h5, h6⟩ := free_commit (n := 9) (by rw [hn]; rfl) (by decide) awI_imgs (by decide) hF hR
  refine ⟨h1, h2, by rw [h4, hn], ?_⟩
  rw [load_rests (n := 9) (by rw [h4, hn]; rfl) h6 (by decide)]
  rw [(pages_marked awI_imgs).1 (1, reps 240 7) (List.mem_cons_self ..)]
theorem set_one {S : DS} {l : List Int} (hn : S.n = 9) (hl : l.length = 240) : setPgE S 1 l = 0 ∧ setPg S [] 1 l = [(1, l)] := by
  have hP : S.P = 4 := by unfold DS.P; rw [hn]; decide
  unfold setPgE setPg
  rw [if_neg (by rw [hP, hl]; decide), if_neg (by rw [hP, hl]; decide)]
  exact ⟨rfl, rfl⟩
theorem S0_facts {n : Nat} (hn : 3 ≤ n ∧ n ≤ 65536) : Free (S0 n) ∧ (S0 n).n = n ∧ (S0 n).writes = 1 ∧ Rests (S0 n) fresh1 := by
  obtain ⟨r1, r2, r3, r4, r5, r6, r7⟩ := fresh_log (m := n) hn
  exact ⟨r4, r5, r6, r7⟩

section
variable {D : World → (Nat → Prop) → Addr → DS → Prop} {w0 w w' : World} {F O : Nat → Prop} {p : Addr} {S : DS} {q r b : Nat} {s : Int} {L : List (Int × List Int)}

/-! ### a law's own pager, call by call -/
theorem lset (api : DiskApi D) (h : LawP D w0 w F O p S q s r b L) (i : Int) {A : Option Addr} {n c B : Nat} {l : List Int} (hi : -9223372036854775808 ≤ i ∧ i ≤ 9223372036854775807) (hr : RB w B A n l) (hB : B ≤ w.heap.size) (hn : n ≤ maxLen) :
    Calls Tryd.prog 26 #[.pointer (some ⟨r, 0, none⟩), .int .i64 i, .slice A n c] w fun e w' => e = .returned (.int .i64 (setPgE S i l)) ∧ ∃ O', LawP D w0 w' F O' p S q s r b (setPg S L i l) ∧ Touch O w w' ∧ ∀ k, O' k → O k ∨ w.heap.size ≤ k := by
  refine (pset_any (c := c) api h.pg i hi hr hB hn).mono ?_
  rintro e w' ⟨rfl, O', hp, ht, hO⟩
  exact ⟨rfl, O', h.next hp ht hO, ht, hO⟩
theorem lget (api : DiskApi D) (h : LawP D w0 w F O p S q s r b L) (i : Int) (hi : -9223372036854775808 ≤ i ∧ i ≤ 9223372036854775807) : Calls Tryd.prog 24 #[.pointer (some ⟨r, 0, none⟩), .int .i64 i] w fun e w' => ∃ A n c, e = .returned (.tuple #[.slice A n c, .int .i64 (getPg S L i).2]) ∧ n ≤ c ∧ RB w' w'.heap.size A n (getPg S L i).1 ∧ LawP D w0 w' F O p S q s r b L ∧ Below w.heap.size w w' := by
  refine (pget_any api h.pg h.tabF i hi).mono ?_
  rintro e w' ⟨A, n, c, rfl, hc, hr, hb⟩
  exact ⟨A, n, c, rfl, hc, hr, h.later api hb, hb⟩
/-- A block of cells is not the map. -/
theorem LawP.not_map (h : LawP D w0 w F O p S q s r b L) {a : Addr} {v : Value} (hc : w.cell? a = some v) : a.block ≠ b := fun e => by
  obtain ⟨f, hf, _⟩ := h.pg.set
  obtain ⟨es, c, hb⟩ := hf.block
  have : w.heap[a.block]? = some (.map es c) := by rw [e]; exact hb
  unfold World.cell? at hc
  rw [this] at hc
  simp at hc
end

end Go.Proofs.YtkpmfobmlaldfaaDoor

/-
  The directory laws' own pagers, and what their pages are; what Set and Get of the directory do at both. Condition: the table that crc.Step reads holds what the program's text lays in it when the law begins.
-/
namespace Go.Proofs.YtkpmfobmlaldfaaDoor
open Go.RowKit
set_option maxRecDepth 100000
set_option linter.unusedVariables false

theorem nought_not : ¬ isSec nought := by decide +kernel
theorem page_fresh {n p : Int} (hp : 0 ≤ p) : pageIn n fresh1 p = zpage := by
  have hn := (pagesOf_nn n).1
  have e : fresh1 (p + 1 + pagesOf n).toNat = nought := by
    unfold fresh1 putF
    rw [if_neg (by omega)]
  unfold pageIn
  rw [e]
  have : (unpackR nought).2.2.2 = 4 := by unfold unpackR; rw [if_neg nought_not]
  rw [if_pos (.inl (by rw [this]; decide))]

section
variable {D : World → (Nat → Prop) → Addr → DS → Prop}
set_option maxHeartbeats 4000000 in
theorem fresh11_any (api : DiskApi D) (w : World) (ht : Tab w ∧ 0 < w.heap.size) :
    Calls Tryd.prog 5 #[] w fun e w' => ∃ r xr b q q' F O G p xa, e = .returned (.tuple #[.pointer (some ⟨r, 0, none⟩), .pointer (some ⟨xr, 0, none⟩)]) ∧ TwoPg D w w' F O G p xa (S0 61) (S0 61) q q' 1 1 r b xr (.slice none 0 0) [] [] := by
  obtain ⟨r1, r2, r3, r4, r5, r6, r7⟩ := fresh_log (m := 61) (by decide)
  have hfw := law_fresh_open (m := 61) (by decide)
  have hpg : 0 < pagesOf ((61 : Nat) : Int) := by decide
  have HN := Lib.hid (law_new api (w0 := w) (w := w) (n := (61 : Int)) (by omega) (by omega) ht (Below.refl _ _))
  rw [show (61 : Int).toNat = 61 from rfl] at HN
  go_enter Tryd.func5, Tryd.ntmps5
  go_wp2_with fail
  refine HN.out.mono ?_
  rintro e w1 ⟨p, F1, rfl, L1, _⟩
  have HFM := Lib.hid (law_format api L1 (show (DS.new 61).writes ≤ _ from Nat.zero_le _))
  rw [r1] at HFM
  clear L1 HN
  go_wp2_with fail
  refine HFM.out.mono ?_
  rintro e w2 ⟨rfl, F2, L2, _⟩
  have HO := Lib.hid (law_open_ok api L2 hfw r2)
  rw [r3] at HO
  clear L2 HFM
  go_wp2_with fail
  refine HO.out.mono ?_
  rintro e w3 ⟨q, F3, rfl, hq3, L3, _⟩
  have HNP := Lib.hid (pnew_any api L3.d L3.log L3.qF (by
    show 0 < pagesOf ((openS (markS (DS.new 61) 0 1).2).2.2.n : Int)
    rw [r5]
    exact hpg))
  have HL3 := Lib.hid L3
  clear L3 HO
  go_wp2_with fail
  refine HNP.out.mono ?_
  rintro e w4 ⟨r, b, rfl, hr4, hb4, P4, hbel4⟩
  have hlaw : LawP D w w4 F3 (pgO F3 q r b) p (S0 61) q 1 r b [] := by
    have hbs := HL3.out.bel.size
    refine ⟨P4, fun k hk => ?_, HL3.out.bel.trans (hbel4.mono hbs), ht⟩
    rcases hk with a | a | a | a
    · exact HL3.out.out k a
    · have := HL3.out.q0; omega
    · omega
    · omega
  have HLAW := Lib.hid hlaw
  have HNR := Lib.hid (refNew_any (61 : Int) w4 (by omega))
  rw [show (61 : Int).toNat = 61 from rfl] at HNR
  clear hlaw P4 HNP
  go_wp2_with fail
  refine HNR.out.mono ?_
  rintro e w5 ⟨xa, G5, rfl, hx5, hb5, hG5⟩
  have HR5 := Lib.hid (And.intro hx5 (And.intro hb5 hG5))
  have HFR := Lib.hid (refFormat_any hx5 (show (DS.new 61).writes ≤ _ from Nat.zero_le _))
  rw [r1] at HFR
  clear hx5 hb5 hG5 HNR
  go_wp2_with fail
  refine HFR.out.mono ?_
  rintro e w6 ⟨rfl, G6, r6', t6, n6⟩
  have HOR := Lib.hid (refOpen_any r6' hfw)
  have HK6 := Lib.hid (And.intro t6 n6)
  clear r6' t6 n6 HFR
  go_wp2_with fail
  refine HOR.out.mono ?_
  rintro e w7 (⟨h1, _⟩ | ⟨_, q', G7, rfl, hq', rl, rg, rr, t7, n7⟩)
  · exact absurd r2 h1
  rw [r3] at rl
  have hX : Below w7.heap.size w7 (w7.alloc (.cells #[.pointer (some ⟨q', 0, none⟩), .slice none 0 0] 63)) := (Below.refl _ _).alloc (Nat.le_refl _) _
  have hs5 := HR5.out.2.1.size
  have hs6 := HK6.out.1.size
  have hs7 := t7.size
  have hlow5 : ∀ k, G5 k → w4.heap.size ≤ k := HR5.out.2.2
  have hlow6 : ∀ k, G6 k → w4.heap.size ≤ k := fun k hk => by
    rcases HK6.out.2 k hk with a | a
    · exact hlow5 k a
    · omega
  have hlow7 : ∀ k, G7 k → w4.heap.size ≤ k := fun k hk => by
    rcases n7 k hk with a | a
    · exact hlow6 k a
    · omega
  have hb47 : Below w4.heap.size w4 w7 := (HR5.out.2.1.trans (HK6.out.1.below hlow5 hs5)).trans (t7.below hlow6 (by omega))
  have hw04 := HLAW.out.bel.size
  have hOlt := HLAW.out.pg.lt
  have hE : TwoPg D w (w7.alloc (.cells #[.pointer (some ⟨q', 0, none⟩), .slice none 0 0] 63)) F3 (pgO F3 q r b) G7 p xa (S0 61) (S0 61) q q' 1 1 r b w7.heap.size (.slice none 0 0) [] [] := by
    refine ⟨(HLAW.out.later api hb47).later api hX, ⟨rr.keep (fun k hk => hX.block k (rr.lt k hk)), rl.keep (hX.block q' rl.cells.2.2.2), rg, heap_alloc_new _ _, fun hg => ?_, ?_, PRow.start _ _ _ _ _, fun _ => rfl⟩, fun k hk => ?_, by omega, by omega, fun k hk hx => ?_⟩
    · have := rr.lt _ hg; omega
    · have := rl.cells.2.2.2; omega
    · have := hlow7 k hk; omega
    · have := hOlt k hk
      rcases hx with a | a | a
      · have := hlow7 k a; omega
      · omega
      · omega
  have HE := Lib.hid hE
  clear hE hX rl rg rr t7 n7 hb47 HR5 HK6 HOR HLAW hOlt hlow5 hlow6 hlow7
  go_wp2
  go_ret2
  exact ⟨r, w7.heap.size, b, q, q', F3, _, G7, p, xa, rfl, HE.out⟩
end

/-- A page that is got has 240 bytes. -/
theorem got_len {S : DS} {n : Nat} {L : List (Int × List Int)} (hn : S.n = n) (hR : Rests S fresh1) (hall : ∀ y ∈ L, y.2.length = 240) (i : Int) (h : (getPg S L i).2 = 0) : (getPg S L i).1.length = 240 := by
  unfold getPg at h ⊢
  cases ha : atL L i with
  | some l => exact hall _ (atL_mem ha)
  | none =>
    rw [ha] at h
    simp only at h ⊢
    by_cases hr : i < 0 ∨ i ≥ S.P
    · exfalso
      unfold loadS at h
      rw [if_pos hr] at h
      exact absurd h (by decide)
    · rw [load_rests (n := S.n) rfl hR ⟨by omega, by have e : S.P = pagesOf S.n := rfl; omega⟩, page_fresh (by omega)]
      exact reps_length 240 0

section
variable {D : World → (Nat → Prop) → Addr → DS → Prop} {w w0 : World} {F O G : Nat → Prop} {p xa : Addr} {S T : DS} {q q' r b xr : Nat} {s t : Int} {v : Value} {L M : List (Int × List Int)}
theorem LawP.lens (h : LawP D w0 w F O p S q s r b L) : ∀ y ∈ L, y.2.length = 240 := fun y hy => (h.pg.all y hy).2.2.1
theorem ldirGet (api : DiskApi D) (h : LawP D w0 w F O p S q s r b L) (hn : S.n = 61) (hR : Rests S fresh1) (d f n c : Int) {A : Option Addr} {k cap B : Nat} {l : List Int} (slot : Int) (hr : RI w B A k l) (hB : B ≤ w.heap.size) (hk : k ≤ cap) (hkm : k ≤ maxLen) :
    Calls Tryd.prog 9 #[.pointer (some ⟨r, 0, none⟩), .agg #[.int .i64 d, .int .i64 f, .int .i64 n, .int .i64 c, .slice A k cap], .int .i64 slot] w fun e w' => e = .returned (.tuple #[.int .i64 (dirGetR S L d k l slot).1, .int .i64 (dirGetR S L d k l slot).2]) ∧ LawP D w0 w' F O p S q s r b L ∧ Below w.heap.size w w' := by
  refine (dirGet_any api h.pg h.tabF (got_len hn hR h.lens) d f n c slot hr hB hk hkm).mono ?_
  rintro e w' ⟨rfl, hb⟩
  exact ⟨rfl, h.later api hb, hb⟩
theorem ldirSet (api : DiskApi D) (h : LawP D w0 w F O p S q s r b L) (hn : S.n = 61) (hR : Rests S fresh1) (d f n c : Int) {A : Option Addr} {k cap B : Nat} {l : List Int} (slot page : Int) (hpg : -9223372036854775808 ≤ page ∧ page ≤ 9223372036854775807) (hr : RI w B A k l) (hB : B ≤ w.heap.size) (hk : k ≤ cap) (hkm : k ≤ maxLen) :
    Calls Tryd.prog 7 #[.pointer (some ⟨r, 0, none⟩), .agg #[.int .i64 d, .int .i64 f, .int .i64 n, .int .i64 c, .slice A k cap], .int .i64 slot, .int .i64 page] w fun e w' => e = .returned (.int .i64 (dirSetR S L d k l slot page).1) ∧ ∃ O', LawP D w0 w' F O' p S q s r b (dirSetR S L d k l slot page).2 ∧ Touch O w w' ∧ ∀ k, O' k → O k ∨ w.heap.size ≤ k := by
  refine (dirSet_any api h.pg h.tabF (got_len hn hR h.lens) d f n c slot page hpg hr hB hk hkm).mono ?_
  rintro e w' ⟨rfl, O', hp, ht, hO⟩
  exact ⟨rfl, O', h.next hp ht hO, ht, hO⟩
theorem TwoPg.dirSet (api : DiskApi D) (h : TwoPg D w0 w F O G p xa S T q q' s t r b xr v L M) (hn : S.n = 61) (hR : Rests S fresh1) (d f n c : Int) {A : Option Addr} {k cap B : Nat} {l : List Int} (slot page : Int) (hpg : -9223372036854775808 ≤ page ∧ page ≤ 9223372036854775807) (hr : RI w B A k l) (hB : B ≤ w.heap.size) (hk : k ≤ cap) (hkm : k ≤ maxLen) :
    Calls Tryd.prog 7 #[.pointer (some ⟨r, 0, none⟩), .agg #[.int .i64 d, .int .i64 f, .int .i64 n, .int .i64 c, .slice A k cap], .int .i64 slot, .int .i64 page] w fun e w' => e = .returned (.int .i64 (dirSetR S L d k l slot page).1) ∧ ∃ O', TwoPg D w0 w' F O' G p xa S T q q' s t r b xr v (dirSetR S L d k l slot page).2 M ∧ Touch O w w' ∧ ∀ k, O' k → O k ∨ w.heap.size ≤ k := by
  refine (dirSet_any api h.pg h.tabF (got_len hn hR h.toLawP.lens) d f n c slot page hpg hr hB hk hkm).mono ?_
  rintro e w' ⟨rfl, O', hp, ht, hO⟩
  exact ⟨rfl, O', h.nextP hp ht hO, ht, hO⟩
theorem TwoPg.rdirSet (api : DiskApi D) (h : TwoPg D w0 w F O G p xa S T q q' s t r b xr v L M) (hM : M.length ≤ 65536) (hall : ∀ y ∈ M, y.2.length = 240) (hn : T.n = 61) (hR : Rests T fresh1) (d f n c : Int) {A : Option Addr} {k cap B : Nat} {l : List Int} (slot page : Int) (hpg : -9223372036854775808 ≤ page ∧ page ≤ 9223372036854775807) (hr : RI w B A k l) (hB : B ≤ w.heap.size) (hk : k ≤ cap) (hkm : k ≤ maxLen) :
    Calls Tryd.prog 8 #[.pointer (some ⟨xr, 0, none⟩), .agg #[.int .i64 d, .int .i64 f, .int .i64 n, .int .i64 c, .slice A k cap], .int .i64 slot, .int .i64 page] w fun e w' => e = .returned (.int .i64 (dirSetR T M d k l slot page).1) ∧ ∃ G' v', TwoPg D w0 w' F O G' p xa S T q q' s t r b xr v' L (dirSetR T M d k l slot page).2 ∧ Touch (rpY G q' xr v) w w' := by
  refine (refDirSet_any h.R h.pg.lt h.bel.size hM hall (got_len hn hR hall) d f n c slot page hpg hr hB hk hkm).mono ?_
  rintro e w' ⟨rfl, G', v', hR', ht, hG⟩
  exact ⟨rfl, G', v', h.nextR api hR' ht hG, ht⟩
end

/-! ### what was set is got, and others stay -/
theorem splice_get {α : Type} (L d : List α) {o : Nat} (h : o + d.length ≤ L.length) (i : Nat) : (splice L o d)[i]? = if i < o then L[i]? else if i < o + d.length then d[i - o]? else L[i]? := by
  unfold splice
  have hl : (L.take o).length = o := by rw [List.length_take]; omega
  by_cases h1 : i < o
  · rw [if_pos h1, List.getElem?_append_left (by omega), List.getElem?_take, if_pos h1]
  · rw [if_neg h1, List.getElem?_append_right (by omega), hl]
    by_cases h2 : i < o + d.length
    · rw [if_pos h2, List.getElem?_append_left (by omega)]
    · rw [if_neg h2, List.getElem?_append_right (by omega), List.getElem?_drop, show o + d.length + (i - o - d.length) = i by omega]
theorem cut_get {α : Type} (L : List α) (a k i : Nat) : ((L.drop a).take k)[i]? = if i < k then L[a + i]? else none := by
  rw [List.getElem?_take, List.getElem?_drop]
theorem splice_same {L d : List Int} {o : Nat} (h : o + d.length ≤ L.length) : ((splice L o d).drop o).take d.length = d := by
  refine List.ext_getElem? fun i => ?_
  rw [cut_get, splice_get _ _ h]
  by_cases hi : i < d.length
  · rw [if_pos hi, if_neg (by omega), if_pos (by omega), show o + i - o = i by omega]
  · rw [if_neg hi, List.getElem?_eq_none (by omega)]
theorem splice_other {L d : List Int} {o a k : Nat} (h : o + d.length ≤ L.length) (ha : a + k ≤ o ∨ o + d.length ≤ a) : ((splice L o d).drop a).take k = (L.drop a).take k := by
  refine List.ext_getElem? fun i => ?_
  rw [cut_get, cut_get, splice_get _ _ h]
  by_cases hi : i < k
  · rw [if_pos hi, if_pos hi]
    by_cases h1 : a + i < o
    · rw [if_pos h1]
    · rw [if_neg h1, if_neg (by omega)]
  · rw [if_neg hi, if_neg hi]

theorem getPg_setL {S : DS} {L : List (Int × List Int)} {o i : Int} {x : List Int} : getPg S (setL L o x) i = if i = o then (x, 0) else getPg S L i := by
  unfold getPg
  rw [atL_setL]
  by_cases e : i = o
  · rw [if_pos e, if_pos e]
  · rw [if_neg e, if_neg e]
/-- Set, then Get: the directory of any Meta, its pages all there. -/
theorem dir_keeps {S : DS} {L : List (Int × List Int)} {d : Int} {k : Nat} {l : List Int} {slot page : Int} (hS : okD d k slot = true) (hp : 0 ≤ page ∧ page < 4294967296) (hlen : ∀ i, (getPg S L i).2 = 0 → (getPg S L i).1.length = 240) (hin : ∀ j, okD d k j = true → 0 ≤ ownD l j ∧ ownD l j < S.P ∧ (getPg S L (ownD l j)).2 = 0) (hinj : ∀ i j, okD d k i = true → okD d k j = true → ownD l i = ownD l j → i / 60 = j / 60) :
    (dirSetR S L d k l slot page).1 = 0 ∧ (∀ j, okD d k j = true → dirGetR S (dirSetR S L d k l slot page).2 d k l j = if j = slot then (page, 0) else dirGetR S L d k l j) ∧ ∀ j, okD d k j = true → (getPg S (dirSetR S L d k l slot page).2 (ownD l j)).2 = 0 := by
  obtain ⟨i0, i1, he⟩ := hin slot hS
  have hl := hlen _ he
  rw [dirSet_ok ⟨hS, hp⟩ he]
  obtain ⟨_, t, _, e60, _, ht60, _⟩ := okD_nat hS
  have hat : (slot % 60).toNat * 4 + (putB page 4).length ≤ (getPg S L (ownD l slot)).1.length := by rw [putB_length, hl]; omega
  have hsl : (splice (getPg S L (ownD l slot)).1 ((slot % 60).toNat * 4) (putB page 4)).length = 240 := by rw [length_splice _ _ _ hat]; exact hl
  have hno : ¬ (ownD l slot < 0 ∨ ownD l slot ≥ S.P ∨ (splice (getPg S L (ownD l slot)).1 ((slot % 60).toNat * 4) (putB page 4)).length ≠ 240) := by
    rw [hsl]; omega
  have hE : setPgE S (ownD l slot) (splice (getPg S L (ownD l slot)).1 ((slot % 60).toNat * 4) (putB page 4)) = 0 := if_neg hno
  have hLs : setPg S L (ownD l slot) (splice (getPg S L (ownD l slot)).1 ((slot % 60).toNat * 4) (putB page 4)) = setL L (ownD l slot) (splice (getPg S L (ownD l slot)).1 ((slot % 60).toNat * 4) (putB page 4)) := if_neg hno
  simp only
  rw [hE, hLs]
  have hget : ∀ i, getPg S (setL L (ownD l slot) (splice (getPg S L (ownD l slot)).1 ((slot % 60).toNat * 4) (putB page 4))) i = if i = ownD l slot then (splice (getPg S L (ownD l slot)).1 ((slot % 60).toNat * 4) (putB page 4), 0) else getPg S L i := fun i => getPg_setL
  refine ⟨rfl, fun j hj => ?_, fun j hj => ?_⟩
  · by_cases ho : ownD l j = ownD l slot
    · rw [dirGet_ok hj (by rw [hget, if_pos ho])]
      rw [hget, if_pos ho]
      simp only
      by_cases hjs : j = slot
      · subst hjs
        rw [if_pos rfl]
        have := splice_same hat
        rw [putB_length] at this
        rw [this]
        have := wrap_putB (x := page) (s := 4) ((right4_iff page).trans (decide_eq_true hp)) (by omega) (by omega)
        rw [show (4 : Int).toNat = 4 from rfl] at this
        rw [this]
      · rw [if_neg hjs, dirGet_ok hj (hin j hj).2.2, ho]
        obtain ⟨_, t2, _, e602, _, ht602, _⟩ := okD_nat hj
        have h60 := hinj j slot hj hS ho
        rw [splice_other hat (by rw [putB_length]; omega)]
    · have hjs : ¬ j = slot := fun e => ho (by rw [e])
      rw [if_neg hjs]
      unfold dirGetR
      rw [if_pos hj, if_pos hj, hget, if_neg ho]
  · rw [hget]
    by_cases ho : ownD l j = ownD l slot
    · rw [if_pos ho]
    · rw [if_neg ho]; exact (hin j hj).2.2

end Go.Proofs.YtkpmfobmlaldfaaDoor
