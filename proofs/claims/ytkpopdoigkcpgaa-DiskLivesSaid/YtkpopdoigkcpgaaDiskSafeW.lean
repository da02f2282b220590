/-
  The walk of the statement on what is there behind a crash, over any disk that answers as it is to. No condition.
-/
import Derived.Test.YtkpopdoigkcpgaaDiskSafeP
import Derived.Test.YtkpopdoigkcpgaaDiskDownW
import Derived.Test.YtkpopdoigkcpgaaEqual
import Derived.BigRegion
namespace Go.Proofs.Ytkpopdoigkcpgaa
open Go.RowKit
set_option linter.unusedVariables false

/-- The law's memory: the disk, and the two arrays. -/
def Mem (D : World → (Nat → Prop) → Addr → DS → Prop) (w0 wr : World) (F : Nat → Prop) (p : Addr) (S : DS) (g9 g10 : Nat) (s f a b : Nat → Int) (j : Nat) : Prop :=
  LawSt D w0 wr F p S ∧ SafeSt s f S ∧ S.writes ≤ j ∧ ArrAt wr g9 a ∧ ArrAt wr g10 b ∧ ¬ F g9 ∧ ¬ F g10

theorem LawSt.set {D : World → (Nat → Prop) → Addr → DS → Prop} (api : DiskApi D) {w0 w : World} {F : Nat → Prop} {p : Addr} {S : DS} (h : LawSt D w0 w F p S) {g : Nat} (hF : ¬ F g) (hg : w0.heap.size ≤ g) (o : Nat) (v : Value) : LawSt D w0 (w.setCell ⟨g, o, none⟩ v) F p S :=
  ⟨api.keep w _ F p S h.1 (fun k hk => Below.heap_setCell w ⟨g, o, none⟩ v k (fun e => hF (by rw [← show k = g from e]; exact hk))), h.2.1, h.2.2.setCell hg v⟩
theorem Mem.both {D : World → (Nat → Prop) → Addr → DS → Prop} (api : DiskApi D) {w0 w : World} {F : Nat → Prop} {p : Addr} {S : DS} {g9 g10 : Nat} {s f a b : Nat → Int} {j : Nat} (h : Mem D w0 w F p S g9 g10 s f a b j) (h9 : w0.heap.size ≤ g9) (h10 : w0.heap.size ≤ g10) (hne : g9 ≠ g10) {q : Nat} (hq : q < 16) (c : Int) :
    Mem D w0 ((w.setCell ⟨g9, q, none⟩ (.int .u8 c)).setCell ⟨g10, q, none⟩ (.int .u8 c)).drew F p S g9 g10 s f (upd a q c) (upd b q c) j := by
  obtain ⟨hl, hs, hw, ha, hb, n9, n10⟩ := h
  have hd : ∀ x : World, Below x.heap.size x x.drew := fun x => (Below.refl _ x).drew
  refine ⟨LawSt.later api (LawSt.set api (LawSt.set api hl n9 h9 q (.int .u8 c)) n10 h10 q (.int .u8 c)) (hd _), hs, hw, ?_, ?_, n9, n10⟩
  · exact ((ha.set hq c).other (fun e => hne e.symm) q _).later (hd _)
  · exact ((hb.other hne q _).set hq c).later (hd _)
theorem Mem.last {D : World → (Nat → Prop) → Addr → DS → Prop} (api : DiskApi D) {w0 w : World} {F : Nat → Prop} {p : Addr} {S : DS} {g9 g10 : Nat} {s f a b : Nat → Int} {j : Nat} (h : Mem D w0 w F p S g9 g10 s f a b j) (h10 : w0.heap.size ≤ g10) (hne : g9 ≠ g10) {q : Nat} (hq : q < 16) (c : Int) :
    Mem D w0 (w.setCell ⟨g10, q, none⟩ (.int .u8 c)) F p S g9 g10 s f a (upd b q c) j := by
  obtain ⟨hl, hs, hw, ha, hb, n9, n10⟩ := h
  exact ⟨LawSt.set api hl n10 h10 q (.int .u8 c), hs, hw, ha.other (fun e => hne e.symm) q _, hb.set hq c, n9, n10⟩
theorem arr_new (w : World) : ArrAt (w.alloc (.cells #[.int .u8 0, .int .u8 0, .int .u8 0, .int .u8 0, .int .u8 0, .int .u8 0, .int .u8 0, .int .u8 0, .int .u8 0, .int .u8 0, .int .u8 0, .int .u8 0, .int .u8 0, .int .u8 0, .int .u8 0, .int .u8 0] 43)) w.heap.size (fun _ => 0) := heap_alloc_new w _

set_option maxHeartbeats 3200000 in
theorem safe_walk {D : World → (Nat → Prop) → Addr → DS → Prop} (api : DiskApi D) (A0 : Option Addr) (n0 c0 : Nat) (ds0 : List DoV) (A1 : Option Addr) (n1 c1 : Nat) (ds1 : List DoV) (A2 : Option Addr) (n2 c2 : Nat) (kl : List Int) (w : World)
    (hr0 : RDos w w.heap.size A0 n0 ds0) (hr1 : RDos w w.heap.size A1 n1 ds1) (hr2 : RI w w.heap.size A2 n2 kl) (hc2 : n2 ≤ c2) (hn0 : n0 ≤ 60) (hn1 : n1 ≤ 60) (hn2 : n2 ≤ 60) :
    Calls Try.prog 4 #[.slice A0 n0 c0, .slice A1 n1 c1, .slice A2 n2 c2] w fun e w' => e = .returned (.bool true) ∧ Below w.heap.size w w' := by
  have k0 : decide ((n0 : Int) > 60) = false := by simp; omega
  have k1 : decide ((n1 : Int) > 60) = false := by simp; omega
  have k2 : decide ((n2 : Int) > 60) = false := by simp; omega
  go_enter Try.func4, Try.ntmps4
  go_wp2_with fail
  refine (law_new api (w0 := w) (by decide) (by decide) (Below.refl _ _)).mono ?_
  rintro e w1 ⟨p, F1, rfl, h1⟩
  go_wp2_with fail
  have hlt1 := h1.lt api
  have hm0 : Mem D w ((w1.alloc (.cells #[.int .u8 0, .int .u8 0, .int .u8 0, .int .u8 0, .int .u8 0, .int .u8 0, .int .u8 0, .int .u8 0, .int .u8 0, .int .u8 0, .int .u8 0, .int .u8 0, .int .u8 0, .int .u8 0, .int .u8 0, .int .u8 0] 43)).alloc (.cells #[.int .u8 0, .int .u8 0, .int .u8 0, .int .u8 0, .int .u8 0, .int .u8 0, .int .u8 0, .int .u8 0, .int .u8 0, .int .u8 0, .int .u8 0, .int .u8 0, .int .u8 0, .int .u8 0, .int .u8 0, .int .u8 0] 43)) F1 p (DS.new 16) w1.heap.size (w1.heap.size + 1) (fun _ => 0) (fun _ => 0) (fun _ => 0) (fun _ => 0) 0 := by
    refine ⟨LawSt.later api h1 (((Below.refl _ _).alloc (Nat.le_refl _) _).alloc (by simp) _), SafeSt.start, Nat.le_refl _, ?_, ?_, ?_, ?_⟩
    · exact (arr_new w1).later ((Below.refl _ _).alloc (Nat.le_refl _) _)
    · have := arr_new (w1.alloc (.cells #[.int .u8 0, .int .u8 0, .int .u8 0, .int .u8 0, .int .u8 0, .int .u8 0, .int .u8 0, .int .u8 0, .int .u8 0, .int .u8 0, .int .u8 0, .int .u8 0, .int .u8 0, .int .u8 0, .int .u8 0, .int .u8 0] 43))
      simpa using this
    · intro hf; have := hlt1 _ hf; omega
    · intro hf; have := hlt1 _ hf; omega
  have hg9 : w.heap.size ≤ w1.heap.size := h1.below.size
  have HM := Lib.hid hm0
  have hgg : w1.heap.size < w1.heap.size + 1 := by omega
  clear hm0 h1 hlt1
  generalize w1.heap.size + 1 = g10 at HM hgg ⊢
  generalize w1.heap.size = g9 at HM hgg hg9 ⊢
  go_loopw [47] (fun i wr => ∃ (j : Nat) (F : Nat → Prop) (S : DS) (f : Nat → Int), j ≤ n0 ∧ i = .int .i64 j ∧ Hid (Mem D w wr F p S g9 g10 (fun _ => 0) f f f j)) (fun i _ => n0 - (intOf i).toNat)
  case atStart => exact ⟨0, F1, _, _, Nat.zero_le _, rfl, HM⟩
  case round =>
    obtain ⟨j, F, S, f, hj, rfl, hmem⟩ := hrel
    clear HM
    obtain ⟨hl, hst, hwj, ha9, ha10, hn9, hn10⟩ := hmem.out
    clear hmem
    have HST := Lib.hid hst
    have HA9 := Lib.hid ha9
    have HA10 := Lib.hid ha10
    have l9 := ha9.lt
    have l10 := ha10.lt
    clear hst ha9 ha10
    by_cases hlt : j < n0
    · obtain ⟨b, off, rfl, hb, hat⟩ := hr0.2 (by omega)
      obtain ⟨d, hd, hdo⟩ := hat j hlt
      have hdo' := hdo.keep hb (fun b o hbb => hl.below.cell (p := ⟨b, o, none⟩) hbb)
      obtain ⟨d0, d1, d2, d3, d4, d5, d6, d7, d8, d9⟩ := hdo'
      clear hat hdo
      have hlt' := hl.lt api
      obtain ⟨q, hq⟩ : ∃ q : Nat, d.i % 16 = q := Int.eq_ofNat_of_zero_le (by omega)
      have hq16 : q < 16 := by omega
      have hq16' : (q : Int) < 16 := by omega
      have hand : bits .and .i64 d.i 15 = (q : Int) := by rw [bits_and15, hq]
      have HWR := Lib.hid (HST.out.write hq16 d.b)
      have hwr : S.writes ≤ 9223372036854775806 := by omega
      have HK : DoCells wr.heap.size d ((wr.alloc (.cells #[.int .i64 d.op, .int .i64 d.i, .int .u8 d.b, .slice d.ka d.kn d.kc] 34)).drew) := DoCells.new wr d
      have HL1 : LawSt D w ((wr.alloc (.cells #[.int .i64 d.op, .int .i64 d.i, .int .u8 d.b, .slice d.ka d.kn d.kc] 34)).drew) F p S := LawSt.later api hl (((Below.refl _ _).alloc (Nat.le_refl _) _).drew)
      have hkf : ¬ F wr.heap.size := fun hf => by have := hlt' _ hf; omega
      clear hq
      go_wp2_with fail
      go_region_held3 (fun w' => w'.cell? ⟨wr.heap.size, 1, none⟩ = some (.int .i64 d.i) ∧ w'.cell? ⟨wr.heap.size, 2, none⟩ = some (.int .u8 d.b)) (first | exact ⟨HK.2.1, HK.2.2.1⟩ | exact ⟨HK5.2.1, HK5.2.2.1⟩ | exact ⟨HK6.2.1, HK6.2.2.1⟩)
          (first
            | (go_at_call 19; refine (law_sector api HL1 d6).mono ?_; rintro e w5 ⟨g5, rfl, hg5, hr5, h5, hb5⟩; have HK5 := HK.later hb5)
            | (go_at_call 18; refine (law_write api h5 _ hr5 (by decide) (by decide) hwr hg5).mono ?_; rintro e w6 ⟨rfl, F6, h6, ht6⟩; have HK6 := HK5.touch ht6.1 hkf))
      have HA9' := Lib.hid (((HA9.out.later (((Below.refl _ _).alloc (Nat.le_refl _) _).drew)).later hb5).touch ht6.1 hn9)
      have HA10' := Lib.hid (((HA10.out.later (((Below.refl _ _).alloc (Nat.le_refl _) _).drew)).later hb5).touch ht6.1 hn10)
      have hsz5 : wr.heap.size < w5.heap.size := HK5.2.2.2.2
      have hn9' : ¬ F6 g9 := ht6.not (by omega) hn9
      have hn10' : ¬ F6 g10 := ht6.not (by omega) hn10
      have H6 := Lib.hid h6
      obtain ⟨q0, q1, q2, q3, q4⟩ := HK6
      have z9 := HA9'.out.cell hq16
      have z9f := HA9'.out.frozen q
      have z10 := HA10'.out.cell hq16
      have z10f := HA10'.out.frozen q
      have m1 : g9 ≠ wr.heap.size := by omega
      have m2 : g10 ≠ wr.heap.size := by omega
      have m3 : g9 ≠ g10 := by omega
      clear HK HL1 hr5 h5 hb5 HK5 ht6 h6
      go_wp2_with fail
      go_region
      have HM2 := Lib.hid (Mem.both api ⟨H6.out, HWR.out.2.1, (show _ ≤ j + 1 by have := HWR.out.2.2; omega), HA9'.out, HA10'.out, hn9', hn10'⟩ hg9 (show w.heap.size ≤ g10 by omega) m3 hq16 d.b)
      clear HA9 HA10 HA9' HA10' H6 HWR HST hl q0 q1 q2 q3 z9 z9f z10 z10f
      go_wp2
      go_roundw
      case rel => exact ⟨j + 1, F6, _, _, by omega, by go_num, HM2⟩
      case measure => simp [intOf]; omega
    · obtain rfl : j = n0 := by omega
      go_wp2_with fail
      refine (law_flush api hl).mono ?_
      rintro e w2 ⟨rfl, F2, h2, ht2⟩
      have hsf := HST.out.flush
      have HM := Lib.hid (show Mem D w w2 F2 p S.flush g9 g10 f f f f 60 from ⟨h2, hsf.1, by rw [hsf.2]; omega, HA9.out.touch ht2.1 hn9, HA10.out.touch ht2.1 hn10, ht2.not l9 hn9, ht2.not l10 hn10⟩)
      clear hl h2 ht2 hsf HST HA9 HA10 hn9 hn10 hwj l9 l10 hlt
      generalize S.flush = S2 at HM
      go_wp2_with fail
      go_loopw [76] (fun i wr => ∃ (j : Nat) (F : Nat → Prop) (S : DS) (g : Nat → Int), j ≤ n1 ∧ i = .int .i64 j ∧ Hid (Mem D w wr F p S g9 g10 f g f g (60 + j))) (fun i _ => n1 - (intOf i).toNat)
      case atStart => exact ⟨0, F2, _, _, Nat.zero_le _, rfl, HM⟩
      case round =>
        clear hj
        obtain ⟨j2, F, S, g, hj, rfl, hmem⟩ := hrel
        clear HM
        obtain ⟨hl, hst, hwj, ha9, ha10, hn9, hn10⟩ := hmem.out
        clear hmem
        have HST := Lib.hid hst
        have HA9 := Lib.hid ha9
        have HA10 := Lib.hid ha10
        have l9 := ha9.lt
        have l10 := ha10.lt
        clear hst ha9 ha10
        by_cases hlt : j2 < n1
        · obtain ⟨b, off, rfl, hb, hat⟩ := hr1.2 (by omega)
          obtain ⟨d, hd, hdo⟩ := hat j2 hlt
          have hdo' := hdo.keep hb (fun b o hbb => hl.below.cell (p := ⟨b, o, none⟩) hbb)
          obtain ⟨d0, d1, d2, d3, d4, d5, d6, d7, d8, d9⟩ := hdo'
          clear hat hdo
          have hlt' := hl.lt api
          obtain ⟨q, hq⟩ : ∃ q : Nat, d.i % 16 = q := Int.eq_ofNat_of_zero_le (by omega)
          have hq16 : q < 16 := by omega
          have hq16' : (q : Int) < 16 := by omega
          have hand : bits .and .i64 d.i 15 = (q : Int) := by rw [bits_and15, hq]
          have HWR := Lib.hid (HST.out.write hq16 d.b)
          have hwr : S.writes ≤ 9223372036854775806 := by omega
          have HK : DoCells wr.heap.size d ((wr.alloc (.cells #[.int .i64 d.op, .int .i64 d.i, .int .u8 d.b, .slice d.ka d.kn d.kc] 34)).drew) := DoCells.new wr d
          have HL1 : LawSt D w ((wr.alloc (.cells #[.int .i64 d.op, .int .i64 d.i, .int .u8 d.b, .slice d.ka d.kn d.kc] 34)).drew) F p S := LawSt.later api hl (((Below.refl _ _).alloc (Nat.le_refl _) _).drew)
          have hkf : ¬ F wr.heap.size := fun hf => by have := hlt' _ hf; omega
          clear hq
          go_wp2_with fail
          go_region_held3 (fun w' => w'.cell? ⟨wr.heap.size, 1, none⟩ = some (.int .i64 d.i) ∧ w'.cell? ⟨wr.heap.size, 2, none⟩ = some (.int .u8 d.b)) (first | exact ⟨HK.2.1, HK.2.2.1⟩ | exact ⟨HK5.2.1, HK5.2.2.1⟩ | exact ⟨HK6.2.1, HK6.2.2.1⟩)
              (first
                | (go_at_call 19; refine (law_sector api HL1 d6).mono ?_; rintro e w5 ⟨g5, rfl, hg5, hr5, h5, hb5⟩; have HK5 := HK.later hb5)
                | (go_at_call 18; refine (law_write api h5 _ hr5 (by decide) (by decide) hwr hg5).mono ?_; rintro e w6 ⟨rfl, F6, h6, ht6⟩; have HK6 := HK5.touch ht6.1 hkf))
          have HA9' := Lib.hid (((HA9.out.later (((Below.refl _ _).alloc (Nat.le_refl _) _).drew)).later hb5).touch ht6.1 hn9)
          have HA10' := Lib.hid (((HA10.out.later (((Below.refl _ _).alloc (Nat.le_refl _) _).drew)).later hb5).touch ht6.1 hn10)
          have hsz5 : wr.heap.size < w5.heap.size := HK5.2.2.2.2
          have hn9' : ¬ F6 g9 := ht6.not (by omega) hn9
          have hn10' : ¬ F6 g10 := ht6.not (by omega) hn10
          have H6 := Lib.hid h6
          obtain ⟨q0, q1, q2, q3, q4⟩ := HK6
          have z10 := HA10'.out.cell hq16
          have z10f := HA10'.out.frozen q
          have m1 : g9 ≠ wr.heap.size := by omega
          have m2 : g10 ≠ wr.heap.size := by omega
          have m3 : g9 ≠ g10 := by omega
          clear HK HL1 hr5 h5 hb5 HK5 ht6 h6
          go_wp2_with fail
          have HM2 := Lib.hid (Mem.last api ⟨H6.out, HWR.out.2.1, (show _ ≤ 60 + (j2 + 1) by have := HWR.out.2.2; omega), HA9'.out, HA10'.out, hn9', hn10'⟩ (show w.heap.size ≤ g10 by omega) m3 hq16 d.b)
          go_roundw
          case rel => exact ⟨j2 + 1, F6, _, _, by omega, by go_num, HM2⟩
          case measure => simp [intOf]; omega
        · obtain rfl : j2 = n1 := by omega
          have HOK := Lib.hid (api.ok _ _ _ _ hl.1)
          go_wp2_with fail
          refine (law_pending api hl).mono ?_
          rintro e w3 ⟨A3, n3, c3, rfl, hc3, hr3, hA3, h3, hb3⟩
          have hm3 : n3 ≤ maxLen := by
            have a := HOK.out.pending_len
            have b := HST.out.1
            have c := hr3.len
            unfold maxLen
            omega
          have HR3 := Lib.hid hr3
          clear hr3
          go_wp2_with fail
          refine (law_crash api h3 (hr2.below h3.below) hc2 (by unfold maxLen; omega) (fun hn a ha hf => ?_)).mono ?_
          · obtain ⟨b, off, e, hb, _⟩ := hr2.2.2 hn
            rw [ha] at e
            cases e
            have := h3.2.1 _ hf
            have hbb : b < w.heap.size := hb
            have : w.heap.size ≤ b := this
            omega
          rintro e w4 ⟨rfl, F4, h4, ht4⟩
          have HA9' := Lib.hid ((HA9.out.later hb3).touch ht4.1 hn9)
          have HA10' := Lib.hid ((HA10.out.later hb3).touch ht4.1 hn10)
          have HR4 := Lib.hid ((HR3.out.touch ht4.1 (Nat.le_refl _) hA3).more ht4.1.size)
          have HSC := Lib.hid (fun i (hi : i < 16) => And.intro (HST.out.crash HOK.out kl hi) (HST.out.bytes HOK.out hi))
          have HPE := Lib.hid (show (S.crash kl).pending = [] from rfl)
          clear hl h3 hb3 ht4 HA9 HA10 hA3 HR3 HST HOK hn9 hn10 l9 l10 hwj hlt
          generalize S.pending = pl at HR4 HSC
          generalize S.crash kl = SC at h4 HSC HPE
          have H4 := Lib.hid h4
          clear h4
          go_wp2_with fail
          go_loopw [100] (fun i wr => ∃ j : Nat, j ≤ 16 ∧ i = .int .i64 j ∧ LawSt D w wr F4 p SC ∧ Below w4.heap.size w4 wr) (fun i _ => 16 - (intOf i).toNat)
          case atStart => exact ⟨0, Nat.zero_le _, rfl, H4.out, Below.refl _ _⟩
          case round =>
            clear hj
            obtain ⟨j3, hj, rfl, hl5, hb5⟩ := hrel
            by_cases hlt : j3 < 16
            · have ha9 := HA9'.out.later hb5
              have ha10 := HA10'.out.later hb5
              have z9 := ha9.cell hlt
              have z10 := ha10.cell hlt
              clear ha9 ha10
              have hsc := HSC.out j3 hlt
              have HRE := Lib.hid hsc.1.1
              have hrl := hsc.1.2
              have HV := Lib.hid hsc.2
              have hlt' : (j3 : Int) < 16 := by omega
              clear hsc
              go_wp2_with fail
              refine (Index_any c3 (j3 : Int) (HR4.out.below hb5) hm3).mono ?_
              rintro e w5 ⟨rfl, rfl⟩
              generalize idxI pl (j3 : Int) = at_ at hrl
              by_cases hat : 0 ≤ at_
              · by_cases hin : at_ ∈ kl
                · rw [if_pos ⟨hat, hin⟩] at hrl
                  have HRL := Lib.hid hrl
                  clear hrl
                  have hdc : decide (at_ ∈ kl) = true := by simpa using hin
                  clear hin
                  go_wp2_with fail
                  refine (Contains_any c2 at_ (hr2.below hl5.below) (by unfold maxLen; omega)).mono ?_
                  rintro e w5 ⟨rfl, rfl⟩
                  rw [hdc]
                  go_wp2_with fail
                  refine (law_read api hl5 (j3 : Int)).mono ?_
                  rw [HRE.out, HRL.out]
                  rintro e w6 ⟨A6, n6, c6, rfl, hc6, hr6, h6, hb6⟩
                  go_wp2_with fail
                  refine (law_sector api h6 HV.out.2).mono ?_
                  rintro e w7 ⟨g7, rfl, hg7, hr7, h7, hb7⟩
                  go_wp2_with fail
                  refine (Equal_any c6 256 (hr6.below hb7) hr7).mono ?_
                  rintro e w8 ⟨rfl, rfl⟩
                  go_wp2
                  go_roundw
                  case rel => exact ⟨j3 + 1, by omega, by go_num, h7, hb5.trans ((hb6.mono hb5.size).trans (hb7.mono (Nat.le_trans hb5.size hb6.size)))⟩
                  case measure => simp [intOf]; omega
                · rw [if_neg (fun h => hin h.2)] at hrl
                  have HRL := Lib.hid hrl
                  clear hrl
                  have hdc : decide (at_ ∈ kl) = false := by simpa using hin
                  clear hin
                  go_wp2_with fail
                  refine (Contains_any c2 at_ (hr2.below hl5.below) (by unfold maxLen; omega)).mono ?_
                  rintro e w5 ⟨rfl, rfl⟩
                  rw [hdc]
                  go_wp2_with fail
                  refine (law_read api hl5 (j3 : Int)).mono ?_
                  rw [HRE.out, HRL.out]
                  rintro e w6 ⟨A6, n6, c6, rfl, hc6, hr6, h6, hb6⟩
                  go_wp2_with fail
                  refine (law_sector api h6 HV.out.1).mono ?_
                  rintro e w7 ⟨g7, rfl, hg7, hr7, h7, hb7⟩
                  go_wp2_with fail
                  refine (Equal_any c6 256 (hr6.below hb7) hr7).mono ?_
                  rintro e w8 ⟨rfl, rfl⟩
                  go_wp2
                  go_roundw
                  case rel => exact ⟨j3 + 1, by omega, by go_num, h7, hb5.trans ((hb6.mono hb5.size).trans (hb7.mono (Nat.le_trans hb5.size hb6.size)))⟩
                  case measure => simp [intOf]; omega
              · rw [if_neg (fun h => hat h.1)] at hrl
                have HRL := Lib.hid hrl
                clear hrl
                go_wp2_with fail
                refine (law_read api hl5 (j3 : Int)).mono ?_
                rw [HRE.out, HRL.out]
                rintro e w6 ⟨A6, n6, c6, rfl, hc6, hr6, h6, hb6⟩
                go_wp2_with fail
                refine (law_sector api h6 HV.out.1).mono ?_
                rintro e w7 ⟨g7, rfl, hg7, hr7, h7, hb7⟩
                go_wp2_with fail
                refine (Equal_any c6 256 (hr6.below hb7) hr7).mono ?_
                rintro e w8 ⟨rfl, rfl⟩
                go_wp2
                go_roundw
                case rel => exact ⟨j3 + 1, by omega, by go_num, h7, hb5.trans ((hb6.mono hb5.size).trans (hb7.mono (Nat.le_trans hb5.size hb6.size)))⟩
                case measure => simp [intOf]; omega
            · obtain rfl : j3 = 16 := by omega
              go_wp2_with fail
              refine (law_pending api hl5).mono ?_
              rw [HPE.out]
              rintro e w6 ⟨A6, n6, c6, rfl, hc6, hr6, hA6, h6, hb6⟩
              obtain rfl : n6 = 0 := hr6.len.symm
              have HB := Lib.hid h6.below
              clear hl5 hr6 hb6 h6
              go_wp2_with (go_at_call 7; refine (diskAwake_any api _).mono ?_; rintro e w' ⟨rfl, hb⟩)
              go_ret
              exact ⟨rfl, HB.out.trans (hb.mono HB.out.size)⟩

end Go.Proofs.Ytkpopdoigkcpgaa
