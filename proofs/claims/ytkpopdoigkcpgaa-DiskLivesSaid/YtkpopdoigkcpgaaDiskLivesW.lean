/-
  The walk of the statement that a disk does any calls in any order, over any disk that answers as it is to. No condition.
-/
import Derived.Test.YtkpopdoigkcpgaaDo
import Derived.Deep.RegionWith
namespace Go.Proofs.Ytkpopdoigkcpgaa
open Go.RowKit
set_option linter.unusedVariables false

theorem RefAt.shape {w : World} {G : Nat → Prop} {x : Addr} {S : DS} (h : RefAt w G x S) : ∃ gx, x = ⟨gx, 0, none⟩ := by
  obtain ⟨gx, _, e, _⟩ := h
  exact ⟨gx, e⟩
theorem RefAt.told {w : World} {G : Nat → Prop} {gx : Nat} {S : DS} (h : RefAt w G ⟨gx, 0, none⟩ S) : w.cell? ⟨gx, 2, none⟩ = some (.int .i64 (S.writes : Nat)) ∧ w.cell? ⟨gx, 5, none⟩ = some (.bool S.down) := by
  obtain ⟨gx', gl, e, h0, _⟩ := h
  cases e
  exact ⟨h0.cell (o := 2) (by decide), h0.cell (o := 5) (by decide)⟩
theorem RefAt.okay {w : World} {G : Nat → Prop} {x : Addr} {S : DS} (h : RefAt w G x S) : S.Ok := by
  obtain ⟨_, _, _, _, hok, _⟩ := h
  exact hok

theorem awake_end {D : World → (Nat → Prop) → Addr → DS → Prop} (api : DiskApi D) (w : World) : Calls Try.prog 7 #[] w fun e w' => e = .returned (.bool true) ∧ Below w.heap.size w w' := diskAwake_any api w

theorem le_max_pending {w : World} {B n : Nat} {A : Option Addr} {S : DS} (h : S.Ok) (hr : RI w B A n S.pending) : n ≤ maxLen := by
  have a := h.pending_len
  have b := hr.len
  have c := h.size.2
  unfold maxLen
  omega
theorem decide_self {l : List Int} : decide (l = l) = true := by simp

set_option maxRecDepth 100000 in
set_option maxHeartbeats 6400000 in
theorem lives_walk {D : World → (Nat → Prop) → Addr → DS → Prop} (api : DiskApi D) (n : Nat) (hn : 3 ≤ n ∧ n ≤ 64) (A : Option Addr) (len c : Nat) (ds : List DoV) (w : World) (hr : RDos w w.heap.size A len ds) (hlm : len ≤ maxLen) :
    Calls Try.prog 3 #[.int .i64 (n : Int), .slice A len c] w fun e w' => e = .returned (.bool true) ∧ Below w.heap.size w w' := by
  have k64 : decide ((n : Int) > 64) = false := by simp; omega
  have hlm' : len ≤ 9223372036854775807 := by unfold maxLen at hlm; omega
  go_enter Try.func3, Try.ntmps3
  go_wp2_with fail
  refine (law_new api (w0 := w) (n := (n : Int)) (by omega) (by omega) (Below.refl _ _)).mono ?_
  rintro e w1 ⟨p, F1, rfl, h1⟩
  go_wp2_with fail
  refine (refNew_any (n : Int) w1 (by omega)).mono ?_
  rintro e w2 ⟨x, G2, rfl, hx2, hb2, hG2⟩
  obtain ⟨gx, rfl⟩ := hx2.shape
  have hlt1 := h1.lt api
  have h2 : Two D w w2 F1 G2 p ⟨gx, 0, none⟩ (DS.new n) (DS.new n) := by
    have e : (n : Int).toNat = n := Int.toNat_natCast n
    rw [e] at h1 hx2
    refine ⟨h1.later api hb2, hx2, fun k hk => Nat.le_trans h1.below.size (hG2 k hk), fun k hf hg => ?_⟩
    have := hlt1 k hf
    have := hG2 k hg
    omega
  have H2 := Lib.hid h2
  have hsz2 := h2.below.size
  clear h1 hx2 hb2 hG2 hlt1
  go_wp2_with fail
  refine (few_any c (hr.below h2.below) hlm hsz2).mono ?_
  rintro e w3 ⟨bf, rfl, hfew, hb3⟩
  have h3 := h2.later api hb3
  have H3 := Lib.hid h3
  clear h2 H2 hsz2
  cases bf with
  | false =>
    have HB := Lib.hid h3.below
    clear h3 hfew hb3
    go_wp2_with (go_at_call 7; refine (diskAwake_any api _).mono ?_; rintro e w' ⟨rfl, hb⟩)
    go_ret
    exact ⟨rfl, HB.out.trans (hb.mono HB.out.size)⟩
  | true =>
    obtain ⟨hl60, hfew'⟩ := hfew rfl
    have HFEW := Lib.hid hfew'
    clear hfew hfew' hb3 h3
    go_wp2_with fail
    go_loopw [48] (fun i wr => ∃ (j : Nat) (F G : Nat → Prop) (S : DS), j ≤ len ∧ i = .int .i64 j ∧ Hid (Two D w wr F G p ⟨gx, 0, none⟩ S S) ∧ S.writes ≤ j ∧ S.n = n) (fun i _ => len - (intOf i).toNat)
    case atStart => exact ⟨0, F1, G2, _, Nat.zero_le _, rfl, H3, Nat.le_refl _, rfl⟩
    case round =>
      obtain ⟨j, F, G, S, hj, rfl, H, hwj, hsn⟩ := hrel
      clear H3
      by_cases hlt : j < len
      · obtain ⟨b, off, rfl, hb, hat⟩ := hr.2 (by omega)
        obtain ⟨d, hd, hdo⟩ := hat j hlt
        have hdo' := hdo.keep hb (fun b o hbb => H.out.below.cell (p := ⟨b, o, none⟩) hbb)
        obtain ⟨d0, d1, d2, d3, d4, d5, d6, d7, d8, d9⟩ := hdo'
        clear hat hdo hd
        have hwr : S.writes ≤ 9223372036854775806 := by omega
        have HK : DoCells wr.heap.size d ((wr.alloc (.cells #[.int .i64 d.op, .int .i64 d.i, .int .u8 d.b, .slice d.ka d.kn d.kc] 34)).drew) := DoCells.new wr d
        have H1 : Two D w ((wr.alloc (.cells #[.int .i64 d.op, .int .i64 d.i, .int .u8 d.b, .slice d.ka d.kn d.kc] 34)).drew) F G p ⟨gx, 0, none⟩ S S := H.out.later api (((Below.refl _ _).alloc (Nat.le_refl _) _).drew)
        have HWJ := Lib.hid (show (S.step d).writes ≤ j + 1 by have := (S.step_writes d).1; omega)
        have HSN := Lib.hid (show (S.step d).n = n from (S.step_writes d).2.trans hsn)
        clear hsn
        obtain ⟨q0, q1, q2, q3, q4⟩ := HK
        have r7 : RI ((wr.alloc (.cells #[.int .i64 d.op, .int .i64 d.i, .int .u8 d.b, .slice d.ka d.kn d.kc] 34)).drew) w.heap.size d.ka d.kn d.keep := d7.keep (fun b o hbb => ((Below.refl wr.heap.size wr).alloc (Nat.le_refl _) _).cell (p := ⟨b, o, none⟩) (Nat.lt_of_lt_of_le hbb H.out.below.size))
        clear d7
        go_wp2_with fail
        go_region_with
          (first
            | (go_at_call 11; refine (do_any api H1 d d5 d6 r7 d8 d9 hwr).mono ?_; rintro e w5 ⟨rfl, F5, G5, h5⟩; have t5 := h5.2.1.told)
            | (go_at_call 13; refine (law_pending api h5.1).mono ?_; rintro e w6 ⟨A6, n6, c6, rfl, hc6, hr6, hA6, _, hb6⟩; have h6 := h5.later api hb6; have t6 := h6.2.1.told)
            | (go_at_call 14; refine (refPending_any h6.2.1).mono ?_; rintro e w7 ⟨A7, n7, c7, rfl, hc7, hr7, hA7, hb7⟩; have h7 := h6.later api hb7; have t7 := h7.2.1.told; have m6 := hr6.below hb7)
            | (go_at_call 12; refine (EqualInts_any c6 c7 m6 hr7 (le_max_pending h7.2.1.okay m6) (le_max_pending h7.2.1.okay hr7) hb7.size (Nat.le_refl _)).mono ?_; rw [decide_self]; rintro e w8 ⟨rfl, hb8⟩; have h8 := h7.later api hb8; have t8 := h8.2.1.told)
            | (go_at_call 15; refine (api.writes _ _ _ _ h8.1.1).mono ?_; rintro e w9 ⟨rfl, hb9⟩; have h9 := h8.later api hb9; have t9 := h9.2.1.told)
            | (go_at_call 16; refine (api.down _ _ _ _ h9.1.1).mono ?_; rintro e w10 ⟨rfl, hb10⟩; have h10 := h9.later api hb10; have t10 := h10.2.1.told)
            | (go_at_call 17; refine (api.sizes _ _ _ _ h10.1.1).mono ?_; rw [HSN.out]; rintro e w11 ⟨rfl, hb11⟩; have h11 := h10.later api hb11))
        all_goals
          have H11 := Lib.hid h11
          clear h5 h6 h7 h8 h9 h10 h11 t5 t6 t7 t8 t9 t10 hr6 hr7 m6 hA6 hA7 hb6 hb7 hb8 hb9 hb10 hb11
          go_wp2
          go_roundw
          case rel => exact ⟨j + 1, F5, G5, _, by omega, by go_num, H11, HWJ.out, HSN.out⟩
          case measure => simp [intOf]; omega
      · obtain rfl : j = len := by omega
        have HB := Lib.hid H.out.below
        clear H
        go_wp2_with (go_at_call 7; refine (diskAwake_any api _).mono ?_; rintro e w' ⟨rfl, hb⟩)
        go_ret
        exact ⟨rfl, HB.out.trans (hb.mono HB.out.size)⟩

set_option maxHeartbeats 1600000 in
theorem lives_no {D : World → (Nat → Prop) → Addr → DS → Prop} (api : DiskApi D) (n : Int) (hn : ¬ (3 ≤ n ∧ n ≤ 65536)) (hbig : ¬ (64 < n ∧ n ≤ 65536)) (A : Option Addr) (len c : Nat) (w : World) :
    Calls Try.prog 3 #[.int .i64 n, .slice A len c] w fun e w' => e = .returned (.bool true) ∧ Below w.heap.size w w' := by
  by_cases h64 : n > 64
  · have k1 : decide (n > 64) = true := by simpa using h64
    have k2 : decide (n ≤ 65536) = false := by simp; omega
    go_enter Try.func3, Try.ntmps3
    go_wp2_with fail
    refine (api.newNo n w hn).mono ?_
    rintro e w1 ⟨rfl, rfl⟩
    go_wp2_with fail
    refine (refNew_no n w hn).mono ?_
    rintro e w1 ⟨rfl, rfl⟩
    go_wp2_with (go_at_call 7; refine (diskAwake_any api _).mono ?_; rintro e w' ⟨rfl, hb⟩)
    go_ret
    exact ⟨rfl, hb⟩
  · have k1 : decide (n > 64) = false := by simpa using h64
    go_enter Try.func3, Try.ntmps3
    go_wp2_with fail
    refine (api.newNo n w hn).mono ?_
    rintro e w1 ⟨rfl, rfl⟩
    go_wp2_with fail
    refine (refNew_no n w hn).mono ?_
    rintro e w1 ⟨rfl, rfl⟩
    go_wp2_with (go_at_call 7; refine (diskAwake_any api _).mono ?_; rintro e w' ⟨rfl, hb⟩)
    go_ret
    exact ⟨rfl, hb⟩

end Go.Proofs.Ytkpopdoigkcpgaa
