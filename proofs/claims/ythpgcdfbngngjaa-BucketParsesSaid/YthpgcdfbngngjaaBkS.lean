/-
  Contract of the plain bucket's Parse. Condition: a slice of bytes.
-/
import Derived.Test.YthpgcdfbngngjaaBkQ
import Derived.Test.YthpgcdfbngngjaaAnyT
import Derived.Deep.AppendLies
namespace Go.Proofs.Ythpgcdfbngngjaa
open Go.RowKit
set_option maxRecDepth 100000
set_option linter.unusedVariables false

theorem BkBox.set1 {w : World} {g n c : Nat} {d x x' : Int} {A : Option Addr} (h : BkBox w g d x A n c) : BkBox (w.setCell ⟨g, 1, none⟩ (.int .i64 x')) g d x' A n c := heap_setCell_same w g 1 _ _ (.int .i64 x') h
theorem getD_kN {l : List Int} (hb : AllBytes l) (hl : l.length = 240) {a : Nat} (ha : a < 240) : l[a]?.getD 0 = (kN l a : Int) := by
  obtain ⟨x, h1, h2, h3⟩ := getR_byte hb a
  rw [h3 (by omega)]
  unfold kN
  rw [h2, Int.toNat_natCast]
theorem getD_vN {l : List Int} (hb : AllBytes l) (hl : l.length = 240) {a : Nat} (ha : a + 1 < 240) : l[a + 1]?.getD 0 = (vN l a : Int) := by
  obtain ⟨x, h1, h2, h3⟩ := getR_byte hb (a + 1)
  rw [h3 (by omega)]
  unfold vN
  rw [h2, Int.toNat_natCast]

set_option maxHeartbeats 6400000 in
theorem refBkParse_any {w : World} {B n c : Nat} {A : Option Addr} {l : List Int} (hr : RB w B A n l) (hB : B ≤ w.heap.size) (hc : n ≤ c) (hm : n ≤ maxLen) :
    Calls Try.prog 26 #[.slice A n c] w fun e w' => ∃ A' n' c', e = .returned (.tuple #[.agg #[.int .i64 (parseBk l).1.d, .int .i64 (parseBk l).1.x, .slice A' n' c'], .int .i64 (parseBk l).2]) ∧ n' ≤ c' ∧ RPairs w' w'.heap.size A' n' (parseBk l).1.ps ∧ Below w.heap.size w w' := by
  unfold maxLen at hm
  have hX1 : Below w.heap.size w (w.alloc (BkObj 0 0 none 0 0)) := (Below.refl _ _).alloc (Nat.le_refl _) _
  have hbx0 := BkBox.new w 0 0 none 0 0
  by_cases h240 : n = 240
  · subst h240
    have hl := hr.len
    have HG := Lib.hid (fun (W : World) (hW : Below w.heap.size w W) (a s : Int) => refGet_any A 240 c B l a s W (hr.below (hW.mono hB)) hc (by decide))
    have HBN := Lib.hid (And.intro (getR_int hr.bytes 1 1) (And.intro (getR_int hr.bytes 2 4) (getR_int hr.bytes 6 2)))
    have HKB := Lib.hid (fun a => And.intro (kN_eq hr.bytes a).1 (vN_eq hr.bytes a).1)
    have HD : Hid ((readBk l).d = (getR l 1 1).1 ∧ (readBk l).x = (getR l 2 4).1 ∧ (readBk l).ps = cutsL l ((getR l 6 2).1).toNat 8 ∧ cntBk l = ((getR l 6 2).1).toNat) := Lib.hid ⟨rfl, rfl, rfl, rfl⟩
    have HAT := Lib.hid (fun a (ha : a < 240) => getD_kN hr.bytes hl ha)
    have HAT2 := Lib.hid (fun a (ha : a + 1 < 240) => getD_vN hr.bytes hl ha)
    have hD1 : l[1]?.getD 0 = (getR l 1 1).1 := by rw [HAT.out 1 (by decide)]; exact ((kN_eq hr.bytes 1).2).symm
    have hDb := (kN_eq hr.bytes 1)
    have hD8 : 0 ≤ (getR l 1 1).1 ∧ (getR l 1 1).1 < 256 := by rw [show (getR l 1 1).1 = (kN l 1 : Int) from hDb.2]; have := hDb.1; omega
    obtain ⟨b, off, rfl, hb, hcell⟩ := hr.at_ (by decide)
    have hx1 := hcell 1 (by decide)
    rw [hD1] at hx1
    have hx1' := (hX1.cell (p := ⟨b, off + 1, none⟩) (Nat.lt_of_lt_of_le hb hB)).trans hx1
    have HR := Lib.hid hr
    have HX1 := Lib.hid hX1
    have hs1 : (w.alloc (BkObj 0 0 none 0 0)).heap.size = w.heap.size + 1 := by simp
    have hbx1 := BkBox.new (w.alloc (BkObj 0 0 none 0 0)) (getR l 1 1).1 0 none 0 0
    have hX2 : Below (w.alloc (BkObj 0 0 none 0 0)).heap.size (w.alloc (BkObj 0 0 none 0 0)) ((w.alloc (BkObj 0 0 none 0 0)).alloc (BkObj (getR l 1 1).1 0 none 0 0)) := (Below.refl _ _).alloc (Nat.le_refl _) _
    rw [hs1] at hbx1
    have hb02 := hX1.trans (hX2.mono hX1.size)
    have hG1 := Lib.hid (HG.out _ hb02 2 4)
    have HX2 := Lib.hid (And.intro (hbx0.below hX2) (And.intro hbx1 hb02))
    have hbx3 := BkBox.new (w.alloc (BkObj 0 0 none 0 0)) (getR l 1 1).1 (getR l 2 4).1 none 0 0
    rw [hs1] at hbx3
    have hX3 : Below (w.alloc (BkObj 0 0 none 0 0)).heap.size (w.alloc (BkObj 0 0 none 0 0)) ((w.alloc (BkObj 0 0 none 0 0)).alloc (BkObj (getR l 1 1).1 (getR l 2 4).1 none 0 0)) := (Below.refl _ _).alloc (Nat.le_refl _) _
    have HX3 := Lib.hid (And.intro (hbx0.below hX3) (And.intro hbx3 (hX1.trans (hX3.mono hX1.size))))
    have hG3 := Lib.hid (HG.out _ HX3.out.2.2 6 2)
    clear hX1 hbx0 hbx1 hX2 hb02 hDb hD1 hr hcell hs1 hbx3 hX3
    obtain ⟨⟨b1, b2⟩, ⟨b3, b4⟩, ⟨b5, b6⟩⟩ := HBN.out
    obtain ⟨hD8, hD9⟩ := hD8
    generalize (getR l 1 1).1 = D0 at *
    generalize (getR l 2 4).1 = X0 at *
    generalize (getR l 6 2) = CC at *
    clear HBN HX2
    unfold BkObj at *
    go_enter Try.func26, Try.ntmps26
    go_wp2_with fail
    refine hG1.out.mono ?_
    rintro e w' ⟨rfl, rfl⟩
    go_wp2_with fail
    refine hG3.out.mono ?_
    rintro e w' ⟨rfl, rfl⟩
    clear hx1 hx1'
    go_wp2_with fail
    obtain ⟨C0, C1⟩ := CC
    obtain ⟨N, hN⟩ : ∃ N, C0.toNat = N := ⟨_, rfl⟩
    have HN := Lib.hid hN
    have HPS0 : Hid ((readBk l).ps = cutsL l N 8 ∧ cntBk l = N) := Lib.hid (by rw [← hN]; exact HD.out.2.2)
    clear hG1 hG3 hN
    go_loopw [7, 8] (fun av i wr => ∃ (j a : Nat) (A0 : Option Addr) (c0 : Nat) (m : List KV), j ≤ N ∧ a ≤ 240 ∧ i = .int .i64 j ∧ av = .int .i64 a ∧ 2 * j ≤ a ∧ Hid (m.length = j) ∧ Hid (cutsL l N 8 = m ++ cutsL l (N - j) a) ∧ Hid (KRow wr (bkF w.heap.size (fun _ => False)) (w.heap.size + 2) (.slice A0 j c0) m) ∧ Hid (BkBox wr w.heap.size 0 0 none 0 0 ∧ BkBox wr (w.heap.size + 1) D0 X0 A0 j c0 ∧ Below w.heap.size w wr)) (fun _ i _ => N - (intOf i).toNat)
    case atStart => exact ⟨0, 8, none, 0, [], Nat.zero_le _, by decide, rfl, rfl, by decide, Lib.hid rfl, Lib.hid rfl, Lib.hid (KRow.start _ _ _), HX3⟩
    case round =>
      clear HX3
      obtain ⟨j, a, A0, c0, m, hj, ha, rfl, rfl, hja, hml, hcuts, hrow, hbxs⟩ := hrel
      by_cases hlt : j < N
      · have hlt' : (j : Int) < C0 := by have := HN.out; omega
        have hshort := Lib.hid (fun (he : 240 < cutE l a) => parse_short (l := l) (by rw [HPS0.out.1, HPS0.out.2, hcuts.out, cutsL_stop he, List.append_nil, hml.out]; exact hlt))
        by_cases ha2 : 238 < a
        · have HPS := Lib.hid (hshort.out (by unfold cutE; omega))
          have ha2' : 238 < (a : Int) := by omega
          have hb0 := hbxs.out.1
          have HEND := Lib.hid (bkStore_last (d := 0) (x := 0) (Stays.none_ wr (fun k => k = w.heap.size)) (Nat.le_refl 0) hb0 (hbxs.out.2.2))
          have f0 := hb0.frozen 0
          have f1 := hb0.frozen 1
          have f2 := hb0.frozen 2
          obtain ⟨z0, z1, z2, _⟩ := hb0.cells
          clear hb0 hrow hbxs hcuts hshort
          go_wp2
          generalize hXX : (((wr.setCell ⟨w.heap.size, 0, none⟩ (Value.int IntKind.i64 0)).setCell ⟨w.heap.size, 1, none⟩ (Value.int IntKind.i64 0)).setCell ⟨w.heap.size, 2, none⟩ (Value.slice none 0 0)) = X at *
          obtain ⟨d0, d1, d2, _⟩ := HEND.out.1.cells
          refine bodyPost_ret (v := .tuple #[.agg #[.int .i64 0, .int .i64 0, .slice none 0 0], .int .i64 4]) (by
            simp [results, Try.results26, go_sem, d0, d1, d2]) rfl ?_
          rw [HPS.out]
          exact ⟨_, _, _, rfl, HEND.out.2.1, HEND.out.2.2.1, HEND.out.2.2.2⟩
        have ha2' : ¬ 238 < (a : Int) := by omega
        obtain ⟨_, _, eo, _, hcell⟩ := (HR.out.below (hbxs.out.2.2.mono hB)).at_ (by decide)
        cases eo
        have hka := hcell a (by omega)
        have hva := hcell (a + 1) (by omega)
        rw [HAT.out a (by omega)] at hka
        rw [HAT2.out a (by omega)] at hva
        have hva2 : wr.cell? ⟨b, off + (a + 1), none⟩ = some (.int .u8 (vN l a : Int)) := hva
        obtain ⟨hk256, hv256⟩ := HKB.out a
        have hEE := Lib.hid (show cutE l a = a + 2 + kN l a + vN l a from rfl)
        clear hva hcell
        by_cases he : 240 < cutE l a
        · have HPS := Lib.hid (hshort.out he)
          rw [hEE.out] at he
          generalize kN l a = k at *
          generalize vN l a = v at *
          have hfit : 238 - (a : Int) < (k : Int) + (v : Int) := by omega
          have HB3 := Lib.hid hbxs.out
          clear hrow hcuts hshort hbxs hEE
          go_wp2_with fail
          go_quiet (fail)
          generalize hgq : wr.drewN _ = Wq at *
          have hW : Below wr.heap.size wr Wq := by rw [← hgq]; exact below_drewN (Below.refl _ _) _
          have hb0 := HB3.out.1.below hW
          have HEND := Lib.hid (bkStore_last (d := 0) (x := 0) (Stays.none_ Wq (fun k => k = w.heap.size)) (Nat.le_refl 0) hb0 (HB3.out.2.2.trans (hW.mono HB3.out.2.2.size)))
          have f0 := hb0.frozen 0
          have f1 := hb0.frozen 1
          have f2 := hb0.frozen 2
          obtain ⟨z0, z1, z2, _⟩ := hb0.cells
          clear hb0 hka hva2
          go_wp2
          generalize hXX : (((Wq.setCell ⟨w.heap.size, 0, none⟩ (Value.int IntKind.i64 0)).setCell ⟨w.heap.size, 1, none⟩ (Value.int IntKind.i64 0)).setCell ⟨w.heap.size, 2, none⟩ (Value.slice none 0 0)) = X at *
          obtain ⟨d0, d1, d2, _⟩ := HEND.out.1.cells
          refine bodyPost_ret (v := .tuple #[.agg #[.int .i64 0, .int .i64 0, .slice none 0 0], .int .i64 4]) (by
            simp [results, Try.results26, go_sem, d0, d1, d2]) rfl ?_
          rw [HPS.out]
          exact ⟨_, _, _, rfl, HEND.out.2.1, HEND.out.2.2.1, HEND.out.2.2.2⟩
        · have HNX := Lib.hid (show cutsL l N 8 = (m ++ [(cutK l a, cutV l a)]) ++ cutsL l (N - (j + 1)) (cutE l a) from by
            rw [hcuts.out, show N - j = (N - (j + 1)) + 1 by omega, cutsL_go he]
            simp)
          have hfit : a + 2 + kN l a + vN l a ≤ 240 := by rw [hEE.out] at he; omega
          have HEE : Hid (2 * (j + 1) ≤ cutE l a ∧ cutE l a = a + 2 + kN l a + vN l a) := Lib.hid (by rw [hEE.out]; omega)
          have HK1 := Lib.hid (fun (W : World) (hW : Below w.heap.size w W) => show RB W B (some ⟨b, off + (a + 2), none⟩) (kN l a) (cutK l a) from (HR.out.below (hW.mono hB)).sub (by decide) (by omega))
          have HK0 := Lib.hid (fun (W : World) (AA : Option Addr) (h0 : kN l a = 0) => show RB W B AA (kN l a) (cutK l a) from RB.sub0 h0)
          have HV1 := Lib.hid (fun (W : World) (hW : Below w.heap.size w W) => show RB W B (some ⟨b, off + (a + 2 + kN l a), none⟩) (vN l a) (cutV l a) from (HR.out.below (hW.mono hB)).sub (by decide) (by omega))
          have HV0 := Lib.hid (fun (W : World) (AA : Option Addr) (h0 : vN l a = 0) => show RB W B AA (vN l a) (cutV l a) from RB.sub0 h0)
          clear he hEE hcuts hshort
          generalize cutE l a = E at *
          generalize cutK l a = K at *
          generalize cutV l a = V at *
          generalize kN l a = k at *
          generalize vN l a = v at *
          have hroom : ¬ (238 - (a : Int) < (k : Int) + (v : Int)) := by omega
          go_wp2_with fail
          go_quiet (fail)
          generalize hgq : wr.drewN _ = Wq at *
          have hW : Below wr.heap.size wr Wq := by rw [← hgq]; exact below_drewN (Below.refl _ _) _
          have HBX := Lib.hid (And.intro (hbxs.out.1.below hW) (And.intro (hbxs.out.2.1.below hW) (hbxs.out.2.2.trans (hW.mono hbxs.out.2.2.size))))
          have HROW := Lib.hid (hrow.out.below hW)
          have hB2 := Nat.le_trans hB HBX.out.2.2.size
          have hj32 : j ≤ 4294967296 := by omega
          have hps : w.heap.size + 1 < Wq.heap.size := HBX.out.2.1.cells.2.2.2
          clear hka hva2 hrow hbxs hW hgq
          by_cases E1 : a + 2 = c
          · have E2 : a + 2 + k = c := by omega
            have hrk : RB Wq B (some ⟨b, off, none⟩) k K := (HK0.out _ _ (by omega))
            have tok1 : True := trivial
            go_wp2_with (at_builtin; refine wpList_append_bytes rfl _ _ rfl Wq.heap.size (.slice none 0 0) 0 [] rfl ⟨rfl, .inl ⟨rfl, rfl⟩⟩ B _ _ _ K rfl (hrk.cast_ (by omega)) (by omega) (Nat.le_refl _) ?_; intro v11 w11 hown11 hg11 hb11; have hown11 := own_relen (k := k) hown11 (by rw [List.nil_append, List.length_map]; exact hrk.len); obtain ⟨KA, kc, hv11, hkc⟩ := own_shape hown11; subst hv11)
            have hbw1 := HBX.out.2.2.trans (hb11.mono HBX.out.2.2.size)
            have hFq : ∀ q, bkF w.heap.size (fun _ => False) q → q < Wq.heap.size := fun q hq => by rcases hq with hq | hq | hq <;> first | omega | exact hq.elim
            have hFar := KFar.new HROW.out hFq hown11 hrk.bytes hk256
            have hbp := HBX.out.2.1.below hb11
            obtain ⟨s2, hs2⟩ : ∃ s2, s2 = a + 2 + k := ⟨_, rfl⟩
            obtain ⟨s3, hs3⟩ : ∃ s3, s3 = a + 2 + k + v := ⟨_, rfl⟩
            obtain ⟨s1, hs1⟩ : ∃ s1, s1 = a + 2 := ⟨_, rfl⟩
            have hrv : RB w11.drew B (some ⟨b, off, none⟩) v V := (HV0.out _ _ (by omega)).drew
            have q1 : IntKind.i64.wrap ((a : Int) + 2) = (s1 : Int) := by rw [IntKind.wrap_i64]; omega
            have q2 : IntKind.i64.wrap ((s1 : Int) + (k : Int)) = (s2 : Int) := by rw [IntKind.wrap_i64]; omega
            have q3 : IntKind.i64.wrap ((s2 : Int) + (v : Int)) = (s3 : Int) := by rw [IntKind.wrap_i64]; omega
            have q4 : s3 ≤ c := by omega
            have q5 : s2 ≤ s3 := by omega
            have q6 : max (s3 : Int) 0 = (s3 : Int) := by omega
            obtain rfl : s2 = c := by omega
            have q8 : s3 ≤ s2 := by omega
            have QS := Lib.hid (show s3 - s2 = v by omega)
            have QE := Lib.hid (show s3 = E by rw [HEE.out.2]; omega)
            clear hs1 hs2 hs3 E2 E1
            have HSTEP := Lib.hid (fun w5 v5 o5 b5 => bkRefPush (w0 := w) (w5 := w5) (v5 := v5) (vn := v) (HROW.out.below hb11) hml.out hj32 (fun q hq => Nat.lt_of_lt_of_le (hFq q hq) hb11.size) (HBX.out.1.below hb11) hbp (.inl rfl) (.inr (.inl rfl)) hFar hrv.bytes hv256 hbw1 (by omega) (by have := hb11.size; omega) o5 b5 29)
            have l2 : w11.drew.cell? ⟨w.heap.size + 1, 2, none⟩ = some (.slice A0 j c0) := hbp.cells.2.2.1
            clear hown11 hg11 hb11 hbp hFar hFq hbw1
            go_wp2_with fail
            refine wp_region_any (by rfl) ?_
            change wpAny _ _ _ _ _ _ _ w11.drew
            refine wpAny_take (i := 0) (oi := { dst := some 69, op := _, type := _, pos := _, after := _, guard := _ }) (v := .pointer (some ⟨w.heap.size + 1, 2, none⟩)) rfl (by kernel_rfl) (by kernel_rfl) (by kernel_rfl) (fun _ _ _ h => h) (Or.inl ⟨by rfl, fun wz => ?_⟩) ?_
            · go_simp
            try simp only [Act.put, List.setIfInBounds_toArray, List.set_cons_zero, List.set_cons_succ]
            refine wpAny_take (i := 2) (oi := { dst := some 71, op := _, type := _, pos := _, after := _, guard := _ }) (v := .slice KA k kc) rfl (by kernel_rfl) (by kernel_rfl) (by kernel_rfl) (fun _ _ _ h => h) (Or.inl ⟨by rfl, fun wz => ?_⟩) ?_
            · go_simp
            try simp only [Act.put, List.setIfInBounds_toArray, List.set_cons_zero, List.set_cons_succ]
            refine wpAny_take (i := 3) (oi := { dst := some 72, op := _, type := _, pos := _, after := _, guard := _ }) (v := .slice (some ⟨b, off, none⟩) 240 s2) rfl (by kernel_rfl) (by kernel_rfl) (by kernel_rfl) (fun _ _ _ h => h) (Or.inl ⟨by rfl, fun wz => ?_⟩) ?_
            · go_simp
            try simp only [Act.put, List.setIfInBounds_toArray, List.set_cons_zero, List.set_cons_succ]
            refine wpAny_take (i := 4) (oi := { dst := some 73, op := _, type := _, pos := _, after := _, guard := _ }) (v := .int .i64 (a : Int)) rfl (by kernel_rfl) (by kernel_rfl) (by kernel_rfl) (fun _ _ _ h => h) (Or.inl ⟨by rfl, fun wz => ?_⟩) ?_
            · go_simp
            try simp only [Act.put, List.setIfInBounds_toArray, List.set_cons_zero, List.set_cons_succ]
            refine wpAny_take (i := 5) (oi := { dst := some 74, op := _, type := _, pos := _, after := _, guard := _ }) (v := .int .i64 (s1 : Int)) rfl (by kernel_rfl) (by kernel_rfl) (by kernel_rfl) (fun _ _ _ h => h) (Or.inl ⟨by rfl, fun wz => ?_⟩) ?_
            · go_simp
            try simp only [Act.put, List.setIfInBounds_toArray, List.set_cons_zero, List.set_cons_succ]
            refine wpAny_take (i := 6) (oi := { dst := some 75, op := _, type := _, pos := _, after := _, guard := _ }) (v := .int .i64 (k : Int)) rfl (by kernel_rfl) (by kernel_rfl) (by kernel_rfl) (fun _ _ _ h => h) (Or.inl ⟨by rfl, fun wz => ?_⟩) ?_
            · go_simp
            try simp only [Act.put, List.setIfInBounds_toArray, List.set_cons_zero, List.set_cons_succ]
            refine wpAny_take (i := 7) (oi := { dst := some 76, op := _, type := _, pos := _, after := _, guard := _ }) (v := .int .i64 (s2 : Int)) rfl (by kernel_rfl) (by kernel_rfl) (by kernel_rfl) (fun _ _ _ h => h) (Or.inl ⟨by rfl, fun wz => ?_⟩) ?_
            · go_simp
            try simp only [Act.put, List.setIfInBounds_toArray, List.set_cons_zero, List.set_cons_succ]
            refine wpAny_take (i := 8) (oi := { dst := some 77, op := _, type := _, pos := _, after := _, guard := _ }) (v := .int .i64 (a : Int)) rfl (by kernel_rfl) (by kernel_rfl) (by kernel_rfl) (fun _ _ _ h => h) (Or.inl ⟨by rfl, fun wz => ?_⟩) ?_
            · go_simp
            try simp only [Act.put, List.setIfInBounds_toArray, List.set_cons_zero, List.set_cons_succ]
            refine wpAny_take (i := 9) (oi := { dst := some 78, op := _, type := _, pos := _, after := _, guard := _ }) (v := .int .i64 (s1 : Int)) rfl (by kernel_rfl) (by kernel_rfl) (by kernel_rfl) (fun _ _ _ h => h) (Or.inl ⟨by rfl, fun wz => ?_⟩) ?_
            · go_simp
            try simp only [Act.put, List.setIfInBounds_toArray, List.set_cons_zero, List.set_cons_succ]
            refine wpAny_take (i := 10) (oi := { dst := some 79, op := _, type := _, pos := _, after := _, guard := _ }) (v := .int .i64 (k : Int)) rfl (by kernel_rfl) (by kernel_rfl) (by kernel_rfl) (fun _ _ _ h => h) (Or.inl ⟨by rfl, fun wz => ?_⟩) ?_
            · go_simp
            try simp only [Act.put, List.setIfInBounds_toArray, List.set_cons_zero, List.set_cons_succ]
            refine wpAny_take (i := 11) (oi := { dst := some 80, op := _, type := _, pos := _, after := _, guard := _ }) (v := .int .i64 (s2 : Int)) rfl (by kernel_rfl) (by kernel_rfl) (by kernel_rfl) (fun _ _ _ h => h) (Or.inl ⟨by rfl, fun wz => ?_⟩) ?_
            · go_simp
            try simp only [Act.put, List.setIfInBounds_toArray, List.set_cons_zero, List.set_cons_succ]
            refine wpAny_take (i := 12) (oi := { dst := some 81, op := _, type := _, pos := _, after := _, guard := _ }) (v := .int .i64 (v : Int)) rfl (by kernel_rfl) (by kernel_rfl) (by kernel_rfl) (fun _ _ _ h => h) (Or.inl ⟨by rfl, fun wz => ?_⟩) ?_
            · go_simp
            try simp only [Act.put, List.setIfInBounds_toArray, List.set_cons_zero, List.set_cons_succ]
            refine wpAny_take (i := 13) (oi := { dst := some 82, op := _, type := _, pos := _, after := _, guard := _ }) (v := .int .i64 (s3 : Int)) rfl (by kernel_rfl) (by kernel_rfl) (by kernel_rfl) (fun _ _ _ h => h) (Or.inl ⟨by rfl, fun wz => ?_⟩) ?_
            · go_simp
            try simp only [Act.put, List.setIfInBounds_toArray, List.set_cons_zero, List.set_cons_succ]
            refine wpAny_take (i := 14) (oi := { dst := some 83, op := _, type := _, pos := _, after := _, guard := _ }) (v := .slice (some ⟨b, off, none⟩) v (s2 - s2)) rfl (by kernel_rfl) (by kernel_rfl) (by kernel_rfl) (fun _ _ _ h => h) (Or.inl ⟨by rfl, fun wz => ?_⟩) ?_
            · go_simp
              all_goals (have := QS.out; omega)
            try simp only [Act.put, List.setIfInBounds_toArray, List.set_cons_zero, List.set_cons_succ]
            refine wpAny_take_read (i := 1) (oi := { dst := some 70, op := _, type := _, pos := _, after := _, guard := _ }) (v := .slice A0 j c0) (fun wz => wz.cell? ⟨w.heap.size + 1, 2, none⟩ = some (.slice A0 j c0)) rfl (by kernel_rfl) (by kernel_rfl) (by kernel_rfl) (fun _ _ _ h => h) (Or.inl ⟨by rfl, fun wz hS => ?_⟩) l2 ?_
            · go_simp
            try simp only [Act.put, List.setIfInBounds_toArray, List.set_cons_zero, List.set_cons_succ]
            refine wpAnyT_one (j := 15) (o := { dst := some 84, op := .call { callee := .builtin .append, args := #[.const (.slice none 0 0), .tmp 83], argTypes := #[22, 22] }, type := _, pos := _, after := _, guard := none }) rfl (by kernel_rfl) (by kernel_rfl) ?_
            intro K1 hK1
            have o0 : w11.drew.ownsRow w11.heap.size 5 1 (.slice none 0 0) 0 (([] : List Int).map (Value.int .u8)) := ⟨rfl, .inl ⟨rfl, rfl⟩⟩
            have hrv2 : RB w11.drew B (some ⟨b, off, none⟩) v V := hrv
            with_reducible refine step_append_bytes2 ?_ (.const (.slice none 0 0)) (.tmp 83) ?_ w11.heap.size (.slice none 0 0) 0 [] ?_ o0 B (some ⟨b, off, none⟩) v (s2 - s2) V ?_ hrv2 ?_ ?_ ?_
            · rfl
            · rfl
            · rfl
            · rfl
            · omega
            · exact Nat.le_refl _
            intro v5 w5 o5 b5
            obtain ⟨va, vc, A8, c8, w8, hv5, r8, x5, x6, hfin⟩ := HSTEP.out w5 v5 (own_relen o5 (by simpa using hrv.len)) b5
            subst hv5
            have R8 := Lib.hid r8
            have HFN := Lib.hid hfin
            have f8 := hfin.2.2.1.frozen 2
            have z8 := hfin.2.2.1.cells.2.2.1
            refine hK1 _ _ x5.cells.2.2.1 ?_
            clear hK1 K1
            try simp only [Act.put, List.setIfInBounds_toArray, List.set_cons_zero, List.set_cons_succ]
            refine wpAnyT_yield (j := 16) (o := { dst := some 85, op := _, type := _, pos := _, after := _, guard := _ }) (v := .agg #[.slice KA k kc, .slice va v vc]) rfl (by kernel_rfl) (by kernel_rfl) (Or.inl ⟨by rfl, fun wz hS => ?_⟩) x5.cells.2.2.1 ?_
            · go_simp
            try simp only [Act.put, List.setIfInBounds_toArray, List.set_cons_zero, List.set_cons_succ]
            refine wpAnyT_one (j := 17) (o := { dst := some 86, op := _, type := _, pos := _, after := _, guard := _ }) rfl (by kernel_rfl) (by kernel_rfl) ?_
            intro K1 hK1
            rw [if_pos (by rfl)]
            go_simp
            refine hK1 _ _ x6.cells.2.2.1 ?_
            clear hK1 K1
            try simp only [Act.put, List.setIfInBounds_toArray, List.set_cons_zero, List.set_cons_succ]
            refine wpAnyT_last (j := 18) (o := { dst := some 87, op := _, type := _, pos := _, after := _, guard := _ }) rfl (by kernel_rfl) (by kernel_rfl) ?_
            intro K1 hK1
            refine step_append_run (by rfl) (.tmp 70) (.tmp 86) _ _ (by rfl) _ _ (by rfl) (by rfl) R8.out ?_
            refine hK1 _ _ ?_
            clear hK1 K1
            try simp only [Act.put, List.setIfInBounds_toArray, List.set_cons_zero, List.set_cons_succ]
            refine wpAny_take (i := 19) (oi := { dst := some 88, op := _, type := _, pos := _, after := _, guard := _ }) (v := .pointer (some ⟨w.heap.size + 1, 2, none⟩)) rfl (by kernel_rfl) (by kernel_rfl) (by kernel_rfl) (fun _ _ _ h => h) (Or.inl ⟨by rfl, fun wz => ?_⟩) ?_
            · go_simp
            try simp only [Act.put, List.setIfInBounds_toArray, List.set_cons_zero, List.set_cons_succ]
            refine wpAny_one (j := 20) (o := { dst := none, op := _, type := _, pos := _, after := _, guard := _ }) rfl (by kernel_rfl) ?_
            intro K1 hK1
            rw [if_pos (by rfl)]
            go_simp
            refine hK1 _ _ ?_
            clear hK1 K1
            refine wpAny_done (by kernel_rfl) ?_ _
            have HEND := Lib.hid (show KRow (w8.setCell ⟨w.heap.size + 1, 2, none⟩ (.slice A8 (j + 1) c8)) (bkF w.heap.size (fun _ => False)) (w.heap.size + 2) (.slice A8 (j + 1) c8) (m ++ [(K, V)]) ∧ BkBox (w8.setCell ⟨w.heap.size + 1, 2, none⟩ (.slice A8 (j + 1) c8)) w.heap.size 0 0 none 0 0 ∧ BkBox (w8.setCell ⟨w.heap.size + 1, 2, none⟩ (.slice A8 (j + 1) c8)) (w.heap.size + 1) D0 X0 A8 (j + 1) c8 ∧ Below w.heap.size w (w8.setCell ⟨w.heap.size + 1, 2, none⟩ (.slice A8 (j + 1) c8)) from ⟨HFN.out.1.setCell (p := ⟨w.heap.size + 1, 2, none⟩) (.inr (.inl rfl)) _, HFN.out.2.1.apart (by omega), HFN.out.2.2.1.set2, HFN.out.2.2.2.setCell (p := ⟨w.heap.size + 1, 2, none⟩) (by show _ ≤ w.heap.size + 1; omega) _⟩)
            clear HFN R8 HSTEP o5 b5 x5 x6 r8 hfin f8 z8 l2 hrv hrv2 o0
            go_wp2
            go_roundw
            case rel => exact ⟨j + 1, E, A8, c8, m ++ [(K, V)], by omega, by have := HEE.out; omega, by go_num, by rw [QE.out], HEE.out.1, Lib.hid (by rw [List.length_append, hml.out]; rfl), HNX, Lib.hid HEND.out.1, Lib.hid ⟨HEND.out.2.1, HEND.out.2.2.1, HEND.out.2.2.2⟩⟩
            case measure => simp [intOf]; omega
          · by_cases E2 : a + 2 + k = c
            · have _t0 := trivial
              have hrk : RB Wq B (some ⟨b, off + (a + 2), none⟩) k K := (HK1.out _ HBX.out.2.2)
              have tok1 : True := trivial
              go_wp2_with (at_builtin; refine wpList_append_bytes rfl _ _ rfl Wq.heap.size (.slice none 0 0) 0 [] rfl ⟨rfl, .inl ⟨rfl, rfl⟩⟩ B _ _ _ K rfl (hrk.cast_ (by omega)) (by omega) (Nat.le_refl _) ?_; intro v11 w11 hown11 hg11 hb11; have hown11 := own_relen (k := k) hown11 (by rw [List.nil_append, List.length_map]; exact hrk.len); obtain ⟨KA, kc, hv11, hkc⟩ := own_shape hown11; subst hv11)
              have hbw1 := HBX.out.2.2.trans (hb11.mono HBX.out.2.2.size)
              have hFq : ∀ q, bkF w.heap.size (fun _ => False) q → q < Wq.heap.size := fun q hq => by rcases hq with hq | hq | hq <;> first | omega | exact hq.elim
              have hFar := KFar.new HROW.out hFq hown11 hrk.bytes hk256
              have hbp := HBX.out.2.1.below hb11
              obtain ⟨s2, hs2⟩ : ∃ s2, s2 = a + 2 + k := ⟨_, rfl⟩
              obtain ⟨s3, hs3⟩ : ∃ s3, s3 = a + 2 + k + v := ⟨_, rfl⟩
              obtain ⟨s1, hs1⟩ : ∃ s1, s1 = a + 2 := ⟨_, rfl⟩
              have hrv : RB w11.drew B (some ⟨b, off, none⟩) v V := (HV0.out _ _ (by omega)).drew
              have q1 : IntKind.i64.wrap ((a : Int) + 2) = (s1 : Int) := by rw [IntKind.wrap_i64]; omega
              have q2 : IntKind.i64.wrap ((s1 : Int) + (k : Int)) = (s2 : Int) := by rw [IntKind.wrap_i64]; omega
              have q3 : IntKind.i64.wrap ((s2 : Int) + (v : Int)) = (s3 : Int) := by rw [IntKind.wrap_i64]; omega
              have q4 : s3 ≤ c := by omega
              have q5 : s2 ≤ s3 := by omega
              have q6 : max (s3 : Int) 0 = (s3 : Int) := by omega
              obtain rfl : s2 = c := by omega
              have q8 : s3 ≤ s2 := by omega
              have QS := Lib.hid (show s3 - s2 = v by omega)
              have QE := Lib.hid (show s3 = E by rw [HEE.out.2]; omega)
              clear hs1 hs2 hs3 E2 E1
              have HSTEP := Lib.hid (fun w5 v5 o5 b5 => bkRefPush (w0 := w) (w5 := w5) (v5 := v5) (vn := v) (HROW.out.below hb11) hml.out hj32 (fun q hq => Nat.lt_of_lt_of_le (hFq q hq) hb11.size) (HBX.out.1.below hb11) hbp (.inl rfl) (.inr (.inl rfl)) hFar hrv.bytes hv256 hbw1 (by omega) (by have := hb11.size; omega) o5 b5 29)
              have l2 : w11.drew.cell? ⟨w.heap.size + 1, 2, none⟩ = some (.slice A0 j c0) := hbp.cells.2.2.1
              clear hown11 hg11 hb11 hbp hFar hFq hbw1
              go_wp2_with fail
              refine wp_region_any (by rfl) ?_
              change wpAny _ _ _ _ _ _ _ w11.drew
              refine wpAny_take (i := 0) (oi := { dst := some 69, op := _, type := _, pos := _, after := _, guard := _ }) (v := .pointer (some ⟨w.heap.size + 1, 2, none⟩)) rfl (by kernel_rfl) (by kernel_rfl) (by kernel_rfl) (fun _ _ _ h => h) (Or.inl ⟨by rfl, fun wz => ?_⟩) ?_
              · go_simp
              try simp only [Act.put, List.setIfInBounds_toArray, List.set_cons_zero, List.set_cons_succ]
              refine wpAny_take (i := 2) (oi := { dst := some 71, op := _, type := _, pos := _, after := _, guard := _ }) (v := .slice KA k kc) rfl (by kernel_rfl) (by kernel_rfl) (by kernel_rfl) (fun _ _ _ h => h) (Or.inl ⟨by rfl, fun wz => ?_⟩) ?_
              · go_simp
              try simp only [Act.put, List.setIfInBounds_toArray, List.set_cons_zero, List.set_cons_succ]
              refine wpAny_take (i := 3) (oi := { dst := some 72, op := _, type := _, pos := _, after := _, guard := _ }) (v := .slice (some ⟨b, off, none⟩) 240 s2) rfl (by kernel_rfl) (by kernel_rfl) (by kernel_rfl) (fun _ _ _ h => h) (Or.inl ⟨by rfl, fun wz => ?_⟩) ?_
              · go_simp
              try simp only [Act.put, List.setIfInBounds_toArray, List.set_cons_zero, List.set_cons_succ]
              refine wpAny_take (i := 4) (oi := { dst := some 73, op := _, type := _, pos := _, after := _, guard := _ }) (v := .int .i64 (a : Int)) rfl (by kernel_rfl) (by kernel_rfl) (by kernel_rfl) (fun _ _ _ h => h) (Or.inl ⟨by rfl, fun wz => ?_⟩) ?_
              · go_simp
              try simp only [Act.put, List.setIfInBounds_toArray, List.set_cons_zero, List.set_cons_succ]
              refine wpAny_take (i := 5) (oi := { dst := some 74, op := _, type := _, pos := _, after := _, guard := _ }) (v := .int .i64 (s1 : Int)) rfl (by kernel_rfl) (by kernel_rfl) (by kernel_rfl) (fun _ _ _ h => h) (Or.inl ⟨by rfl, fun wz => ?_⟩) ?_
              · go_simp
              try simp only [Act.put, List.setIfInBounds_toArray, List.set_cons_zero, List.set_cons_succ]
              refine wpAny_take (i := 6) (oi := { dst := some 75, op := _, type := _, pos := _, after := _, guard := _ }) (v := .int .i64 (k : Int)) rfl (by kernel_rfl) (by kernel_rfl) (by kernel_rfl) (fun _ _ _ h => h) (Or.inl ⟨by rfl, fun wz => ?_⟩) ?_
              · go_simp
              try simp only [Act.put, List.setIfInBounds_toArray, List.set_cons_zero, List.set_cons_succ]
              refine wpAny_take (i := 7) (oi := { dst := some 76, op := _, type := _, pos := _, after := _, guard := _ }) (v := .int .i64 (s2 : Int)) rfl (by kernel_rfl) (by kernel_rfl) (by kernel_rfl) (fun _ _ _ h => h) (Or.inl ⟨by rfl, fun wz => ?_⟩) ?_
              · go_simp
              try simp only [Act.put, List.setIfInBounds_toArray, List.set_cons_zero, List.set_cons_succ]
              refine wpAny_take (i := 8) (oi := { dst := some 77, op := _, type := _, pos := _, after := _, guard := _ }) (v := .int .i64 (a : Int)) rfl (by kernel_rfl) (by kernel_rfl) (by kernel_rfl) (fun _ _ _ h => h) (Or.inl ⟨by rfl, fun wz => ?_⟩) ?_
              · go_simp
              try simp only [Act.put, List.setIfInBounds_toArray, List.set_cons_zero, List.set_cons_succ]
              refine wpAny_take (i := 9) (oi := { dst := some 78, op := _, type := _, pos := _, after := _, guard := _ }) (v := .int .i64 (s1 : Int)) rfl (by kernel_rfl) (by kernel_rfl) (by kernel_rfl) (fun _ _ _ h => h) (Or.inl ⟨by rfl, fun wz => ?_⟩) ?_
              · go_simp
              try simp only [Act.put, List.setIfInBounds_toArray, List.set_cons_zero, List.set_cons_succ]
              refine wpAny_take (i := 10) (oi := { dst := some 79, op := _, type := _, pos := _, after := _, guard := _ }) (v := .int .i64 (k : Int)) rfl (by kernel_rfl) (by kernel_rfl) (by kernel_rfl) (fun _ _ _ h => h) (Or.inl ⟨by rfl, fun wz => ?_⟩) ?_
              · go_simp
              try simp only [Act.put, List.setIfInBounds_toArray, List.set_cons_zero, List.set_cons_succ]
              refine wpAny_take (i := 11) (oi := { dst := some 80, op := _, type := _, pos := _, after := _, guard := _ }) (v := .int .i64 (s2 : Int)) rfl (by kernel_rfl) (by kernel_rfl) (by kernel_rfl) (fun _ _ _ h => h) (Or.inl ⟨by rfl, fun wz => ?_⟩) ?_
              · go_simp
              try simp only [Act.put, List.setIfInBounds_toArray, List.set_cons_zero, List.set_cons_succ]
              refine wpAny_take (i := 12) (oi := { dst := some 81, op := _, type := _, pos := _, after := _, guard := _ }) (v := .int .i64 (v : Int)) rfl (by kernel_rfl) (by kernel_rfl) (by kernel_rfl) (fun _ _ _ h => h) (Or.inl ⟨by rfl, fun wz => ?_⟩) ?_
              · go_simp
              try simp only [Act.put, List.setIfInBounds_toArray, List.set_cons_zero, List.set_cons_succ]
              refine wpAny_take (i := 13) (oi := { dst := some 82, op := _, type := _, pos := _, after := _, guard := _ }) (v := .int .i64 (s3 : Int)) rfl (by kernel_rfl) (by kernel_rfl) (by kernel_rfl) (fun _ _ _ h => h) (Or.inl ⟨by rfl, fun wz => ?_⟩) ?_
              · go_simp
              try simp only [Act.put, List.setIfInBounds_toArray, List.set_cons_zero, List.set_cons_succ]
              refine wpAny_take (i := 14) (oi := { dst := some 83, op := _, type := _, pos := _, after := _, guard := _ }) (v := .slice (some ⟨b, off, none⟩) v (s2 - s2)) rfl (by kernel_rfl) (by kernel_rfl) (by kernel_rfl) (fun _ _ _ h => h) (Or.inl ⟨by rfl, fun wz => ?_⟩) ?_
              · go_simp
                all_goals (have := QS.out; omega)
              try simp only [Act.put, List.setIfInBounds_toArray, List.set_cons_zero, List.set_cons_succ]
              refine wpAny_take_read (i := 1) (oi := { dst := some 70, op := _, type := _, pos := _, after := _, guard := _ }) (v := .slice A0 j c0) (fun wz => wz.cell? ⟨w.heap.size + 1, 2, none⟩ = some (.slice A0 j c0)) rfl (by kernel_rfl) (by kernel_rfl) (by kernel_rfl) (fun _ _ _ h => h) (Or.inl ⟨by rfl, fun wz hS => ?_⟩) l2 ?_
              · go_simp
              try simp only [Act.put, List.setIfInBounds_toArray, List.set_cons_zero, List.set_cons_succ]
              refine wpAnyT_one (j := 15) (o := { dst := some 84, op := .call { callee := .builtin .append, args := #[.const (.slice none 0 0), .tmp 83], argTypes := #[22, 22] }, type := _, pos := _, after := _, guard := none }) rfl (by kernel_rfl) (by kernel_rfl) ?_
              intro K1 hK1
              have o0 : w11.drew.ownsRow w11.heap.size 5 1 (.slice none 0 0) 0 (([] : List Int).map (Value.int .u8)) := ⟨rfl, .inl ⟨rfl, rfl⟩⟩
              have hrv2 : RB w11.drew B (some ⟨b, off, none⟩) v V := hrv
              with_reducible refine step_append_bytes2 ?_ (.const (.slice none 0 0)) (.tmp 83) ?_ w11.heap.size (.slice none 0 0) 0 [] ?_ o0 B (some ⟨b, off, none⟩) v (s2 - s2) V ?_ hrv2 ?_ ?_ ?_
              · rfl
              · rfl
              · rfl
              · rfl
              · omega
              · exact Nat.le_refl _
              intro v5 w5 o5 b5
              obtain ⟨va, vc, A8, c8, w8, hv5, r8, x5, x6, hfin⟩ := HSTEP.out w5 v5 (own_relen o5 (by simpa using hrv.len)) b5
              subst hv5
              have R8 := Lib.hid r8
              have HFN := Lib.hid hfin
              have f8 := hfin.2.2.1.frozen 2
              have z8 := hfin.2.2.1.cells.2.2.1
              refine hK1 _ _ x5.cells.2.2.1 ?_
              clear hK1 K1
              try simp only [Act.put, List.setIfInBounds_toArray, List.set_cons_zero, List.set_cons_succ]
              refine wpAnyT_yield (j := 16) (o := { dst := some 85, op := _, type := _, pos := _, after := _, guard := _ }) (v := .agg #[.slice KA k kc, .slice va v vc]) rfl (by kernel_rfl) (by kernel_rfl) (Or.inl ⟨by rfl, fun wz hS => ?_⟩) x5.cells.2.2.1 ?_
              · go_simp
              try simp only [Act.put, List.setIfInBounds_toArray, List.set_cons_zero, List.set_cons_succ]
              refine wpAnyT_one (j := 17) (o := { dst := some 86, op := _, type := _, pos := _, after := _, guard := _ }) rfl (by kernel_rfl) (by kernel_rfl) ?_
              intro K1 hK1
              rw [if_pos (by rfl)]
              go_simp
              refine hK1 _ _ x6.cells.2.2.1 ?_
              clear hK1 K1
              try simp only [Act.put, List.setIfInBounds_toArray, List.set_cons_zero, List.set_cons_succ]
              refine wpAnyT_last (j := 18) (o := { dst := some 87, op := _, type := _, pos := _, after := _, guard := _ }) rfl (by kernel_rfl) (by kernel_rfl) ?_
              intro K1 hK1
              refine step_append_run (by rfl) (.tmp 70) (.tmp 86) _ _ (by rfl) _ _ (by rfl) (by rfl) R8.out ?_
              refine hK1 _ _ ?_
              clear hK1 K1
              try simp only [Act.put, List.setIfInBounds_toArray, List.set_cons_zero, List.set_cons_succ]
              refine wpAny_take (i := 19) (oi := { dst := some 88, op := _, type := _, pos := _, after := _, guard := _ }) (v := .pointer (some ⟨w.heap.size + 1, 2, none⟩)) rfl (by kernel_rfl) (by kernel_rfl) (by kernel_rfl) (fun _ _ _ h => h) (Or.inl ⟨by rfl, fun wz => ?_⟩) ?_
              · go_simp
              try simp only [Act.put, List.setIfInBounds_toArray, List.set_cons_zero, List.set_cons_succ]
              refine wpAny_one (j := 20) (o := { dst := none, op := _, type := _, pos := _, after := _, guard := _ }) rfl (by kernel_rfl) ?_
              intro K1 hK1
              rw [if_pos (by rfl)]
              go_simp
              refine hK1 _ _ ?_
              clear hK1 K1
              refine wpAny_done (by kernel_rfl) ?_ _
              have HEND := Lib.hid (show KRow (w8.setCell ⟨w.heap.size + 1, 2, none⟩ (.slice A8 (j + 1) c8)) (bkF w.heap.size (fun _ => False)) (w.heap.size + 2) (.slice A8 (j + 1) c8) (m ++ [(K, V)]) ∧ BkBox (w8.setCell ⟨w.heap.size + 1, 2, none⟩ (.slice A8 (j + 1) c8)) w.heap.size 0 0 none 0 0 ∧ BkBox (w8.setCell ⟨w.heap.size + 1, 2, none⟩ (.slice A8 (j + 1) c8)) (w.heap.size + 1) D0 X0 A8 (j + 1) c8 ∧ Below w.heap.size w (w8.setCell ⟨w.heap.size + 1, 2, none⟩ (.slice A8 (j + 1) c8)) from ⟨HFN.out.1.setCell (p := ⟨w.heap.size + 1, 2, none⟩) (.inr (.inl rfl)) _, HFN.out.2.1.apart (by omega), HFN.out.2.2.1.set2, HFN.out.2.2.2.setCell (p := ⟨w.heap.size + 1, 2, none⟩) (by show _ ≤ w.heap.size + 1; omega) _⟩)
              clear HFN R8 HSTEP o5 b5 x5 x6 r8 hfin f8 z8 l2 hrv hrv2 o0
              go_wp2
              go_roundw
              case rel => exact ⟨j + 1, E, A8, c8, m ++ [(K, V)], by omega, by have := HEE.out; omega, by go_num, by rw [QE.out], HEE.out.1, Lib.hid (by rw [List.length_append, hml.out]; rfl), HNX, Lib.hid HEND.out.1, Lib.hid ⟨HEND.out.2.1, HEND.out.2.2.1, HEND.out.2.2.2⟩⟩
              case measure => simp [intOf]; omega
            · have _t0 := trivial
              have hrk : RB Wq B (some ⟨b, off + (a + 2), none⟩) k K := (HK1.out _ HBX.out.2.2)
              have tok1 : True := trivial
              go_wp2_with (at_builtin; refine wpList_append_bytes rfl _ _ rfl Wq.heap.size (.slice none 0 0) 0 [] rfl ⟨rfl, .inl ⟨rfl, rfl⟩⟩ B _ _ _ K rfl (hrk.cast_ (by omega)) (by omega) (Nat.le_refl _) ?_; intro v11 w11 hown11 hg11 hb11; have hown11 := own_relen (k := k) hown11 (by rw [List.nil_append, List.length_map]; exact hrk.len); obtain ⟨KA, kc, hv11, hkc⟩ := own_shape hown11; subst hv11)
              have hbw1 := HBX.out.2.2.trans (hb11.mono HBX.out.2.2.size)
              have hFq : ∀ q, bkF w.heap.size (fun _ => False) q → q < Wq.heap.size := fun q hq => by rcases hq with hq | hq | hq <;> first | omega | exact hq.elim
              have hFar := KFar.new HROW.out hFq hown11 hrk.bytes hk256
              have hbp := HBX.out.2.1.below hb11
              obtain ⟨s2, hs2⟩ : ∃ s2, s2 = a + 2 + k := ⟨_, rfl⟩
              obtain ⟨s3, hs3⟩ : ∃ s3, s3 = a + 2 + k + v := ⟨_, rfl⟩
              obtain ⟨s1, hs1⟩ : ∃ s1, s1 = a + 2 := ⟨_, rfl⟩
              have hrv : RB w11.drew B (some ⟨b, off + s2, none⟩) v V := (show RB w11 B _ v V from (by rw [hs2]; exact HV1.out _ hbw1)).drew
              have q1 : IntKind.i64.wrap ((a : Int) + 2) = (s1 : Int) := by rw [IntKind.wrap_i64]; omega
              have q2 : IntKind.i64.wrap ((s1 : Int) + (k : Int)) = (s2 : Int) := by rw [IntKind.wrap_i64]; omega
              have q3 : IntKind.i64.wrap ((s2 : Int) + (v : Int)) = (s3 : Int) := by rw [IntKind.wrap_i64]; omega
              have q4 : s3 ≤ c := by omega
              have q5 : s2 ≤ s3 := by omega
              have q6 : max (s3 : Int) 0 = (s3 : Int) := by omega
              have q7 : ¬ c = s2 := by omega
              have q8 : True := trivial
              have QS := Lib.hid (show s3 - s2 = v by omega)
              have QE := Lib.hid (show s3 = E by rw [HEE.out.2]; omega)
              clear hs1 hs2 hs3 E2 E1
              have HSTEP := Lib.hid (fun w5 v5 o5 b5 => bkRefPush (w0 := w) (w5 := w5) (v5 := v5) (vn := v) (HROW.out.below hb11) hml.out hj32 (fun q hq => Nat.lt_of_lt_of_le (hFq q hq) hb11.size) (HBX.out.1.below hb11) hbp (.inl rfl) (.inr (.inl rfl)) hFar hrv.bytes hv256 hbw1 (by omega) (by have := hb11.size; omega) o5 b5 29)
              have l2 : w11.drew.cell? ⟨w.heap.size + 1, 2, none⟩ = some (.slice A0 j c0) := hbp.cells.2.2.1
              clear hown11 hg11 hb11 hbp hFar hFq hbw1
              go_wp2_with fail
              refine wp_region_any (by rfl) ?_
              change wpAny _ _ _ _ _ _ _ w11.drew
              refine wpAny_take (i := 0) (oi := { dst := some 69, op := _, type := _, pos := _, after := _, guard := _ }) (v := .pointer (some ⟨w.heap.size + 1, 2, none⟩)) rfl (by kernel_rfl) (by kernel_rfl) (by kernel_rfl) (fun _ _ _ h => h) (Or.inl ⟨by rfl, fun wz => ?_⟩) ?_
              · go_simp
              try simp only [Act.put, List.setIfInBounds_toArray, List.set_cons_zero, List.set_cons_succ]
              refine wpAny_take (i := 2) (oi := { dst := some 71, op := _, type := _, pos := _, after := _, guard := _ }) (v := .slice KA k kc) rfl (by kernel_rfl) (by kernel_rfl) (by kernel_rfl) (fun _ _ _ h => h) (Or.inl ⟨by rfl, fun wz => ?_⟩) ?_
              · go_simp
              try simp only [Act.put, List.setIfInBounds_toArray, List.set_cons_zero, List.set_cons_succ]
              refine wpAny_take (i := 3) (oi := { dst := some 72, op := _, type := _, pos := _, after := _, guard := _ }) (v := .slice (some ⟨b, off, none⟩) 240 c) rfl (by kernel_rfl) (by kernel_rfl) (by kernel_rfl) (fun _ _ _ h => h) (Or.inl ⟨by rfl, fun wz => ?_⟩) ?_
              · go_simp
              try simp only [Act.put, List.setIfInBounds_toArray, List.set_cons_zero, List.set_cons_succ]
              refine wpAny_take (i := 4) (oi := { dst := some 73, op := _, type := _, pos := _, after := _, guard := _ }) (v := .int .i64 (a : Int)) rfl (by kernel_rfl) (by kernel_rfl) (by kernel_rfl) (fun _ _ _ h => h) (Or.inl ⟨by rfl, fun wz => ?_⟩) ?_
              · go_simp
              try simp only [Act.put, List.setIfInBounds_toArray, List.set_cons_zero, List.set_cons_succ]
              refine wpAny_take (i := 5) (oi := { dst := some 74, op := _, type := _, pos := _, after := _, guard := _ }) (v := .int .i64 (s1 : Int)) rfl (by kernel_rfl) (by kernel_rfl) (by kernel_rfl) (fun _ _ _ h => h) (Or.inl ⟨by rfl, fun wz => ?_⟩) ?_
              · go_simp
              try simp only [Act.put, List.setIfInBounds_toArray, List.set_cons_zero, List.set_cons_succ]
              refine wpAny_take (i := 6) (oi := { dst := some 75, op := _, type := _, pos := _, after := _, guard := _ }) (v := .int .i64 (k : Int)) rfl (by kernel_rfl) (by kernel_rfl) (by kernel_rfl) (fun _ _ _ h => h) (Or.inl ⟨by rfl, fun wz => ?_⟩) ?_
              · go_simp
              try simp only [Act.put, List.setIfInBounds_toArray, List.set_cons_zero, List.set_cons_succ]
              refine wpAny_take (i := 7) (oi := { dst := some 76, op := _, type := _, pos := _, after := _, guard := _ }) (v := .int .i64 (s2 : Int)) rfl (by kernel_rfl) (by kernel_rfl) (by kernel_rfl) (fun _ _ _ h => h) (Or.inl ⟨by rfl, fun wz => ?_⟩) ?_
              · go_simp
              try simp only [Act.put, List.setIfInBounds_toArray, List.set_cons_zero, List.set_cons_succ]
              refine wpAny_take (i := 8) (oi := { dst := some 77, op := _, type := _, pos := _, after := _, guard := _ }) (v := .int .i64 (a : Int)) rfl (by kernel_rfl) (by kernel_rfl) (by kernel_rfl) (fun _ _ _ h => h) (Or.inl ⟨by rfl, fun wz => ?_⟩) ?_
              · go_simp
              try simp only [Act.put, List.setIfInBounds_toArray, List.set_cons_zero, List.set_cons_succ]
              refine wpAny_take (i := 9) (oi := { dst := some 78, op := _, type := _, pos := _, after := _, guard := _ }) (v := .int .i64 (s1 : Int)) rfl (by kernel_rfl) (by kernel_rfl) (by kernel_rfl) (fun _ _ _ h => h) (Or.inl ⟨by rfl, fun wz => ?_⟩) ?_
              · go_simp
              try simp only [Act.put, List.setIfInBounds_toArray, List.set_cons_zero, List.set_cons_succ]
              refine wpAny_take (i := 10) (oi := { dst := some 79, op := _, type := _, pos := _, after := _, guard := _ }) (v := .int .i64 (k : Int)) rfl (by kernel_rfl) (by kernel_rfl) (by kernel_rfl) (fun _ _ _ h => h) (Or.inl ⟨by rfl, fun wz => ?_⟩) ?_
              · go_simp
              try simp only [Act.put, List.setIfInBounds_toArray, List.set_cons_zero, List.set_cons_succ]
              refine wpAny_take (i := 11) (oi := { dst := some 80, op := _, type := _, pos := _, after := _, guard := _ }) (v := .int .i64 (s2 : Int)) rfl (by kernel_rfl) (by kernel_rfl) (by kernel_rfl) (fun _ _ _ h => h) (Or.inl ⟨by rfl, fun wz => ?_⟩) ?_
              · go_simp
              try simp only [Act.put, List.setIfInBounds_toArray, List.set_cons_zero, List.set_cons_succ]
              refine wpAny_take (i := 12) (oi := { dst := some 81, op := _, type := _, pos := _, after := _, guard := _ }) (v := .int .i64 (v : Int)) rfl (by kernel_rfl) (by kernel_rfl) (by kernel_rfl) (fun _ _ _ h => h) (Or.inl ⟨by rfl, fun wz => ?_⟩) ?_
              · go_simp
              try simp only [Act.put, List.setIfInBounds_toArray, List.set_cons_zero, List.set_cons_succ]
              refine wpAny_take (i := 13) (oi := { dst := some 82, op := _, type := _, pos := _, after := _, guard := _ }) (v := .int .i64 (s3 : Int)) rfl (by kernel_rfl) (by kernel_rfl) (by kernel_rfl) (fun _ _ _ h => h) (Or.inl ⟨by rfl, fun wz => ?_⟩) ?_
              · go_simp
              try simp only [Act.put, List.setIfInBounds_toArray, List.set_cons_zero, List.set_cons_succ]
              refine wpAny_take (i := 14) (oi := { dst := some 83, op := _, type := _, pos := _, after := _, guard := _ }) (v := .slice (some ⟨b, off + s2, none⟩) v (c - s2)) rfl (by kernel_rfl) (by kernel_rfl) (by kernel_rfl) (fun _ _ _ h => h) (Or.inl ⟨by rfl, fun wz => ?_⟩) ?_
              · go_simp
                all_goals (have := QS.out; omega)
              try simp only [Act.put, List.setIfInBounds_toArray, List.set_cons_zero, List.set_cons_succ]
              refine wpAny_take_read (i := 1) (oi := { dst := some 70, op := _, type := _, pos := _, after := _, guard := _ }) (v := .slice A0 j c0) (fun wz => wz.cell? ⟨w.heap.size + 1, 2, none⟩ = some (.slice A0 j c0)) rfl (by kernel_rfl) (by kernel_rfl) (by kernel_rfl) (fun _ _ _ h => h) (Or.inl ⟨by rfl, fun wz hS => ?_⟩) l2 ?_
              · go_simp
              try simp only [Act.put, List.setIfInBounds_toArray, List.set_cons_zero, List.set_cons_succ]
              refine wpAnyT_one (j := 15) (o := { dst := some 84, op := .call { callee := .builtin .append, args := #[.const (.slice none 0 0), .tmp 83], argTypes := #[22, 22] }, type := _, pos := _, after := _, guard := none }) rfl (by kernel_rfl) (by kernel_rfl) ?_
              intro K1 hK1
              have o0 : w11.drew.ownsRow w11.heap.size 5 1 (.slice none 0 0) 0 (([] : List Int).map (Value.int .u8)) := ⟨rfl, .inl ⟨rfl, rfl⟩⟩
              have hrv2 : RB w11.drew B (some ⟨b, off + s2, none⟩) v V := hrv
              with_reducible refine step_append_bytes2 ?_ (.const (.slice none 0 0)) (.tmp 83) ?_ w11.heap.size (.slice none 0 0) 0 [] ?_ o0 B (some ⟨b, off + s2, none⟩) v (c - s2) V ?_ hrv2 ?_ ?_ ?_
              · rfl
              · rfl
              · rfl
              · rfl
              · omega
              · exact Nat.le_refl _
              intro v5 w5 o5 b5
              obtain ⟨va, vc, A8, c8, w8, hv5, r8, x5, x6, hfin⟩ := HSTEP.out w5 v5 (own_relen o5 (by simpa using hrv.len)) b5
              subst hv5
              have R8 := Lib.hid r8
              have HFN := Lib.hid hfin
              have f8 := hfin.2.2.1.frozen 2
              have z8 := hfin.2.2.1.cells.2.2.1
              refine hK1 _ _ x5.cells.2.2.1 ?_
              clear hK1 K1
              try simp only [Act.put, List.setIfInBounds_toArray, List.set_cons_zero, List.set_cons_succ]
              refine wpAnyT_yield (j := 16) (o := { dst := some 85, op := _, type := _, pos := _, after := _, guard := _ }) (v := .agg #[.slice KA k kc, .slice va v vc]) rfl (by kernel_rfl) (by kernel_rfl) (Or.inl ⟨by rfl, fun wz hS => ?_⟩) x5.cells.2.2.1 ?_
              · go_simp
              try simp only [Act.put, List.setIfInBounds_toArray, List.set_cons_zero, List.set_cons_succ]
              refine wpAnyT_one (j := 17) (o := { dst := some 86, op := _, type := _, pos := _, after := _, guard := _ }) rfl (by kernel_rfl) (by kernel_rfl) ?_
              intro K1 hK1
              rw [if_pos (by rfl)]
              go_simp
              refine hK1 _ _ x6.cells.2.2.1 ?_
              clear hK1 K1
              try simp only [Act.put, List.setIfInBounds_toArray, List.set_cons_zero, List.set_cons_succ]
              refine wpAnyT_last (j := 18) (o := { dst := some 87, op := _, type := _, pos := _, after := _, guard := _ }) rfl (by kernel_rfl) (by kernel_rfl) ?_
              intro K1 hK1
              refine step_append_run (by rfl) (.tmp 70) (.tmp 86) _ _ (by rfl) _ _ (by rfl) (by rfl) R8.out ?_
              refine hK1 _ _ ?_
              clear hK1 K1
              try simp only [Act.put, List.setIfInBounds_toArray, List.set_cons_zero, List.set_cons_succ]
              refine wpAny_take (i := 19) (oi := { dst := some 88, op := _, type := _, pos := _, after := _, guard := _ }) (v := .pointer (some ⟨w.heap.size + 1, 2, none⟩)) rfl (by kernel_rfl) (by kernel_rfl) (by kernel_rfl) (fun _ _ _ h => h) (Or.inl ⟨by rfl, fun wz => ?_⟩) ?_
              · go_simp
              try simp only [Act.put, List.setIfInBounds_toArray, List.set_cons_zero, List.set_cons_succ]
              refine wpAny_one (j := 20) (o := { dst := none, op := _, type := _, pos := _, after := _, guard := _ }) rfl (by kernel_rfl) ?_
              intro K1 hK1
              rw [if_pos (by rfl)]
              go_simp
              refine hK1 _ _ ?_
              clear hK1 K1
              refine wpAny_done (by kernel_rfl) ?_ _
              have HEND := Lib.hid (show KRow (w8.setCell ⟨w.heap.size + 1, 2, none⟩ (.slice A8 (j + 1) c8)) (bkF w.heap.size (fun _ => False)) (w.heap.size + 2) (.slice A8 (j + 1) c8) (m ++ [(K, V)]) ∧ BkBox (w8.setCell ⟨w.heap.size + 1, 2, none⟩ (.slice A8 (j + 1) c8)) w.heap.size 0 0 none 0 0 ∧ BkBox (w8.setCell ⟨w.heap.size + 1, 2, none⟩ (.slice A8 (j + 1) c8)) (w.heap.size + 1) D0 X0 A8 (j + 1) c8 ∧ Below w.heap.size w (w8.setCell ⟨w.heap.size + 1, 2, none⟩ (.slice A8 (j + 1) c8)) from ⟨HFN.out.1.setCell (p := ⟨w.heap.size + 1, 2, none⟩) (.inr (.inl rfl)) _, HFN.out.2.1.apart (by omega), HFN.out.2.2.1.set2, HFN.out.2.2.2.setCell (p := ⟨w.heap.size + 1, 2, none⟩) (by show _ ≤ w.heap.size + 1; omega) _⟩)
              clear HFN R8 HSTEP o5 b5 x5 x6 r8 hfin f8 z8 l2 hrv hrv2 o0
              go_wp2
              go_roundw
              case rel => exact ⟨j + 1, E, A8, c8, m ++ [(K, V)], by omega, by have := HEE.out; omega, by go_num, by rw [QE.out], HEE.out.1, Lib.hid (by rw [List.length_append, hml.out]; rfl), HNX, Lib.hid HEND.out.1, Lib.hid ⟨HEND.out.2.1, HEND.out.2.2.1, HEND.out.2.2.2⟩⟩
              case measure => simp [intOf]; omega
      · have hlt' : ¬ (j : Int) < C0 := by have := HN.out; omega
        obtain rfl : j = N := by omega
        have hme : (readBk l).ps = m := by rw [HPS0.out.1, hcuts.out, Nat.sub_self, cutsL_zero, List.append_nil]
        obtain ⟨hjm, hjc, hrp⟩ := hrow.out.pairs
        have hfew := readBk_few l
        have hj116 : j ≤ 116 := by rw [← hml.out, ← hme]; exact hfew.2
        rw [hme] at hfew
        have hRD : readBk l = ⟨D0, X0, m⟩ := by
          have e1 := HD.out.1
          have e2 := HD.out.2.1
          generalize readBk l = R at *
          obtain ⟨r1, r2, r3⟩ := R
          cases e1
          cases e2
          cases hme
          rfl
        have HPY := Lib.hid (fun (hm : mayBk ⟨D0, X0, m⟩ = true) (hp : pageBk ⟨D0, X0, m⟩ = l) => show parseBk l = (⟨D0, X0, m⟩, 0) from by
          rw [← hRD] at hm hp ⊢
          exact parseBk_yes hl hm hp)
        have HPN := Lib.hid (fun (h : ¬ (mayBk ⟨D0, X0, m⟩ = true ∧ pageBk ⟨D0, X0, m⟩ = l)) => show parseBk l = (⟨0, 0, []⟩, 4) from parseBk_no (fun h' => h (by rw [← hRD]; exact h'.2)))
        have HP := Lib.hid (refBkPut_any D0 X0 c0 hrp (Nat.le_refl _) (by unfold maxLen; omega) (by omega) ⟨b1, b2⟩ ⟨b3, b4⟩)
        have hput : putBk ⟨D0, X0, m⟩ = if mayBk ⟨D0, X0, m⟩ = true then (pageBk ⟨D0, X0, m⟩, 0) else ([], 1) := rfl
        rw [hput] at HP
        have HST := Lib.hid (show Stays wr (fun k => k = w.heap.size) A0 j m from fun W hs hk' => (hrow.out.keep (F' := fun k => k = w.heap.size) hs (fun k _ h hf => h (.inl hf)) (fun k h1 h2 => hk' k h1 (fun hf => h2 (.inl hf)))).pairs.2.2)
        have HBX := Lib.hid hbxs.out
        obtain ⟨u0, u1, u2, _⟩ := hbxs.out.2.1.cells
        clear hput hfew hrp hRD hme hcuts hrow hbxs hjm
        go_wp2_with fail
        refine HP.out.mono ?_
        by_cases hmay : mayBk ⟨D0, X0, m⟩ = true
        · rw [if_pos hmay]
          rintro e w3 ⟨A3, n3, c3, rfl, hc3, hr3, hb3⟩
          have hr3 : RB w3 w3.heap.size A3 n3 (pageBk ⟨D0, X0, m⟩) := hr3
          obtain ⟨q1, q2, q3⟩ := HBX.out
          have hb03 := q3.trans (hb3.mono q3.size)
          have hbx0 := q1.below hb3
          have hbx4 := q2.below hb3
          have hst3 := HST.out.below hb3
          have hrd := HR.out.below (hb03.mono hB)
          have s1 := hr3.conv c3
          have s2 := hrd.conv c
          have hse := str_eq hr3.bytes hrd.bytes
          have f0 := hbx0.frozen 0
          have f1 := hbx0.frozen 1
          have f2 := hbx0.frozen 2
          obtain ⟨z0, z1, z2, _⟩ := hbx0.cells
          clear u0 u1 u2
          obtain ⟨u0, u1, u2, _⟩ := hbx4.cells
          by_cases hpd : pageBk ⟨D0, X0, m⟩ = l
          · have HPS := Lib.hid (HPY.out hmay hpd)
            have heq : ((strOfNums (pageBk ⟨D0, X0, m⟩)).toList == (strOfNums l).toList) = true := by rw [hse, decide_eq_true hpd]
            have HEND := Lib.hid (bkStore_last (d := D0) (x := X0) hst3 hjc hbx0 hb03)
            clear hr3 hb3 q1 q2 q3 hb03 hbx0 hbx4 hst3 hrd hse HP hpd hmay HPY HPN
            go_wp2
            generalize hXX : (((w3.setCell ⟨w.heap.size, 0, none⟩ (Value.int IntKind.i64 D0)).setCell ⟨w.heap.size, 1, none⟩ (Value.int IntKind.i64 X0)).setCell ⟨w.heap.size, 2, none⟩ (Value.slice A0 j c0)) = X at *
            obtain ⟨d0, d1, d2, _⟩ := HEND.out.1.cells
            refine bodyPost_ret (v := .tuple #[.agg #[.int .i64 D0, .int .i64 X0, .slice A0 j c0], .int .i64 0]) (by
              simp [results, Try.results26, go_sem, d0, d1, d2]) rfl ?_
            rw [HPS.out]
            exact ⟨_, _, _, rfl, HEND.out.2.1, HEND.out.2.2.1, HEND.out.2.2.2⟩
          · have HPS := Lib.hid (HPN.out (fun h => hpd h.2))
            have heq : ((strOfNums (pageBk ⟨D0, X0, m⟩)).toList == (strOfNums l).toList) = false := by rw [hse, decide_eq_false hpd]
            have HEND := Lib.hid (bkStore_last (d := 0) (x := 0) (Stays.none_ w3 (fun k => k = w.heap.size)) (Nat.le_refl 0) hbx0 hb03)
            clear hr3 hb3 q1 q2 q3 hb03 hbx0 hbx4 hst3 hrd hse HP hpd hmay HPY HPN
            go_wp2
            generalize hXX : (((w3.setCell ⟨w.heap.size, 0, none⟩ (Value.int IntKind.i64 0)).setCell ⟨w.heap.size, 1, none⟩ (Value.int IntKind.i64 0)).setCell ⟨w.heap.size, 2, none⟩ (Value.slice none 0 0)) = X at *
            obtain ⟨d0, d1, d2, _⟩ := HEND.out.1.cells
            refine bodyPost_ret (v := .tuple #[.agg #[.int .i64 0, .int .i64 0, .slice none 0 0], .int .i64 4]) (by
              simp [results, Try.results26, go_sem, d0, d1, d2]) rfl ?_
            rw [HPS.out]
            exact ⟨_, _, _, rfl, HEND.out.2.1, HEND.out.2.2.1, HEND.out.2.2.2⟩
        · rw [if_neg hmay]
          rintro e w3 ⟨A3, n3, c3, rfl, hc3, hr3, hb3⟩
          obtain ⟨q1, q2, q3⟩ := HBX.out
          have hb03 := q3.trans (hb3.mono q3.size)
          have hbx0 := q1.below hb3
          have f0 := hbx0.frozen 0
          have f1 := hbx0.frozen 1
          have f2 := hbx0.frozen 2
          obtain ⟨z0, z1, z2, _⟩ := hbx0.cells
          have HPS := Lib.hid (HPN.out (fun h => hmay h.1))
          have HEND := Lib.hid (bkStore_last (d := 0) (x := 0) (Stays.none_ w3 (fun k => k = w.heap.size)) (Nat.le_refl 0) hbx0 hb03)
          clear u0 u1 u2 hr3 hb3 q1 q2 q3 hb03 hbx0 HP hmay HPY HPN
          go_wp2
          generalize hXX : (((w3.setCell ⟨w.heap.size, 0, none⟩ (Value.int IntKind.i64 0)).setCell ⟨w.heap.size, 1, none⟩ (Value.int IntKind.i64 0)).setCell ⟨w.heap.size, 2, none⟩ (Value.slice none 0 0)) = X at *
          obtain ⟨d0, d1, d2, _⟩ := HEND.out.1.cells
          refine bodyPost_ret (v := .tuple #[.agg #[.int .i64 0, .int .i64 0, .slice none 0 0], .int .i64 4]) (by
            simp [results, Try.results26, go_sem, d0, d1, d2]) rfl ?_
          rw [HPS.out]
          exact ⟨_, _, _, rfl, HEND.out.2.1, HEND.out.2.2.1, HEND.out.2.2.2⟩
  · have HPS := Lib.hid (parseBk_no (l := l) (fun h => h240 (by rw [← hr.len]; exact h.1)))
    have k1 : ((n : Int) != 240) = true := by simp; omega
    have HX := Lib.hid hX1
    obtain ⟨z0, z1, z2, _⟩ := hbx0.cells
    clear h240 hX1 hr hbx0
    unfold BkObj at *
    go_enter Try.func26, Try.ntmps26
    go_wp2
    refine bodyPost_ret (v := .tuple #[.agg #[.int .i64 0, .int .i64 0, .slice none 0 0], .int .i64 4]) (by
      simp [results, Try.results26, go_sem, z0, z1, z2]) rfl ?_
    rw [HPS.out]
    exact ⟨none, 0, 0, rfl, Nat.le_refl _, RPairs.nil_, HX.out⟩
end Go.Proofs.Ythpgcdfbngngjaa
