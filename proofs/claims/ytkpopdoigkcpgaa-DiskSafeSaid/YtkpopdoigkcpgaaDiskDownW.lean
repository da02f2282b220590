/-
  The walk of the statement on a disk that is armed, over any disk that answers as it is to. No condition.
-/
import Derived.Test.YtkpopdoigkcpgaaDiskAwake
import Derived.Deep.RegionHeld3
namespace Go.Proofs.Ytkpopdoigkcpgaa
open Go.RowKit
set_option linter.unusedVariables false

/-- The law's disk behind j writes, armed with m. -/
def Dn (m j : Nat) (S : DS) : Prop := S.n = 16 ∧ (j ≤ m → S.arm = some (m - j) ∧ S.down = false ∧ S.writes = j) ∧ (m < j → S.down = true ∧ S.writes = m)

theorem Dn.start (m : Nat) : Dn m 0 ((DS.new 16).fuse (m : Int)) := by
  refine ⟨rfl, fun _ => ⟨?_, rfl, rfl⟩, fun h => absurd h (by omega)⟩
  show (if (m : Int) < 0 then none else some (m : Int).toNat) = some (m - 0)
  rw [if_neg (by omega)]; simp
theorem Dn.step {m j : Nat} {S : DS} (h : Dn m j S) {i : Int} (hi : 0 ≤ i ∧ i < 16) {l : List Int} (hl : l.length = 256) :
    S.writeE i l = (if m ≤ j then 5 else 0) ∧ Dn m (j + 1) (S.write i l) := by
  obtain ⟨hn, h1, h2⟩ := h
  have hh : S.has i := by unfold DS.has; omega
  rcases Nat.lt_or_ge m j with hj | hj
  · obtain ⟨hd, hw⟩ := h2 hj
    unfold DS.writeE DS.write
    rw [if_pos hd, if_pos hd, if_pos (show m ≤ j by omega)]
    exact ⟨rfl, hn, fun hc => absurd hc (by omega), fun _ => ⟨hd, hw⟩⟩
  · obtain ⟨ha, hd, hw⟩ := h1 hj
    have hd' : ¬ S.down = true := by rw [hd]; decide
    unfold DS.writeE DS.write
    have hok : ¬ ¬ (S.has i ∧ l.length = 256) := fun h => h ⟨hh, hl⟩
    rw [if_neg hd', if_neg hd', if_neg hok, if_neg hok]
    rcases Nat.lt_or_ge j m with hjm | hjm
    · have ha0 : ¬ S.arm = some 0 := by rw [ha]; simp; omega
      rw [if_neg ha0, if_neg ha0, if_neg (show ¬ m ≤ j by omega)]
      refine ⟨rfl, hn, fun _ => ⟨?_, hd, ?_⟩, fun hc => absurd hc (by omega)⟩
      · show S.arm.map (· - 1) = some (m - (j + 1))
        rw [ha]; simp; omega
      · show S.writes + 1 = j + 1
        rw [hw]
    · obtain rfl : j = m := by omega
      have ha0 : S.arm = some 0 := by rw [ha]; simp
      rw [if_pos ha0, if_pos ha0, if_pos (Nat.le_refl _)]
      exact ⟨rfl, hn, fun hc => absurd hc (by omega), fun _ => ⟨rfl, hw⟩⟩

/-- A call of the list, copied into the block g of the walk's own. -/
def DoCells (g : Nat) (d : DoV) (w : World) : Prop := w.cell? ⟨g, 0, none⟩ = some (.int .i64 d.op) ∧ w.cell? ⟨g, 1, none⟩ = some (.int .i64 d.i) ∧ w.cell? ⟨g, 2, none⟩ = some (.int .u8 d.b) ∧ w.cell? ⟨g, 3, none⟩ = some (.slice d.ka d.kn d.kc) ∧ g < w.heap.size
theorem DoCells.new (w : World) (d : DoV) : DoCells w.heap.size d ((w.alloc (.cells #[.int .i64 d.op, .int .i64 d.i, .int .u8 d.b, .slice d.ka d.kn d.kc] 34)).drew) := by
  have h : ∀ j : Nat, ((w.alloc (.cells #[.int .i64 d.op, .int .i64 d.i, .int .u8 d.b, .slice d.ka d.kn d.kc] 34)).drew).cell? ⟨w.heap.size, j, none⟩ = (#[Value.int .i64 d.op, .int .i64 d.i, .int .u8 d.b, .slice d.ka d.kn d.kc])[j]? := fun j =>
    cell_of_row (w.alloc (.cells #[.int .i64 d.op, .int .i64 d.i, .int .u8 d.b, .slice d.ka d.kn d.kc] 34)) w.heap.size j _ 34 (0, 0) (heap_alloc_new w _)
  exact ⟨h 0, h 1, h 2, h 3, by show w.heap.size < (w.alloc _).heap.size; simp⟩
theorem DoCells.later {g : Nat} {d : DoV} {w w' : World} (h : DoCells g d w) (hb : Below w.heap.size w w') : DoCells g d w' := by
  obtain ⟨h0, h1, h2, h3, h4⟩ := h
  exact ⟨(hb.cell (p := ⟨g, 0, none⟩) h4).trans h0, (hb.cell (p := ⟨g, 1, none⟩) h4).trans h1, (hb.cell (p := ⟨g, 2, none⟩) h4).trans h2, (hb.cell (p := ⟨g, 3, none⟩) h4).trans h3, Nat.lt_of_lt_of_le h4 hb.size⟩
theorem Touch.cell {F : Nat → Prop} {w w' : World} (ht : Touch F w w') {b : Nat} (hb : b < w.heap.size) (hF : ¬ F b) (o : Nat) : w'.cell? ⟨b, o, none⟩ = w.cell? ⟨b, o, none⟩ := World.cell?_of_block (w := w) (ht.block b hb hF)
theorem DoCells.touch {g : Nat} {d : DoV} {w w' : World} {F : Nat → Prop} (h : DoCells g d w) (ht : Touch F w w') (hF : ¬ F g) : DoCells g d w' := by
  obtain ⟨h0, h1, h2, h3, h4⟩ := h
  exact ⟨(ht.cell h4 hF 0).trans h0, (ht.cell h4 hF 1).trans h1, (ht.cell h4 hF 2).trans h2, (ht.cell h4 hF 3).trans h3, Nat.lt_of_lt_of_le h4 ht.size⟩

set_option maxHeartbeats 3200000 in
theorem down_walk {D : World → (Nat → Prop) → Addr → DS → Prop} (api : DiskApi D) (x m : Nat) (hx : x < 256) (hmx : x % 40 = m) (A : Option Addr) (n c : Nat) (ds : List DoV) (w : World) (hr : RDos w w.heap.size A n ds) (hn : n ≤ 60) :
    Calls Try.prog 5 #[.int .u8 (x : Int), .slice A n c] w fun e w' => e = .returned (.bool true) ∧ Below w.heap.size w w' := by
  have k60 : decide ((n : Int) > 60) = false := by simp; omega
  have hm40 : m < 40 := by omega
  have hmod : (x : Int) % 40 = (m : Int) := by omega
  go_enter Try.func5, Try.ntmps5
  go_wp2_with fail
  refine (law_new api (w0 := w) (by decide) (by decide) (Below.refl _ _)).mono ?_
  rintro e w1 ⟨p, F1, rfl, h1⟩
  go_wp2_with fail
  refine (law_arm api h1 (m : Int) (by omega)).mono ?_
  rintro e w2 ⟨rfl, F2, h2, _⟩
  go_wp2_with fail
  have hst := Lib.hid (Dn.start m)
  go_loopw [43] (fun i wr => ∃ (j : Nat) (F : Nat → Prop) (S : DS), j ≤ n ∧ i = .int .i64 j ∧ LawSt D w wr F p S ∧ Hid (Dn m j S)) (fun i _ => n - (intOf i).toNat)
  case atStart => exact ⟨0, F2, _, Nat.zero_le _, rfl, h2, hst⟩
  case round =>
    obtain ⟨j, F, S, hj, rfl, hl, hdn⟩ := hrel
    clear hst h1 h2
    by_cases hlt : j < n
    · obtain ⟨b, off, rfl, hb, hat⟩ := hr.2 (by omega)
      obtain ⟨d, hd, hdo⟩ := hat j hlt
      have hdo' := hdo.keep hb (fun b o hbb => hl.below.cell (p := ⟨b, o, none⟩) hbb)
      obtain ⟨d0, d1, d2, d3, d4, d5, d6, d7, d8, d9⟩ := hdo'
      clear hat hdo
      have hlt' := hl.lt api
      have hEW := Lib.hid (Dn.step hdn.out (i := d.i % 16) (by omega) (reps_length 256 d.b))
      have hwr : S.writes ≤ 9223372036854775806 := by
        obtain ⟨_, a1, a2⟩ := hdn.out
        rcases Nat.lt_or_ge m j with h | h
        · have := (a2 h).2; omega
        · have := (a1 h).2.2; omega
      have hand := bits_and15 d.i
      have HK : DoCells wr.heap.size d ((wr.alloc (.cells #[.int .i64 d.op, .int .i64 d.i, .int .u8 d.b, .slice d.ka d.kn d.kc] 34)).drew) := DoCells.new wr d
      have HL1 : LawSt D w ((wr.alloc (.cells #[.int .i64 d.op, .int .i64 d.i, .int .u8 d.b, .slice d.ka d.kn d.kc] 34)).drew) F p S := LawSt.later api hl (((Below.refl _ _).alloc (Nat.le_refl _) _).drew)
      have hkf : ¬ F wr.heap.size := fun hf => by have := hlt' _ hf; omega
      by_cases hmj : m ≤ j
      · have kmj : decide ((j : Int) ≥ (m : Int)) = true := by simp; omega
        have hE : S.writeE (d.i % 16) (reps 256 d.b) = 5 := by rw [hEW.out.1]; simp [hmj]
        go_wp2_with fail
        go_region_held3 (fun w' => w'.cell? ⟨wr.heap.size, 1, none⟩ = some (.int .i64 d.i) ∧ w'.cell? ⟨wr.heap.size, 2, none⟩ = some (.int .u8 d.b)) (first | exact ⟨HK.2.1, HK.2.2.1⟩ | exact ⟨HK5.2.1, HK5.2.2.1⟩ | exact ⟨HK6.2.1, HK6.2.2.1⟩)
          (first
            | (go_at_call 19; refine (law_sector api HL1 d6).mono ?_; rintro e w5 ⟨g5, rfl, hg5, hr5, h5, hb5⟩; have HK5 := HK.later hb5)
            | (go_at_call 18; refine (law_write api h5 _ hr5 (by decide) (by decide) hwr hg5).mono ?_; rintro e w6 ⟨rfl, F6, h6, ht6⟩; have HK6 := HK5.touch ht6.1 hkf))
        clear HK HL1 hr5 h5 hb5 HK5 hl
        go_wp2
        go_roundw
        case rel => exact ⟨j + 1, F6, _, by omega, by go_num, h6, hEW.out.2⟩
        case measure => simp [intOf]; omega
      · have kmj : decide ((j : Int) ≥ (m : Int)) = false := by simp; omega
        have hE : S.writeE (d.i % 16) (reps 256 d.b) = 0 := by rw [hEW.out.1]; simp [hmj]
        go_wp2_with fail
        go_region_held3 (fun w' => w'.cell? ⟨wr.heap.size, 1, none⟩ = some (.int .i64 d.i) ∧ w'.cell? ⟨wr.heap.size, 2, none⟩ = some (.int .u8 d.b)) (first | exact ⟨HK.2.1, HK.2.2.1⟩ | exact ⟨HK5.2.1, HK5.2.2.1⟩ | exact ⟨HK6.2.1, HK6.2.2.1⟩)
          (first
            | (go_at_call 19; refine (law_sector api HL1 d6).mono ?_; rintro e w5 ⟨g5, rfl, hg5, hr5, h5, hb5⟩; have HK5 := HK.later hb5)
            | (go_at_call 18; refine (law_write api h5 _ hr5 (by decide) (by decide) hwr hg5).mono ?_; rintro e w6 ⟨rfl, F6, h6, ht6⟩; have HK6 := HK5.touch ht6.1 hkf))
        clear HK HL1 hr5 h5 hb5 HK5 hl
        go_wp2
        go_roundw
        case rel => exact ⟨j + 1, F6, _, by omega, by go_num, h6, hEW.out.2⟩
        case measure => simp [intOf]; omega
    · obtain rfl : j = n := by omega
      obtain ⟨hn0, ha1, ha2⟩ := hdn.out
      have hn16 : (0 : Int) < ((S.crash []).n : Int) := by
        show (0 : Int) < (S.n : Int)
        omega
      by_cases hjm : j ≤ m
      · obtain ⟨hc, hdwn, hw⟩ := ha1 hjm
        have hwb : (S.crash []).writes ≤ 9223372036854775806 := by show S.writes ≤ _; omega
        have HDWN := Lib.hid hdwn
        have HW := Lib.hid hw
        have kgt : decide ((j : Int) > (m : Int)) = false := by simp; omega
        have hmin : min (j : Int) (m : Int) = (j : Int) := by omega
        clear ha1 ha2 hdwn hw hdn hn0
        go_wp2_with fail
        refine (law_writes api hl).mono ?_
        rw [HW.out]
        rintro e wa ⟨rfl, hla⟩
        go_wp2_with fail
        refine (law_down api hla).mono ?_
        rw [HDWN.out]
        rintro e wa2 ⟨rfl, hla2⟩
        go_wp2_with fail
        refine (law_down api hla2).mono ?_
        rw [HDWN.out]
        rintro e wa3 ⟨rfl, HH⟩
        clear hl hla hla2
        clear hc
        go_wp2_with fail
        refine (law_crash api HH (A := none) (n := 0) (c := 0) (B := 0) (l := []) RI.nil_ (Nat.le_refl _) (Nat.zero_le _) (fun h => absurd h (by decide))).mono ?_
        rintro e wb ⟨rfl, Fb, hb1, _⟩
        go_wp2_with fail
        refine (law_down api hb1).mono ?_
        rw [show (S.crash []).down = false from rfl]
        rintro e wc ⟨rfl, hc1⟩
        go_wp2_with fail
        refine (law_sector api hc1 (by decide)).mono ?_
        rintro e wd ⟨gd, rfl, hgd, hrd, hd1, _⟩
        go_wp2_with fail
        have hwz := DS.write_at (S := S.crash []) rfl (i := 0) ⟨by decide, hn16⟩ (reps_length 256 1) rfl
        refine (law_write api hd1 0 hrd (by decide) (by decide) hwb hgd).mono ?_
        rw [hwz.1]
        rintro e we ⟨rfl, Fe, he1, _⟩
        have HE := Lib.hid he1.below
        clear hwz hrd hd1 hc1 hb1 HH he1
        go_wp2_with (go_at_call 7; refine (diskAwake_any api _).mono ?_; rintro e w' ⟨rfl, hb⟩)
        go_ret
        exact ⟨rfl, HE.out.trans (hb.mono HE.out.size)⟩
      · obtain ⟨hdwn, hw⟩ := ha2 (by omega)
        have hwb : (S.crash []).writes ≤ 9223372036854775806 := by show S.writes ≤ _; omega
        have HDWN := Lib.hid hdwn
        have HW := Lib.hid hw
        have hre : S.readE 0 = 5 := by unfold DS.readE; rw [if_pos hdwn]
        have hfe : S.flushE = 5 := by unfold DS.flushE; rw [if_pos hdwn]
        have hfl : S.flush = S := by unfold DS.flush; rw [if_pos hdwn]
        have HRE := Lib.hid hre
        have HFE := Lib.hid hfe
        have HFL := Lib.hid hfl
        have kgt : decide ((j : Int) > (m : Int)) = true := by simp; omega
        have hmin : min (j : Int) (m : Int) = (m : Int) := by omega
        have hc : True := trivial
        have hmj1 : (m : Int) < (j : Int) := by omega
        have hmj2 : m < j := by omega
        clear ha1 ha2 hdwn hw hdn hn0 hre hfe hfl
        go_wp2_with fail
        refine (law_writes api hl).mono ?_
        rw [HW.out]
        rintro e wa ⟨rfl, hla⟩
        go_wp2_with fail
        refine (law_down api hla).mono ?_
        rw [HDWN.out]
        rintro e wa2 ⟨rfl, hla2⟩
        go_wp2_with fail
        refine (law_down api hla2).mono ?_
        rw [HDWN.out]
        rintro e wa3 ⟨rfl, hla3⟩
        go_wp2_with fail
        refine (law_read api hla3 0).mono ?_
        rw [HRE.out]
        rintro e wa4 ⟨A4, n4, c4, rfl, hc4, hr4, hla4, _⟩
        go_wp2_with fail
        refine (law_flush api hla4).mono ?_
        rw [HFE.out, HFL.out]
        rintro e wa5 ⟨rfl, F5, HH, _⟩
        clear hl hla hla2 hla3 hla4 hr4
        clear hc
        go_wp2_with fail
        refine (law_crash api HH (A := none) (n := 0) (c := 0) (B := 0) (l := []) RI.nil_ (Nat.le_refl _) (Nat.zero_le _) (fun h => absurd h (by decide))).mono ?_
        rintro e wb ⟨rfl, Fb, hb1, _⟩
        go_wp2_with fail
        refine (law_down api hb1).mono ?_
        rw [show (S.crash []).down = false from rfl]
        rintro e wc ⟨rfl, hc1⟩
        go_wp2_with fail
        refine (law_sector api hc1 (by decide)).mono ?_
        rintro e wd ⟨gd, rfl, hgd, hrd, hd1, _⟩
        go_wp2_with fail
        have hwz := DS.write_at (S := S.crash []) rfl (i := 0) ⟨by decide, hn16⟩ (reps_length 256 1) rfl
        refine (law_write api hd1 0 hrd (by decide) (by decide) hwb hgd).mono ?_
        rw [hwz.1]
        rintro e we ⟨rfl, Fe, he1, _⟩
        have HE := Lib.hid he1.below
        clear hwz hrd hd1 hc1 hb1 HH he1
        go_wp2_with (go_at_call 7; refine (diskAwake_any api _).mono ?_; rintro e w' ⟨rfl, hb⟩)
        go_ret
        exact ⟨rfl, HE.out.trans (hb.mono HE.out.size)⟩

end Go.Proofs.Ytkpopdoigkcpgaa
