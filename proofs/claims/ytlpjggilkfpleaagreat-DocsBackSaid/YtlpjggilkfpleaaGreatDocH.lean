/-
  DocsBack: it returns true. No condition beyond those that the statement itself says.
-/
import Derived.Test.YtlpjggilkfpleaaGreatDocG
namespace Go.Proofs.YtlpjggilkfpleaaGreat
open Go.RowKit Go.Maps
set_option maxRecDepth 100000
set_option linter.unusedVariables false

theorem xor_ne (k : Int) : k ≠ bits .xor .i64 (-1) k := by
  intro h
  have hn : ((BitVec.ofInt 64 (-1)) ^^^ (BitVec.ofInt 64 k)).toNat = 18446744073709551615 - (k % 18446744073709551616).toNat := by
    rw [show BitVec.ofInt 64 (-1) = BitVec.allOnes 64 by decide, BitVec.allOnes_xor, BitVec.toNat_not, BitVec.toNat_ofInt]
    rfl
  have h2 : k = IntKind.wrap .i64 ((((BitVec.ofInt 64 (-1)) ^^^ (BitVec.ofInt 64 k)).toNat : Nat) : Int) := h
  rw [IntKind.wrap_i64, hn] at h2
  omega
set_option maxHeartbeats 12800000 in
theorem docsBack_any {w : World} (d : Dc) (hd : DcOk d) {A : Option Addr} {n cap : Nat} {l : List Dl} (hr : DlE.R w w.heap.size A n l) (hcap : n ≤ cap) (hn : n ≤ maxLen) :
    Calls Tryz.prog 6 #[.agg #[.int .i64 d.i, .int .i64 d.k, .int .i64 d.y, .int .i64 d.f, .int .i64 d.n], .slice A n cap] w fun e w' => e = .returned (.bool true) ∧ Below w.heap.size w w' := by
  have hn' := hn
  unfold maxLen at hn
  obtain ⟨di, dk, dy, df, dn⟩ := d
  obtain ⟨w1, hw1⟩ : ∃ w1, w1 = w.alloc (.cells #[.int .i64 di, .int .i64 dk, .int .i64 dy, .int .i64 df, .int .i64 dn] 50) := ⟨_, rfl⟩
  have hb1 : Below w.heap.size w w1 := by rw [hw1]; exact (Below.refl _ _).alloc (Nat.le_refl _) _
  by_cases g1 : n < 1
  · have k1 : decide ((n : Int) < 1) = true := decide_eq_true (by omega)
    have hA := Lib.hid (docAwake_any w1)
    have HB := Lib.hid hb1
    clear hr hd hb1 g1
    go_enter Tryz.func6, Tryz.ntmps6
    go_wp2_with fail
    rw [← hw1]
    clear hw1
    refine hA.out.mono ?_
    rintro e w' ⟨rfl, hb⟩
    have HE := Lib.hid (HB.out.trans (hb.mono HB.out.size))
    clear hb
    go_wp2_with fail
    go_ret
    exact ⟨rfl, HE.out⟩
  have k1 : decide ((n : Int) < 1) = false := decide_eq_false (by omega)
  by_cases g2 : n > 6
  · have k2 : decide ((n : Int) > 6) = true := decide_eq_true (by omega)
    have hA := Lib.hid (docAwake_any w1)
    have HB := Lib.hid hb1
    clear hr hd hb1 g1 g2
    go_enter Tryz.func6, Tryz.ntmps6
    go_wp2_with fail
    rw [← hw1]
    clear hw1
    refine hA.out.mono ?_
    rintro e w' ⟨rfl, hb⟩
    have HE := Lib.hid (HB.out.trans (hb.mono HB.out.size))
    clear hb
    go_wp2_with fail
    go_ret
    exact ⟨rfl, HE.out⟩
  have k2 : decide ((n : Int) > 6) = false := decide_eq_false (by omega)
  have HN := Lib.hid (vNew_any w1 (fun k => k = w.heap.size) (fun k h => by rw [h, hw1]; simp))
  have HR := Lib.hid hr
  have HB1 := Lib.hid hb1
  have hlen : l.length = n := hr.len
  have hs1 : w1.heap.size = w.heap.size + 1 := by rw [hw1]; simp
  have hblk : w1.heap[w.heap.size]? = some (.cells #[.int .i64 di, .int .i64 dk, .int .i64 dy, .int .i64 df, .int .i64 dn] 50 (0, 0)) := by rw [hw1]; exact heap_alloc_new w _
  obtain ⟨p1, p2⟩ := put_got hd hr.ok (by omega) (by omega)
  have p3 := put_all hd l (by omega) dy dk
  have p4 := fun k (hk : dk ≠ k) => put_all hd l (by omega) dy k
  rw [if_pos ⟨rfl, rfl⟩] at p3
  have p4 := fun k (hk : dk ≠ k) => (p4 k hk).trans (if_neg (fun q => hk q.2))
  have hmany := many_putDoc ManyS.start ⟨di, dk, dy, df, dn⟩ l
  rw [p1] at hmany
  simp only [hlen] at p1 p2 p3 p4 hmany
  have HP1 := Lib.hid p1
  generalize (putLs ((⟨[], []⟩ : VS).next 2) 1 0 l).putD ⟨1, dk, dy, df, n⟩ = S1 at HP1 hmany p2 p3 p4
  have HS := Lib.hid (And.intro p2 (And.intro p3 (And.intro p4 hmany)))
  have HBK := Lib.hid (And.intro hblk hs1)
  have HL := Lib.hid (And.intro hlen hd)
  clear hr hd hb1 hlen hs1 hblk p1 p2 p3 p4 hmany g1 g2
  go_enter Tryz.func6, Tryz.ntmps6
  go_wp2_with fail
  rw [← hw1]
  clear hw1
  refine HN.out.mono ?_
  rintro e w2 ⟨v, m, c, rfl, h2, hb2, hv, hm, hc⟩
  obtain ⟨X, hX⟩ : ∃ X : Nat → Prop, X = fun k => k = w.heap.size ∨ k = v ∨ k = m ∨ k = c := ⟨_, rfl⟩
  rw [← hX] at h2
  have HXX := Lib.hid (show X w.heap.size ∧ w.heap.size ≠ v ∧ w.heap.size ≠ m ∧ w.heap.size ≠ c from ⟨by rw [hX]; exact .inl rfl, by have := HBK.out.2; omega, by have := HBK.out.2; omega, by have := HBK.out.2; omega⟩)
  have hblk2 := (hb2.block _ (by have := HBK.out.2; omega)).trans HBK.out.1
  obtain ⟨c0, c1, c2, c3, c4⟩ := doc_cells hblk2
  have hb02 := HB1.out.trans (hb2.mono HB1.out.size)
  have HP := docsPut_any h2 ⟨di, dk, dy, df, dn⟩ HL.out.2 ((HR.out.below hb02).more hb02.size) hcap hn' (by decide)
  rw [HP1.out] at HP
  have HP := Lib.hid HP
  have HC := Lib.hid (show w.heap.size + 1 ≤ c from by have := HBK.out.2; omega)
  have HB2 := Lib.hid hb02
  have HBK2 := Lib.hid (And.intro hblk2 (show w.heap.size < w2.heap.size from (Array.getElem?_eq_some_iff.1 hblk2).1))
  clear HN h2 hb2 hv hm hc hX hblk2 hb02 HBK
  go_wp2_with fail
  refine HP.out.mono ?_
  rintro e w3 ⟨rfl, h3, t3⟩
  have HG := docsGet_any h3 1 (by omega)
  rw [HS.out.1] at HG
  have HG := Lib.hid HG
  have HV3 := Lib.hid h3
  have HB3 := Lib.hid (HB2.out.trans (t3.below (fun k hk => by rw [hk]; have := HC.out; omega) HB2.out.size))
  have hblk3 := (t3.block _ HBK2.out.2 (by have := HC.out; omega)).trans HBK2.out.1
  have HBK3 := Lib.hid (And.intro hblk3 (Array.getElem?_eq_some_iff.1 hblk3).1)
  clear h3 t3 HP HP1 HB2 HBK2 hblk3 c0 c1 c2 c3 c4
  go_wp2_with fail
  refine HG.out.mono ?_
  rintro e w4 ⟨A4, k4, rfl, hown, hok, _, hb4⟩
  obtain ⟨_, hk4, hr4⟩ := hown.read hok
  have hl1 : (dlsO (some ((⟨1, dk, dy, df, (n : Int)⟩ : Dc), l))).length = n := HL.out.1
  have hl2 : dlsO (some ((⟨1, dk, dy, df, (n : Int)⟩ : Dc), l)) = l := rfl
  rw [hl1] at hr4 hk4 ⊢
  rw [hl2] at hr4
  simp only [dcW, Option.map_some, Option.getD_some, Option.isSome_some]
  have hblk4 := (hb4.block _ HBK3.out.2).trans HBK3.out.1
  obtain ⟨y0, y1, y2, y3, y4⟩ := doc_cells hblk4
  have f0 : w4.frozen? ⟨w.heap.size, 0, none⟩ = false := by simp [World.frozen?, hblk4]
  have f4 : w4.frozen? ⟨w.heap.size, 4, none⟩ = false := by simp [World.frozen?, hblk4]
  have hlt4 : w.heap.size < w4.heap.size := (Array.getElem?_eq_some_iff.1 hblk4).1
  have hcmp := fun W => same_dc ⟨1, dk, dy, df, (n : Int)⟩ ⟨1, dk, dy, df, (n : Int)⟩ W
  simp only [decide_true, dcV] at hcmp
  have HV4 := Lib.hid (And.intro (HV3.out.below hb4) (HB3.out.trans (hb4.mono HB3.out.size)))
  have HR4 := Lib.hid hr4
  have HBK4 := Lib.hid hblk4
  have HO4 := Lib.hid (And.intro hown (And.intro hok HBK3.out.2))
  clear hown hok hb4 hr4 hl1 hl2 hblk4 HG HV3 HB3
  go_wp2_with fail
  obtain ⟨w5, hw5⟩ : ∃ w5, w5 = ((w4.setCell ⟨w.heap.size, 0, none⟩ (.int .i64 1)).setCell ⟨w.heap.size, 4, none⟩ (.int .i64 (n : Int))).alloc (.cells #[.int .i64 1, .int .i64 dk, .int .i64 dy, .int .i64 df, .int .i64 (n : Int)] 50) := ⟨_, rfl⟩
  rw [← hw5]
  have hoth : ∀ g, g < w4.heap.size → g ≠ w.heap.size → w5.heap[g]? = w4.heap[g]? := fun g hg hne => by
    rw [hw5]
    refine (((Below.refl ((w4.setCell ⟨w.heap.size, 0, none⟩ (.int .i64 1)).setCell ⟨w.heap.size, 4, none⟩ (.int .i64 (n : Int))).heap.size _).alloc (Nat.le_refl _) _).block g (by simpa using hg)).trans ?_
    rw [heap_setCell_other _ _ _ _ hne, heap_setCell_other _ _ _ _ hne]
  have hsz5 : w4.heap.size ≤ w5.heap.size := by rw [hw5]; simp
  have hblk5 : w5.heap[w.heap.size]? = some (.cells #[.int .i64 1, .int .i64 dk, .int .i64 dy, .int .i64 df, .int .i64 (n : Int)] 50 (0, 0)) := by
    rw [hw5]
    refine (((Below.refl ((w4.setCell ⟨w.heap.size, 0, none⟩ (.int .i64 1)).setCell ⟨w.heap.size, 4, none⟩ (.int .i64 (n : Int))).heap.size _).alloc (Nat.le_refl _) _).block w.heap.size (by simpa using hlt4)).trans ?_
    have h1 := heap_setCell_same w4 w.heap.size 0 _ 50 (.int .i64 1) HBK4.out
    have h2 := heap_setCell_same _ w.heap.size 4 _ 50 (.int .i64 (n : Int)) h1
    exact h2
  have hb5 : Below w.heap.size w w5 := by
    rw [hw5]
    exact ((HV4.out.2.setCell (Nat.le_refl _) _).setCell (Nat.le_refl _) _).alloc (by simp; omega) _
  have hv5 : ViewAt w5 X v m c S1 := HV4.out.1.keep hsz5 (fun k _ h => h) (fun k h => h) (fun k h => Nat.lt_of_lt_of_le (HV4.out.1.lt k h) hsz5) (fun k hk hh => hoth k hk (fun e => by
    subst e
    rcases hh with hh | hh | hh | hh
    · exact HXX.out.2.1 hh
    · exact HXX.out.2.2.1 hh
    · exact HXX.out.2.2.2 hh
    · exact hh HXX.out.1))
  have ho5 := HO4.out.1.stays fun g hg => hoth g (HO4.out.1.at_ g hg).2 (by have := (HO4.out.1.at_ g hg).1; have := HO4.out.2.2; omega)
  obtain ⟨_, _, hr5⟩ := ho5.read HO4.out.2.1
  have hl1 : (dlsO (some ((⟨1, dk, dy, df, (n : Int)⟩ : Dc), l))).length = n := HL.out.1
  have hl2 : dlsO (some ((⟨1, dk, dy, df, (n : Int)⟩ : Dc), l)) = l := rfl
  rw [hl1, hl2] at hr5
  have HEQ := EqualDl_any cap k4 (HR.out.below hb5) hr5 hn' hn' hb5.size (Nat.le_refl _)
  rw [decide_eq_true (show l = l from rfl)] at HEQ
  have HEQ := Lib.hid HEQ
  have H5 := Lib.hid (show ∀ W, Below w5.heap.size w5 W → W.heap[w.heap.size]? = some (.cells #[.int .i64 1, .int .i64 dk, .int .i64 dy, .int .i64 df, .int .i64 (n : Int)] 50 (0, 0)) ∧ ViewAt W X v m c S1 ∧ Below w.heap.size w W from fun W hW => ⟨(hW.block _ (by omega)).trans hblk5, hv5.below hW, hb5.trans (hW.mono hb5.size)⟩)
  clear hoth hsz5 hblk5 hb5 hv5 ho5 hr5 hl1 hl2 HV4 HR4 HBK4 HO4 HXX y0 y1 y2 y3 y4 f0 f4 hlt4 hcmp hw5
  refine HEQ.out.mono ?_
  rintro e w6 ⟨rfl, hb6⟩
  obtain ⟨q1, hv6, _⟩ := H5.out w6 hb6
  obtain ⟨_, c1, c2, _, _⟩ := doc_cells q1
  have HAL := docsAll_any hv6 HS.out.2.2.2 (by omega) dy dk
  rw [HS.out.2.1] at HAL
  have HAL := Lib.hid HAL
  have HB6 := Lib.hid hb6
  clear q1 hv6 hb6 HEQ
  go_wp2_with fail
  refine HAL.out.mono ?_
  rintro e w7 ⟨u, rfl, h7⟩
  obtain ⟨A7, k7, rfl, hk7, hr7⟩ := h7.read
  have HB7 := Lib.hid (HB6.out.trans (h7.2.2.mono HB6.out.size))
  have hcon := Contains_any k7 1 hr7 (by decide)
  rw [decide_eq_true (show (1 : Int) ∈ [1] from List.mem_cons_self)] at hcon
  have HCON := Lib.hid hcon
  have hl7 : ([1] : List Int).length = 1 := rfl
  rw [hl7] at HCON ⊢
  clear h7 hr7 hk7 hcon HAL HB6 c1 c2 hl7
  go_wp2_with fail
  refine HCON.out.mono ?_
  rintro e w8 ⟨rfl, rfl⟩
  obtain ⟨q1, hv7, _⟩ := H5.out w7 HB7.out
  obtain ⟨_, c1, c2, _, _⟩ := doc_cells q1
  clear q1 HCON
  go_wp2_with fail
  have hxn := xor_ne dk
  generalize bits BinOp.xor IntKind.i64 (-1) dk = kx at hxn
  have HAL := docsAll_any hv7 HS.out.2.2.2 (by omega) dy kx
  rw [HS.out.2.2.1 kx hxn] at HAL
  have HAL := Lib.hid HAL
  clear hv7 c1 c2 hxn
  refine HAL.out.mono ?_
  rintro e w8 ⟨u, rfl, h8⟩
  obtain ⟨A8, k8, rfl, hk8, hr8⟩ := h8.read
  have HB8 := Lib.hid (HB7.out.trans (h8.2.2.mono HB7.out.size))
  have HE8 := Lib.hid (H5.out w8 HB8.out).2.2
  have HA := Lib.hid (docAwake_any w8)
  simp only [List.length_nil]
  clear h8 hr8 hk8 HAL HB7
  go_wp2_with fail
  refine HA.out.mono ?_
  rintro e w9 ⟨rfl, hb9⟩
  have HE := Lib.hid (HE8.out.trans (hb9.mono HE8.out.size))
  clear hb9
  go_wp2_with fail
  go_ret
  exact ⟨rfl, HE.out⟩
end Go.Proofs.YtlpjggilkfpleaaGreat
