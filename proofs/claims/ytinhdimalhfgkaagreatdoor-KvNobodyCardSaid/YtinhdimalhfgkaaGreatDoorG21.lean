/-
  The texts BkF, BkG, BkH, BkI, BkJ joined. Conditions: those that each part says at its head.
-/
import Derived.Test.YtinhdimalhfgkaaGreatDoorG20
import Derived.Test.YtinhdimalhfgkaaGreatDoorG9
import Derived.Maps.AppendAt
import Derived.Deep.AppendLies

/-
  Contract of bucket.Put. Condition: pairs of few bytes; numbers are ints.
-/
namespace Go.Proofs.YtinhdimalhfgkaaGreatDoor
open Go.RowKit
set_option maxRecDepth 100000
set_option linter.unusedVariables false

/-- The first three parts of a page, and lay over them. -/
theorem bkHead_parts {w3 w4 w5 w6 : World} {g g4 g5 g6 n W0 : Nat} {d x : Int} (hg : g < w3.heap.size) (hg4 : w3.drew.heap.size ≤ g4) (hg5 : w4.heap.size ≤ g5) (hg6 : w5.heap.size ≤ g6)
    (hr4 : RB w4 w4.heap.size (some ⟨g4, 0, none⟩) 1 (putB d 1)) (hr5 : RB w5 w5.heap.size (some ⟨g5, 0, none⟩) 4 (putB x 4)) (hr6 : RB w6 w6.heap.size (some ⟨g6, 0, none⟩) 2 (putB (n : Int) 2))
    (hb4 : Below w3.drew.heap.size w3.drew w4) (hb5 : Below w4.heap.size w4 w5) (hb6 : Below w5.heap.size w5 w6)
    (hp : w3.heap[g]? = some (.cells ((splice zeroL 0 [66]).map (Value.int .u8)).toArray 5 (0, 0))) (hs : W0 ≤ g) (hn : n ≤ 116) :
    Below w3.heap.size w3 w6 ∧ ∀ c, Calls Tryz.prog 203 #[.slice (some ⟨g, 0, none⟩) 240 240, .int .i64 1, .slice (some ⟨w6.heap.size, 0, none⟩) 3 c] (w6.alloc (.cells #[.slice (some ⟨g4, 0, none⟩) 1 1, .slice (some ⟨g5, 0, none⟩) 4 4, .slice (some ⟨g6, 0, none⟩) 2 2] 46 (0, 0))) fun e w' => e = .returned (.int .i64 8) ∧ w'.heap[g]? = some (.cells ((splice (splice zeroL 0 [66]) 1 ([putB d 1, putB x 4, putB (n : Int) 2] : List (List Int)).flatten).map (Value.int .u8)).toArray 5 (0, 0)) ∧ Touch (fun j => j = g) w3 w' := by
  have hs3 : w3.drew.heap.size = w3.heap.size := rfl
  rw [hs3] at hg4 hb4
  have s4 := hb4.size
  have s5 := hb5.size
  have s6 := hb6.size
  rw [hs3] at s4
  have b36 : Below w3.heap.size w3 w6 := ((show Below w3.heap.size w3 w4 from ⟨hb4.os, hb4.tape, hb4.output, hb4.size, hb4.block⟩).trans (hb5.mono s4)).trans (hb6.mono (Nat.le_trans s4 s5))
  refine ⟨b36, fun c => ?_⟩
  have p4 : Part w4 g (some ⟨g4, 0, none⟩) 1 1 (putB d 1) := ⟨by decide, Nat.le_refl _, hr4, fun y hy _ => by cases hy; show g4 ≠ g; omega⟩
  have p5 : Part w5 g (some ⟨g5, 0, none⟩) 4 4 (putB x 4) := ⟨by decide, Nat.le_refl _, hr5, fun y hy _ => by cases hy; show g5 ≠ g; omega⟩
  have p6 : Part w6 g (some ⟨g6, 0, none⟩) 2 2 (putB (n : Int) 2) := ⟨by decide, Nat.le_refl _, hr6, fun y hy _ => by cases hy; show g6 ≠ g; omega⟩
  have hX : Below w6.heap.size w6 (w6.alloc (.cells #[.slice (some ⟨g4, 0, none⟩) 1 1, .slice (some ⟨g5, 0, none⟩) 4 4, .slice (some ⟨g6, 0, none⟩) 2 2] 46 (0, 0))) := (Below.refl _ _).alloc (Nat.le_refl _) _
  have hgX := (hX.block g (by omega)).trans ((b36.block g hg).trans hp)
  have hL := bkLay_any (a := 1) (c := c) hgX (by rw [length_splice _ _ _ (by rw [zeroL_length]; decide), zeroL_length]) (parts3 46 (by omega) ((p4.below hb5).below hb6) (p5.below hb6) p6) (by decide) (by simp [putB_length])
  have e : 1 + ([putB d 1, putB x 4, putB (n : Int) 2] : List (List Int)).flatten.length = 8 := by simp [putB_length]
  rw [e] at hL
  refine hL.mono ?_
  rintro e w' ⟨h1, h2, h3⟩
  refine ⟨h1, h2, ?_⟩
  have hb := b36.trans (hX.mono (by omega))
  exact ⟨h3.os.trans hb.os, h3.tape.trans hb.tape, h3.output.trans hb.output, Nat.le_trans hb.size h3.size, fun j hj hn => (h3.block j (Nat.lt_of_lt_of_le hj hb.size) hn).trans (hb.block j hj)⟩

/-- A pair in a variable's block. -/
def PBox (w : World) (b : Nat) (u v : Value) : Prop := w.heap[b]? = some (.cells #[u, v] 95 (0, 0))
theorem PBox.new (w : World) (u v : Value) : PBox (w.alloc (.cells #[u, v] 95 (0, 0))) w.heap.size u v := heap_alloc_new w _
theorem PBox.cells {w : World} {b : Nat} {u v : Value} (h : PBox w b u v) : w.cell? ⟨b, 0, none⟩ = some u ∧ w.cell? ⟨b, 1, none⟩ = some v := by
  constructor <;> (rw [cell_of_row _ _ _ _ _ (0, 0) h]; rfl)
theorem PBox.lt {w : World} {b : Nat} {u v : Value} (h : PBox w b u v) : b < w.heap.size := (Array.getElem?_eq_some_iff.1 h).1
theorem PBox.below {w w' : World} {b : Nat} {u v : Value} (h : PBox w b u v) (hb : Below w.heap.size w w') : PBox w' b u v := (hb.block b h.lt).trans h
theorem PBox.touch {w w' : World} {b g : Nat} {u v : Value} (h : PBox w b u v) (ht : Touch (fun j => j = g) w w') (hne : b ≠ g) : PBox w' b u v := (ht.block b h.lt hne).trans h
theorem PBox.drew {w : World} {b : Nat} {u v : Value} (h : PBox w b u v) : PBox w.drew b u v := h

/-- A pair's four parts, and lay over them. -/
theorem bkPair_parts {X w4 w5 : World} {g g4 g5 a kn kc vn vc B : Nat} {ka va : Option Addr} {k v L : List Int} (hg : g < X.heap.size) (hg4 : X.drew.heap.size ≤ g4) (hg5 : w4.heap.size ≤ g5)
    (hr4 : RB w4 w4.heap.size (some ⟨g4, 0, none⟩) 1 (putB (kn : Int) 1)) (hr5 : RB w5 w5.heap.size (some ⟨g5, 0, none⟩) 1 (putB (vn : Int) 1))
    (hb4 : Below X.drew.heap.size X.drew w4) (hb5 : Below w4.heap.size w4 w5)
    (hp : X.heap[g]? = some (.cells (L.map (Value.int .u8)).toArray 5 (0, 0))) (hL : L.length = 240) (hk : RB X B ka kn k) (hv : RB X B va vn v) (hBg : B ≤ g) (hkc : kn ≤ kc ∧ kn ≤ maxLen) (hvc : vn ≤ vc ∧ vn ≤ maxLen) (ha : a + (2 + kn + vn) ≤ 240) :
    Below X.heap.size X w5 ∧ ∀ c, Calls Tryz.prog 203 #[.slice (some ⟨g, 0, none⟩) 240 240, .int .i64 (a : Int), .slice (some ⟨w5.heap.size, 0, none⟩) 4 c] (w5.alloc (.cells #[.slice (some ⟨g4, 0, none⟩) 1 1, .slice (some ⟨g5, 0, none⟩) 1 1, .slice ka kn kc, .slice va vn vc] 46 (0, 0))) fun e w' => e = .returned (.int .i64 ((a + (2 + kn + vn) : Nat) : Int)) ∧ w'.heap[g]? = some (.cells ((splice L a ([putB (kn : Int) 1, putB (vn : Int) 1, k, v] : List (List Int)).flatten).map (Value.int .u8)).toArray 5 (0, 0)) ∧ Touch (fun j => j = g) X w' := by
  have hs3 : X.drew.heap.size = X.heap.size := rfl
  rw [hs3] at hg4 hb4
  have s4 := hb4.size
  have s5 := hb5.size
  rw [hs3] at s4
  have b35 : Below X.heap.size X w5 := (show Below X.heap.size X w4 from ⟨hb4.os, hb4.tape, hb4.output, hb4.size, hb4.block⟩).trans (hb5.mono s4)
  refine ⟨b35, fun c => ?_⟩
  have ap : ∀ {A : Option Addr} {n : Nat} {l : List Int}, RB X B A n l → ∀ y, A = some y → 0 < n → y.block ≠ g := by
    intro A n l h y hy hn
    obtain ⟨b, off, e, hb, _⟩ := h.at_ hn
    rw [e] at hy
    cases hy
    show b ≠ g
    omega
  have p4 : Part w4 g (some ⟨g4, 0, none⟩) 1 1 (putB (kn : Int) 1) := ⟨by decide, Nat.le_refl _, hr4, fun y hy _ => by cases hy; show g4 ≠ g; omega⟩
  have p5 : Part w5 g (some ⟨g5, 0, none⟩) 1 1 (putB (vn : Int) 1) := ⟨by decide, Nat.le_refl _, hr5, fun y hy _ => by cases hy; show g5 ≠ g; omega⟩
  have hBX : B ≤ X.heap.size := by omega
  have pk : Part X g ka kn kc k := ⟨hkc.2, hkc.1, hk.more hBX, ap hk⟩
  have pv : Part X g va vn vc v := ⟨hvc.2, hvc.1, hv.more hBX, ap hv⟩
  have hX : Below w5.heap.size w5 (w5.alloc (.cells #[.slice (some ⟨g4, 0, none⟩) 1 1, .slice (some ⟨g5, 0, none⟩) 1 1, .slice ka kn kc, .slice va vn vc] 46 (0, 0))) := (Below.refl _ _).alloc (Nat.le_refl _) _
  have hgX := (hX.block g (by omega)).trans ((b35.block g hg).trans hp)
  have e : ([putB (kn : Int) 1, putB (vn : Int) 1, k, v] : List (List Int)).flatten.length = 2 + kn + vn := by simp [putB_length, hk.len, hv.len]; omega
  have hLY := bkLay_any (a := a) (c := c) hgX hL (parts4 46 (by omega) (p4.below hb5) p5 (pk.below b35) (pv.below b35)) (by decide) (by rw [e]; exact ha)
  rw [e] at hLY
  refine hLY.mono ?_
  rintro e w' ⟨h1, h2, h3⟩
  refine ⟨h1, h2, ?_⟩
  have hb := b35.trans (hX.mono (by omega))
  exact ⟨h3.os.trans hb.os, h3.tape.trans hb.tape, h3.output.trans hb.output, Nat.le_trans hb.size h3.size, fun j hj hn => (h3.block j (Nat.lt_of_lt_of_le hj hb.size) hn).trans (hb.block j hj)⟩

set_option maxHeartbeats 6400000 in
theorem bkPut_any {w : World} {B n : Nat} {A : Option Addr} {ps : List KV} (d x : Int) (c : Nat) (hr : RPairs w B A n ps) (hB : B ≤ w.heap.size) (hm : n ≤ maxLen) (hsz : szP ps ≤ 4611686018427387904) (hd : -9223372036854775808 ≤ d ∧ d ≤ 9223372036854775807) (hx : -9223372036854775808 ≤ x ∧ x ≤ 9223372036854775807) :
    Calls Tryz.prog 149 #[.agg #[.int .i64 d, .int .i64 x, .slice A n c]] w fun e w' => ∃ A' n' c', e = .returned (.tuple #[.slice A' n' c', .int .i64 (putBk ⟨d, x, ps⟩).2]) ∧ n' ≤ c' ∧ RB w' w'.heap.size A' n' (putBk ⟨d, x, ps⟩).1 ∧ Below w.heap.size w w' := by
  obtain ⟨i0, hi, hz0, hz1, hz2⟩ := info_parts info_u8
  have hbox : Below w.heap.size w (w.alloc (BkObj d x A n c)) := (Below.refl _ _).alloc (Nat.le_refl _) _
  have HM := Lib.hid (bkMayBe_any d x c (hr.below (hbox.mono hB)) (Nat.le_trans hB hbox.size) hm hsz)
  have HBX := Lib.hid (BkBox.new w d x A n c)
  obtain ⟨c0, c1, c2, hbl⟩ := HBX.out.cells
  have HB := Lib.hid hbox
  have HR := Lib.hid hr
  cases hmb : mayBk ⟨d, x, ps⟩ with
  | false =>
    have hP : putBk ⟨d, x, ps⟩ = ([], 1) := by unfold putBk; rw [if_neg (by rw [hmb]; decide)]
    rw [hmb] at HM
    rw [hP]
    clear hP hmb hbox hr
    unfold BkObj at *
    go_enter Tryz.func149, Tryz.ntmps149
    go_wp2_with fail
    refine HM.out.mono ?_
    rintro e w1 ⟨rfl, hb1⟩
    have hF := Lib.hid (HB.out.trans (hb1.mono HB.out.size))
    clear hb1 c0 c1 c2
    go_wp2
    go_ret2
    exact ⟨none, 0, 0, rfl, Nat.le_refl _, RB.nil_, hF.out⟩
  | true =>
    obtain ⟨f1, f2, f3, f4⟩ := mayBk_few hmb
    have f1 : 8 + szP ps ≤ 240 := f1
    have f2 : 0 ≤ d ∧ d ≤ 10 := f2
    have f3 : rightB x ((4 : Nat) : Int) = true := f3
    have hn : n ≤ 116 := by have := szP_len ps; rw [hr.len] at this; omega
    have hP : putBk ⟨d, x, ps⟩ = (pageBk ⟨d, x, ps⟩, 0) := by unfold putBk; rw [if_pos hmb]
    have HPD := Lib.hid (page_done ⟨d, x, ps⟩ f1)
    have HPL := Lib.hid (pageBk_length (b := ⟨d, x, ps⟩) f1)
    have HPH := Lib.hid (page_head ⟨d, x, ps⟩)
    have HPP := Lib.hid (fun k (y : KV) (hy : ps[k]? = some y) => And.intro (pairsB_at f4 hy) (page_pair (b := ⟨d, x, ps⟩) hy hmb))
    have HQ1 := Lib.hid (fun w => bkPutNil_any d 1 w (right_1 (by omega)) (by decide) hd)
    have HQ2 := Lib.hid (fun w => bkPutNil_any x 4 w f3 (by decide) hx)
    have HQ3 := Lib.hid (fun w => bkPutNil_any (n : Int) 2 w (right_2 (by omega)) (by decide) (by omega))
    have HLEN := Lib.hid hr.len
    have HSZ := Lib.hid f1
    have HBY := Lib.hid (pageBk_bytes hmb hr.bytes)
    rw [hmb] at HM
    rw [hP]
    clear hP hmb hbox hr f1 f2 f3 f4
    unfold BkObj at *
    go_enter Tryz.func149, Tryz.ntmps149
    go_wp2_with fail
    refine HM.out.mono ?_
    rintro e w1 ⟨rfl, hb1⟩
    have hbx1 := HBX.out.below hb1
    have hb01 := HB.out.trans (hb1.mono HB.out.size)
    have hs1 := hb01.size
    clear hb1 c0 c1 c2
    obtain ⟨c0, c1, c2, hbl1⟩ := hbx1.cells
    go_wp2_with (first
      | (refine wpList_make_full w1 rfl _ _ 46 rfl w1.heap.size 5 i0 (.int .u8 0) 1 Tryz.underlying46 hi hz0 hz1 .i64 .i64 _ _ 240 rfl rfl (by simp) (by simp) (by rw [hz2]; decide) (by decide) (Nat.le_refl _) ?_; intro w2 hown2 hg2; have hb2 : Below w1.heap.size w1 w2 := (Below.refl _ _).grown hg2 (Nat.le_refl _) (by simp); obtain ⟨w3, hrun3, HK3, hbx3⟩ := bkLetter_made hown2 hb2 hbx1; obtain ⟨c0, c1, c2, hbl3⟩ := hbx3.cells; clear hown2 hg2 hb2))
    have HG3 := Lib.hid HK3.out.1
    have HT3 := Lib.hid HK3.out.2
    have hgw : w1.heap.size < w3.heap.size := (Array.getElem?_eq_some_iff.1 HG3.out).1
    have hbW3 := Lib.hid (hb01.trans (HT3.out.below (B := w.heap.size) (fun j e => by rw [e]; exact hs1) hs1))
    have c3 := hbx3.drew.cells3
    have HBX3 := Lib.hid hbx3
    have tok1 : True := trivial
    clear hbx1 hb01 hbx3 c0 c1 c2 hbl3 HM HBX HB HK3
    go_wp2_with fail
    go_region_held3 (fun w' => w'.cell? ⟨w.heap.size, 0, none⟩ = some (.int .i64 d) ∧ w'.cell? ⟨w.heap.size, 1, none⟩ = some (.int .i64 x) ∧ w'.cell? ⟨w.heap.size, 2, none⟩ = some (.slice A n c))
      (first | with_reducible exact c8 | with_reducible exact c7 | with_reducible exact c6 | with_reducible exact c5 | with_reducible exact c4 | with_reducible exact c3 | exact c3)
      (first
        | (go_at_call 192; have _t := tok1; clear tok1; refine (HQ1.out _).mono ?_; rintro e w4 ⟨g4, rfl, hg4, hr4, hb4⟩; have tok2 : True := trivial; have hbx4 := HBX3.out.drew.below hb4; have c4 := hbx4.cells3)
        | (go_at_call 192; have _t := tok2; clear tok2; refine (HQ2.out _).mono ?_; rintro e w5 ⟨g5, rfl, hg5, hr5, hb5⟩; have tok3 : True := trivial; have hbx5 := hbx4.below hb5; have c5 := hbx5.cells3)
        | (go_at_call 192; have _t := tok3; clear tok3; refine (HQ3.out _).mono ?_; rintro e w6 ⟨g6, rfl, hg6, hr6, hb6⟩; have tok4 : True := trivial; have hbx6 := hbx5.below hb6; have c6 := hbx6.cells3; have c7 := (hbx6.below ((Below.refl w6.heap.size w6).alloc (Nat.le_refl _) (.cells #[.slice (some ⟨g4, 0, none⟩) 1 1, .slice (some ⟨g5, 0, none⟩) 4 4, .slice (some ⟨g6, 0, none⟩) 2 2] 46 (0, 0)))).cells3; have HL6 := Lib.hid (bkHead_parts hgw hg4 hg5 hg6 hr4 hr5 hr6 hb4 hb5 hb6 HG3.out hs1 (by omega)))
        | (go_at_call 203; have _t := tok4; clear tok4; refine (HL6.out.2 3).mono ?_; rintro e w7 ⟨rfl, hblk7, ht7⟩; have hbx7 := HBX3.out.touch ht7 (by omega); have c8 := hbx7.cells3))
    have HG7 := Lib.hid (show w7.heap[w1.heap.size]? = some (.cells ((splice zeroL 0 (bkHeadL ⟨d, x, ps⟩ ++ pairsL (ps.take 0))).map (Value.int .u8)).toArray 5 (0, 0)) from by
      have := HPH.out
      rw [HLEN.out] at this
      rw [← this]
      exact hblk7)
    have HB7 := Lib.hid (hbW3.out.trans (ht7.below (B := w.heap.size) (fun j e => by rw [e]; exact hs1) hbW3.out.size))
    obtain ⟨d0, d1, d2⟩ := hbx7.cells3
    clear c3 c4 c5 c6 c7 c8 hbx4 hbx5 hbx6 hbx7 hblk7 ht7 hr4 hr5 hr6 hb4 hb5 hb6 hg4 hg5 hg6 HL6 HBX3 HG3 HT3 hbW3 HQ1 HQ2 HQ3 HPH _t
    go_wp2_with fail
    clear d0 d1 d2
    go_loopw [5, 31] (fun av i wr => ∃ k : Nat, k ≤ n ∧ i = .int .i64 k ∧ av = .int .i64 ((8 + szP (ps.take k) : Nat) : Int) ∧ Hid (wr.heap[w1.heap.size]? = some (.cells ((splice zeroL 0 (bkHeadL ⟨d, x, ps⟩ ++ pairsL (ps.take k))).map (Value.int .u8)).toArray 5 (0, 0))) ∧ Hid (Below w.heap.size w wr)) (fun _ i _ => n - (intOf i).toNat)
    case atStart => exact ⟨0, Nat.zero_le _, rfl, rfl, HG7, HB7⟩
    case round =>
      clear HG7 HB7
      obtain ⟨k, hk, rfl, rfl, hg, hb⟩ := hrel
      by_cases hlt : k < n
      · obtain ⟨b, off, rfl, hbB, hat⟩ := HR.out.2 (by omega)
        obtain ⟨y, hy⟩ : ∃ y, ps[k]? = some y := ⟨_, List.getElem?_eq_getElem (by rw [HLEN.out]; exact hlt)⟩
        obtain ⟨⟨⟨p1, p2⟩, p3, _⟩, p4⟩ := HPP.out k y hy
        have hst := szP_step hy
        obtain ⟨ka, kn, kc, va, vn, vc, h0, h1, h2, h3, h4, h5⟩ := (hat k y hy).keep hbB (fun b o hbb => hb.out.cell (p := ⟨b, o, none⟩) (Nat.lt_of_lt_of_le hbb hB))
        have hle := szP_take_le ps (k + 1)
        rw [h2.len] at hst p1 p2 p4
        rw [h4.len] at hst p3 p4
        have HST := Lib.hid hst
        have HNX := Lib.hid p4
        have HAK := Lib.hid (show 8 + szP (ps.take k) + (2 + kn + vn) = 8 + szP (ps.take (k + 1)) by omega)
        have hlt' : (k : Int) < (n : Int) := by omega
        have HLK := Lib.hid (show (splice zeroL 0 (bkHeadL ⟨d, x, ps⟩ ++ pairsL (ps.take k))).length = 240 from by
          rw [length_splice _ _ _ (by rw [List.length_append, bkHeadL_length, pairsL_length, zeroL_length]; omega), zeroL_length])
        have hat : 8 + szP (ps.take k) + (2 + kn + vn) ≤ 240 := by omega
        have hgx : w1.heap.size < wr.heap.size := (Array.getElem?_eq_some_iff.1 hg.out).1
        have hX : Below wr.heap.size wr (wr.alloc (.cells #[.slice ka kn kc, .slice va vn vc] 95 (0, 0))) := (Below.refl _ _).alloc (Nat.le_refl _) _
        have HPB := Lib.hid (PBox.new wr (.slice ka kn kc) (.slice va vn vc))
        have HKV := Lib.hid (And.intro (h2.alloc (Nat.le_trans hB hb.out.size) (.cells #[.slice ka kn kc, .slice va vn vc] 95 (0, 0))) (And.intro (h4.alloc (Nat.le_trans hB hb.out.size) (.cells #[.slice ka kn kc, .slice va vn vc] 95 (0, 0))) (And.intro h3 h5)))
        have HGX := Lib.hid ((hX.block _ hgx).trans hg.out)
        have HQ1 := Lib.hid (fun w => bkPutNil_any (kn : Int) 1 w (right_1 (by omega)) (by decide) (by omega))
        have HQ2 := Lib.hid (fun w => bkPutNil_any (vn : Int) 1 w (right_1 (by omega)) (by decide) (by omega))
        have HBX := Lib.hid (hb.out.trans (hX.mono hb.out.size))
        have hgX : w1.heap.size < (wr.alloc (.cells #[.slice ka kn kc, .slice va vn vc] 95 (0, 0))).heap.size := Nat.lt_of_lt_of_le hgx hX.size
        have hBg : B ≤ w1.heap.size := Nat.le_trans hB hs1
        have c3 := HPB.out.drew.cells
        have tok1 : True := trivial
        clear hst hle p4 h2 h4 h3 h5 hy c0 c1 c2 hX hbl
        generalize splice zeroL 0 (bkHeadL ⟨d, x, ps⟩ ++ pairsL (ps.take k)) = Lk at hg HGX HNX HLK
        generalize 8 + szP (ps.take k) = ak at *
        go_wp2_with fail
        go_region_held3 (fun w' => w'.cell? ⟨wr.heap.size, 0, none⟩ = some (.slice ka kn kc) ∧ w'.cell? ⟨wr.heap.size, 1, none⟩ = some (.slice va vn vc))
          (first | with_reducible exact c7 | with_reducible exact c6 | with_reducible exact c5 | with_reducible exact c4 | with_reducible exact c3 | exact c3)
          (first
            | (go_at_call 192; have _t := tok1; clear tok1; refine (HQ1.out _).mono ?_; rintro e w4 ⟨g4, rfl, hg4, hr4, hb4⟩; have tok2 : True := trivial; have hpb4 := HPB.out.drew.below hb4; have c4 := hpb4.cells)
            | (go_at_call 192; have _t := tok2; clear tok2; refine (HQ2.out _).mono ?_; rintro e w5 ⟨g5, rfl, hg5, hr5, hb5⟩; have tok3 : True := trivial; have hpb5 := hpb4.below hb5; have c5 := hpb5.cells; have c6 := (hpb5.below ((Below.refl w5.heap.size w5).alloc (Nat.le_refl _) (.cells #[.slice (some ⟨g4, 0, none⟩) 1 1, .slice (some ⟨g5, 0, none⟩) 1 1, .slice ka kn kc, .slice va vn vc] 46 (0, 0)))).cells; have HL6 := Lib.hid (bkPair_parts (a := ak) hgX hg4 hg5 hr4 hr5 hb4 hb5 HGX.out HLK.out HKV.out.1 HKV.out.2.1 hBg HKV.out.2.2.1 HKV.out.2.2.2 hat))
            | (go_at_call 203; have _t := tok3; clear tok3; refine (HL6.out.2 4).mono ?_; rintro e w6 ⟨rfl, hblk6, ht6⟩; have hpb6 := HPB.out.touch ht6 (by omega); have c7 := hpb6.cells))
        have HE := Lib.hid (show w6.heap[w1.heap.size]? = some (.cells ((splice zeroL 0 (bkHeadL ⟨d, x, ps⟩ ++ pairsL (ps.take (k + 1)))).map (Value.int .u8)).toArray 5 (0, 0)) from by rw [← HNX.out]; exact hblk6)
        have HT := Lib.hid (HBX.out.trans (ht6.below (B := w.heap.size) (fun j e => by rw [e]; exact hs1) HBX.out.size))
        clear c3 c4 c5 c6 c7 hpb4 hpb5 hpb6 hblk6 ht6 hr4 hr5 hb4 hb5 hg4 hg5 HL6 HPB HKV HGX HQ1 HQ2 HBX HNX HLK hg hb h0 h1
        go_wp2
        go_roundw
        case rel => exact ⟨k + 1, by omega, by go_num, by rw [← HAK.out]; congr 1, HE, HT⟩
        case measure => simp [intOf]; omega
      · obtain rfl : k = n := by omega
        have e : ps.take k = ps := List.take_of_length_le (by rw [HLEN.out]; exact Nat.le_refl _)
        rw [e] at hg ⊢
        have HE := Lib.hid (show RB wr wr.heap.size (some ⟨w1.heap.size, 0, none⟩) 240 (pageBk ⟨d, x, ps⟩) from by
          have hgo := hg.out
          rw [HPD.out] at hgo
          refine ⟨HPL.out, HBY.out, fun _ => ⟨w1.heap.size, 0, rfl, (Array.getElem?_eq_some_iff.1 hgo).1, fun j hj => ?_⟩⟩
          rw [Nat.zero_add, cell_of_row wr _ j _ _ (0, 0) hgo, List.getElem?_toArray, List.getElem?_map, List.getElem?_eq_getElem (by rw [HPL.out]; exact hj)]
          rfl)
        clear e hg
        go_wp2
        go_ret2
        exact ⟨_, 240, 240, rfl, Nat.le_refl _, HE.out, hb.out⟩
end Go.Proofs.YtinhdimalhfgkaaGreatDoor

/-
  A page as pairs, said over plain lists; contracts of bucket.number and cut. Condition: a page of 240 bytes, a place within it.
-/
namespace Go.Proofs.YtinhdimalhfgkaaGreatDoor
open Go.RowKit
set_option maxRecDepth 100000
set_option linter.unusedVariables false

theorem getR_int {l : List Int} (hb : AllBytes l) (a s : Int) : -9223372036854775808 ≤ (getR l a s).1 ∧ (getR l a s).1 ≤ 9223372036854775807 := by
  unfold getR
  split
  · split
    · exact ⟨by decide, by decide⟩
    · show -9223372036854775808 ≤ numOf _ ∧ numOf _ ≤ 9223372036854775807
      rw [numOf_eq _ ((hb.drop _).take _)]
      generalize beOf _ = x
      unfold wrap64
      omega
  · exact ⟨by decide, by decide⟩
theorem getR_byte {l : List Int} (hb : AllBytes l) (a : Nat) : ∃ x : Nat, x < 256 ∧ (getR l (a : Int) 1).1 = (x : Int) ∧ (a < l.length → l[a]?.getD 0 = (x : Int)) := by
  have h0 := hb.getD a
  unfold getR
  rw [if_pos ⟨by decide, by omega⟩]
  split
  · exact ⟨0, by decide, rfl, fun h => by omega⟩
  · rename_i h
    have ha : a < l.length := by omega
    refine ⟨(l[a]?.getD 0).toNat, by omega, ?_, fun _ => by omega⟩
    have e : (l.drop ((a : Int).toNat)).take ((1 : Int).toNat) = [l[a]?.getD 0] := by
      rw [Int.toNat_natCast, List.getElem?_eq_getElem ha, List.drop_eq_getElem_cons ha]
      rfl
    rw [e]
    show numOf [l[a]?.getD 0] = _
    rw [numOf_eq _ (fun x hx => by obtain rfl : x = _ := by simpa using hx
                                   exact h0)]
    show wrap64 (0 * 256 + l[a]?.getD 0) = _
    unfold wrap64
    omega

/-- How long a key and a value at a place of a page are, and where the next pair stands. -/
def kN (l : List Int) (a : Nat) : Nat := ((getR l (a : Int) 1).1).toNat
def vN (l : List Int) (a : Nat) : Nat := ((getR l ((a + 1 : Nat) : Int) 1).1).toNat
def cutE (l : List Int) (a : Nat) : Nat := a + 2 + kN l a + vN l a
def cutK (l : List Int) (a : Nat) : List Int := (l.drop (a + 2)).take (kN l a)
def cutV (l : List Int) (a : Nat) : List Int := (l.drop (a + 2 + kN l a)).take (vN l a)
theorem kN_eq {l : List Int} (hb : AllBytes l) (a : Nat) : kN l a < 256 ∧ (getR l (a : Int) 1).1 = (kN l a : Int) := by
  obtain ⟨x, h1, h2, _⟩ := getR_byte hb a
  unfold kN
  rw [h2]
  exact ⟨by omega, by omega⟩
theorem vN_eq {l : List Int} (hb : AllBytes l) (a : Nat) : vN l a < 256 ∧ (getR l ((a + 1 : Nat) : Int) 1).1 = (vN l a : Int) := by
  obtain ⟨x, h1, h2, _⟩ := getR_byte hb (a + 1)
  unfold vN
  rw [h2]
  exact ⟨by omega, by omega⟩

/-- The pairs of a page, from some place on; c at most. -/
def cutsL (l : List Int) : Nat → Nat → List KV
  | 0, _ => []
  | c + 1, a => if 240 < cutE l a then [] else (cutK l a, cutV l a) :: cutsL l c (cutE l a)
theorem cutsL_zero (l : List Int) (a : Nat) : cutsL l 0 a = [] := rfl
theorem cutsL_stop {l : List Int} {c a : Nat} (h : 240 < cutE l a) : cutsL l c a = [] := by
  cases c with
  | zero => rfl
  | succ c => unfold cutsL; rw [if_pos h]
theorem cutsL_go {l : List Int} {c a : Nat} (h : ¬ 240 < cutE l a) : cutsL l (c + 1) a = (cutK l a, cutV l a) :: cutsL l c (cutE l a) := by
  show (if 240 < cutE l a then [] else (cutK l a, cutV l a) :: cutsL l c (cutE l a)) = _
  rw [if_neg h]
/-- A page, read. -/
def cntBk (l : List Int) : Nat := ((getR l 6 2).1).toNat
def readBk (l : List Int) : BV := ⟨(getR l 1 1).1, (getR l 2 4).1, cutsL l (cntBk l) 8⟩
/-- Parse. -/
def parseBk (l : List Int) : BV × Int := if l.length = 240 ∧ mayBk (readBk l) = true ∧ pageBk (readBk l) = l then (readBk l, 0) else (⟨0, 0, []⟩, 4)

set_option maxHeartbeats 400000 in
theorem bkNumber_any {w : World} {B n c : Nat} {A : Option Addr} {l : List Int} (a s : Int) (hr : RB w B A n l) (hc : n ≤ c) (hm : n ≤ maxLen) :
    Calls Tryz.prog 227 #[.slice A n c, .int .i64 a, .int .i64 s] w fun e w' => e = .returned (.int .i64 (getR l a s).1) ∧ w = w' := by
  have HG := Lib.hid (Get_any A n c B l a s w hr hc hm)
  generalize getR l a s = r at HG ⊢
  go_enter Tryz.func227, Tryz.ntmps227
  go_wp2_with fail
  refine HG.out.mono ?_
  rintro e w' ⟨rfl, rfl⟩
  go_wp2
  go_ret
  exact ⟨rfl, rfl⟩

set_option maxHeartbeats 1600000 in
theorem bkCut_beyond {w : World} {B n c : Nat} {A : Option Addr} {l : List Int} (a : Nat) (hr : RB w B A n l) (hB : B ≤ w.heap.size) (hn : n = 240) (hc : n ≤ c) (ha : a ≤ 240) (he : 240 < cutE l a) :
    Calls Tryz.prog 228 #[.slice A n c, .int .i64 (a : Int)] w fun e w' => e = .returned (.tuple #[.agg #[.slice none 0 0, .slice none 0 0], .int .i64 (cutE l a : Int)]) ∧ Below w.heap.size w w' := by
  have hX : Below w.heap.size w (w.alloc (.cells #[.slice none 0 0, .slice none 0 0] 95 (0, 0))) := (Below.refl _ _).alloc (Nat.le_refl _) _
  have hk := kN_eq hr.bytes a
  have hv := vN_eq hr.bytes a
  have H1 := bkNumber_any (a : Int) 1 (hr.below (hX.mono hB)) hc (by subst hn; decide)
  have H2 := bkNumber_any ((a + 1 : Nat) : Int) 1 (hr.below (hX.mono hB)) hc (by subst hn; decide)
  rw [hk.2] at H1
  rw [hv.2] at H2
  rw [show ((a + 1 : Nat) : Int) = (a : Int) + 1 by omega] at H2
  have HX := Lib.hid hX
  have H1 := Lib.hid H1
  have H2 := Lib.hid H2
  have hk256 := hk.1
  have hv256 := hv.1
  have hE := Lib.hid (show cutE l a = a + 2 + kN l a + vN l a from rfl)
  rw [hE.out] at he
  rw [hE.out]
  clear hE hX hk hv hr hc
  subst hn
  generalize kN l a = k at *
  generalize vN l a = v at *
  go_enter Tryz.func228, Tryz.ntmps228
  go_wp2_with fail
  refine H1.out.mono ?_
  rintro e w' ⟨rfl, rfl⟩
  go_wp2_with fail
  refine H2.out.mono ?_
  rintro e w' ⟨rfl, rfl⟩
  go_wp2
  obtain ⟨d0, d1⟩ := (PBox.new w (.slice none 0 0) (.slice none 0 0)).cells
  refine bodyPost_ret (v := .tuple #[.agg #[.slice none 0 0, .slice none 0 0], .int .i64 (a + 2 + k + v : Int)]) (by
    simp [results, Tryz.results228, go_sem, d0, d1]) rfl ?_
  exact ⟨rfl, HX.out⟩

set_option maxHeartbeats 1600000 in
theorem bkCut_within {w : World} {B n c : Nat} {A : Option Addr} {l : List Int} (a : Nat) (hr : RB w B A n l) (hB : B ≤ w.heap.size) (hn : n = 240) (hc : n ≤ c) (he : ¬ 240 < cutE l a) :
    Calls Tryz.prog 228 #[.slice A n c, .int .i64 (a : Int)] w fun e w' => ∃ ka va, e = .returned (.tuple #[.agg #[.slice ka (kN l a) (kN l a), .slice va (vN l a) (vN l a)], .int .i64 (cutE l a : Int)]) ∧ RB w B ka (kN l a) (cutK l a) ∧ RB w B va (vN l a) (cutV l a) ∧ Below w.heap.size w w' ∧ ∀ y, (ka = some y ∨ va = some y) → ∃ x, A = some x ∧ y.block = x.block := by
  have hX : Below w.heap.size w (w.alloc (.cells #[.slice none 0 0, .slice none 0 0] 95 (0, 0))) := (Below.refl _ _).alloc (Nat.le_refl _) _
  have hk := kN_eq hr.bytes a
  have hv := vN_eq hr.bytes a
  have H1 := bkNumber_any (a : Int) 1 (hr.below (hX.mono hB)) hc (by subst hn; decide)
  have H2 := bkNumber_any ((a + 1 : Nat) : Int) 1 (hr.below (hX.mono hB)) hc (by subst hn; decide)
  rw [hk.2] at H1
  rw [hv.2] at H2
  rw [show ((a + 1 : Nat) : Int) = (a : Int) + 1 by omega] at H2
  have HX := Lib.hid hX
  have H1 := Lib.hid H1
  have H2 := Lib.hid H2
  have hk256 := hk.1
  have hv256 := hv.1
  have hE := Lib.hid (show cutE l a = a + 2 + kN l a + vN l a from rfl)
  rw [hE.out] at he
  rw [hE.out]
  obtain ⟨b, off, rfl, hb, hcell⟩ := hr.at_ (by omega)
  have rk : RB w B (some ⟨b, off + (a + 2), none⟩) (kN l a) (cutK l a) := by
    refine ⟨by unfold cutK; rw [List.length_take, List.length_drop, hr.len]; omega, (hr.bytes.drop _).take _, fun _ => ⟨b, off + (a + 2), rfl, hb, fun j hj => ?_⟩⟩
    rw [Nat.add_assoc, hcell (a + 2 + j) (by omega)]
    unfold cutK
    rw [List.getElem?_take, if_pos hj, List.getElem?_drop]
  have rv : RB w B (some ⟨b, off + (a + 2 + kN l a), none⟩) (vN l a) (cutV l a) := by
    refine ⟨by unfold cutV; rw [List.length_take, List.length_drop, hr.len]; omega, (hr.bytes.drop _).take _, fun _ => ⟨b, off + (a + 2 + kN l a), rfl, hb, fun j hj => ?_⟩⟩
    rw [Nat.add_assoc, hcell (a + 2 + kN l a + j) (by omega)]
    unfold cutV
    rw [List.getElem?_take, if_pos hj, List.getElem?_drop]
  have RK := Lib.hid rk
  have RV := Lib.hid rv
  have RK0 := Lib.hid (fun (h : kN l a = 0) (X : Option Addr) => show RB w B X (kN l a) (cutK l a) from ⟨rk.1, rk.2.1, fun hp => by omega⟩)
  have RV0 := Lib.hid (fun (h : vN l a = 0) (X : Option Addr) => show RB w B X (vN l a) (cutV l a) from ⟨rv.1, rv.2.1, fun hp => by omega⟩)
  clear hE hX hk hv hr hcell rk rv
  subst hn
  generalize kN l a = k at *
  generalize vN l a = v at *
  generalize cutK l a = K at *
  generalize cutV l a = V at *
  go_enter Tryz.func228, Tryz.ntmps228
  go_wp2_with fail
  refine H1.out.mono ?_
  rintro e w' ⟨rfl, rfl⟩
  go_wp2_with fail
  refine H2.out.mono ?_
  rintro e w' ⟨rfl, rfl⟩
  rcases Nat.eq_zero_or_pos k with k0 | k0 <;> rcases Nat.eq_zero_or_pos v with v0 | v0
  · subst k0 v0
    go_wp2_with fail
    go_region
    go_wp2
    have hpb := (PBox.new w (.slice (some ⟨b, off, none⟩) 0 0) (.slice (some ⟨b, off, none⟩) 0 0)).drew
    have HE := Lib.hid (show Below w.heap.size w (w.alloc (.cells #[.slice (some ⟨b, off, none⟩) 0 0, .slice (some ⟨b, off, none⟩) 0 0] 95 (0, 0))).drew from ((Below.refl _ _).alloc (Nat.le_refl _) _).drew)
    obtain ⟨d0, d1⟩ := hpb.cells
    refine bodyPost_ret (v := .tuple #[.agg #[.slice (some ⟨b, off, none⟩) 0 0, .slice (some ⟨b, off, none⟩) 0 0], .int .i64 ((a : Int) + 2)]) (by
      simp [results, Tryz.results228, go_sem, d0, d1]) rfl ?_
    exact ⟨_, _, rfl, RK0.out trivial _, RV0.out trivial _, HE.out, fun y hy => ⟨_, rfl, by rcases hy with hy | hy <;> (cases hy; rfl)⟩⟩
  · subst k0
    have hv0 : ¬ v = 0 := by omega
    go_wp2_with fail
    go_region
    go_wp2
    have hpb := (PBox.new w (.slice (some ⟨b, off, none⟩) 0 0) (.slice (some ⟨b, off + (a + 2), none⟩) v v)).drew
    have HE := Lib.hid (show Below w.heap.size w (w.alloc (.cells #[.slice (some ⟨b, off, none⟩) 0 0, .slice (some ⟨b, off + (a + 2), none⟩) v v] 95 (0, 0))).drew from ((Below.refl _ _).alloc (Nat.le_refl _) _).drew)
    obtain ⟨d0, d1⟩ := hpb.cells
    refine bodyPost_ret (v := .tuple #[.agg #[.slice (some ⟨b, off, none⟩) 0 0, .slice (some ⟨b, off + (a + 2), none⟩) v v], .int .i64 ((a : Int) + 2 + (v : Int))]) (by
      simp [results, Tryz.results228, go_sem, d0, d1]) rfl ?_
    exact ⟨_, _, rfl, RK0.out trivial _, RV.out, HE.out, fun y hy => ⟨_, rfl, by rcases hy with hy | hy <;> (cases hy; rfl)⟩⟩
  · subst v0
    have hk0 : ¬ k = 0 := by omega
    go_wp2_with fail
    go_region
    go_wp2
    have hpb := (PBox.new w (.slice (some ⟨b, off + (a + 2), none⟩) k k) (.slice (some ⟨b, off, none⟩) 0 0)).drew
    have HE := Lib.hid (show Below w.heap.size w (w.alloc (.cells #[.slice (some ⟨b, off + (a + 2), none⟩) k k, .slice (some ⟨b, off, none⟩) 0 0] 95 (0, 0))).drew from ((Below.refl _ _).alloc (Nat.le_refl _) _).drew)
    obtain ⟨d0, d1⟩ := hpb.cells
    refine bodyPost_ret (v := .tuple #[.agg #[.slice (some ⟨b, off + (a + 2), none⟩) k k, .slice (some ⟨b, off, none⟩) 0 0], .int .i64 ((a : Int) + 2 + (k : Int))]) (by
      simp [results, Tryz.results228, go_sem, d0, d1]) rfl ?_
    exact ⟨_, _, rfl, RK.out, RV0.out trivial _, HE.out, fun y hy => ⟨_, rfl, by rcases hy with hy | hy <;> (cases hy; rfl)⟩⟩
  · have hv0 : ¬ v = 0 := by omega
    have hk0 : ¬ k = 0 := by omega
    go_wp2_with fail
    go_region
    go_wp2
    have hpb := (PBox.new w (.slice (some ⟨b, off + (a + 2), none⟩) k k) (.slice (some ⟨b, off + (a + 2 + k), none⟩) v v)).drew
    have HE := Lib.hid (show Below w.heap.size w (w.alloc (.cells #[.slice (some ⟨b, off + (a + 2), none⟩) k k, .slice (some ⟨b, off + (a + 2 + k), none⟩) v v] 95 (0, 0))).drew from ((Below.refl _ _).alloc (Nat.le_refl _) _).drew)
    obtain ⟨d0, d1⟩ := hpb.cells
    refine bodyPost_ret (v := .tuple #[.agg #[.slice (some ⟨b, off + (a + 2), none⟩) k k, .slice (some ⟨b, off + (a + 2 + k), none⟩) v v], .int .i64 ((a : Int) + 2 + (k : Int) + (v : Int))]) (by
      simp [results, Tryz.results228, go_sem, d0, d1]) rfl ?_
    exact ⟨_, _, rfl, RK.out, RV.out, HE.out, fun y hy => ⟨_, rfl, by rcases hy with hy | hy <;> (cases hy; rfl)⟩⟩
end Go.Proofs.YtinhdimalhfgkaaGreatDoor

/-
  Words for a list of pairs while it is built by append (rows of two cells each); what keeps it; how it is read; append of one pair. Plain facts; no condition beyond what each says.
-/
namespace Go.Proofs.YtinhdimalhfgkaaGreatDoor
open Go.RowKit
set_option maxRecDepth 100000
set_option linter.unusedVariables false

theorem info_pair : (Tryz.prog.info? 95).map (fun i => (i.zero, i.size, i.bytes)) = some (some (.agg #[.slice none 0 0, .slice none 0 0]), 2, 48) := by kernel_rfl

theorem bkOwnAt {w : World} {base e size m : Nat} {v : Value} {xs : List Value} (h : w.ownsRow base e size v m xs) : ∀ g, v.ownBlock = some g → base ≤ g ∧ g < w.heap.size := by
  intro g hg
  rcases h.2 with ⟨rfl, _⟩ | ⟨g', cap, cur, rfl, hb, hh, _⟩
  · simp [Value.ownBlock] at hg
  · simp [Value.ownBlock] at hg
    subst hg
    exact ⟨hb, (Array.getElem?_eq_some_iff.1 hh).1⟩
theorem bkOwnStays {w w' : World} {base e size m : Nat} {v : Value} {xs : List Value} (h : w.ownsRow base e size v m xs) (hk : ∀ g, v.ownBlock = some g → w'.heap[g]? = w.heap[g]?) : w'.ownsRow base e size v m xs := by
  rcases h.2 with h' | ⟨g, cap, cur, rfl, hg, hb, h3⟩
  · exact ⟨h.1, .inl h'⟩
  · exact ⟨h.1, .inr ⟨g, cap, cur, rfl, hg, (hk g (by simp [Value.ownBlock])).trans hb, h3⟩⟩

/-- A slice of bytes apart from the blocks F and from a row. -/
def KFar (w : World) (F : Nat → Prop) (v : Value) (A : Option Addr) (n c : Nat) (l : List Int) : Prop :=
  n ≤ c ∧ n ≤ maxLen ∧ RB w w.heap.size A n l ∧ ∀ a, A = some a → 0 < n → ¬ F a.block ∧ v.ownBlock ≠ some a.block
/-- The list l of pairs, in a row from block base on, apart from the blocks F. -/
structure KRow (w : World) (F : Nat → Prop) (base : Nat) (v : Value) (l : List KV) : Prop where
  row : ∃ vs, w.ownsRow base 95 2 v l.length vs ∧ ∀ (i : Nat) (x : KV), l[i]? = some x → ∃ (ka : Option Addr) (kn kc : Nat) (va : Option Addr) (vn vc : Nat), vs[i * 2]? = some (.slice ka kn kc) ∧ vs[i * 2 + 1]? = some (.slice va vn vc) ∧ KFar w F v ka kn kc x.1 ∧ KFar w F v va vn vc x.2
  out : ∀ r, v.ownBlock = some r → ¬ F r

section
variable {w w' : World} {F F' : Nat → Prop} {base : Nat} {v : Value} {l : List KV}

theorem KRow.start (w : World) (F : Nat → Prop) (base : Nat) : KRow w F base (.slice none 0 0) [] :=
  ⟨⟨[], ⟨rfl, .inl ⟨rfl, rfl⟩⟩, fun i x h => by simp at h⟩, fun r h => by simp [Value.ownBlock] at h⟩
theorem KFar.keep {A : Option Addr} {n c : Nat} {b : List Int} (h : KFar w F v A n c b) (hs : w.heap.size ≤ w'.heap.size) (hF : ∀ k, k < w.heap.size → ¬ F k → ¬ F' k) (hk : ∀ k, k < w.heap.size → ¬ F k → v.ownBlock ≠ some k → w'.heap[k]? = w.heap[k]?) : KFar w' F' v A n c b := by
  obtain ⟨h1, h2, h3, h4⟩ := h
  refine ⟨h1, h2, ⟨h3.1, h3.2.1, fun hn => ?_⟩, fun a ha hn => ?_⟩
  · obtain ⟨bb, o, e, hbb, hc⟩ := h3.2.2 hn
    obtain ⟨q1, q2⟩ := h4 _ e hn
    exact ⟨bb, o, e, Nat.lt_of_lt_of_le hbb hs, fun j hj => (World.cell?_of_block (a := ⟨bb, o + j, none⟩) (hk bb hbb q1 q2)).trans (hc j hj)⟩
  · obtain ⟨bb, o, e, hbb, hc⟩ := h3.2.2 hn
    obtain ⟨q1, q2⟩ := h4 a ha hn
    rw [e] at ha
    cases ha
    exact ⟨hF _ hbb q1, q2⟩
/-- Blocks that are not F's, and were there, stand. -/
theorem KRow.keep (h : KRow w F base v l) (hs : w.heap.size ≤ w'.heap.size) (hF : ∀ k, k < w.heap.size → ¬ F k → ¬ F' k) (hk : ∀ k, k < w.heap.size → ¬ F k → w'.heap[k]? = w.heap[k]?) : KRow w' F' base v l := by
  obtain ⟨vs, h1, h2⟩ := h.row
  refine ⟨⟨vs, bkOwnStays h1 (fun g hg => hk g (bkOwnAt h1 g hg).2 (h.out g hg)), fun i x hx => ?_⟩, fun r hr => hF r (bkOwnAt h1 r hr).2 (h.out r hr)⟩
  obtain ⟨ka, kn, kc, va, vn, vc, h3, h4, h5, h6⟩ := h2 i x hx
  exact ⟨ka, kn, kc, va, vn, vc, h3, h4, h5.keep hs hF (fun k hk1 hk2 _ => hk k hk1 hk2), h6.keep hs hF (fun k hk1 hk2 _ => hk k hk1 hk2)⟩
theorem KRow.below (h : KRow w F base v l) (hb : Below w.heap.size w w') : KRow w' F base v l := h.keep hb.size (fun _ _ h => h) (fun k hk _ => hb.block k hk)
theorem KRow.setCell (h : KRow w F base v l) {p : Addr} (hp : F p.block) (u : Value) : KRow (w.setCell p u) F base v l :=
  h.keep (by simp [World.setCell]) (fun _ _ h => h) (fun k _ hf => Below.heap_setCell _ _ _ _ (fun e => hf (by rw [e]; exact hp)))

/-- The list has one more: new blocks are laid ahead of the append. -/
theorem KRow.push {X w1 : World} {v' : Value} {ka va : Option Addr} {kn kc vn vc : Nat} {x : KV} (h : KRow w F base v l) (hFlt : ∀ k, F k → k < w.heap.size) (hu : KFar w F v ka kn kc x.1) (hu2 : KFar w F v va vn vc x.2) {vs : List Value} (hvs : w.ownsRow base 95 2 v l.length vs) (hvl : ∀ (i : Nat) (x : KV), l[i]? = some x → ∃ (ka : Option Addr) (kn kc : Nat) (va : Option Addr) (vn vc : Nat), vs[i * 2]? = some (.slice ka kn kc) ∧ vs[i * 2 + 1]? = some (.slice va vn vc) ∧ KFar w F v ka kn kc x.1 ∧ KFar w F v va vn vc x.2)
    (hX : Below w.heap.size w X) (hown : w1.ownsRow base 95 2 v' (l.length + 1) (vs ++ [.slice ka kn kc, .slice va vn vc])) (hg : X.grownBy w1 v.ownBlock) (hl : v'.ownBlock = v.ownBlock ∨ ∃ r, v'.ownBlock = some r ∧ w.heap.size ≤ r) :
    KRow w1 F base v' (l ++ [x]) ∧ w.heap.size ≤ w1.heap.size ∧ ∀ k, k < w.heap.size → v.ownBlock ≠ some k → w1.heap[k]? = w.heap[k]? := by
  have hs : w.heap.size ≤ w1.heap.size := Nat.le_trans hX.size hg.size
  have hall : ∀ k, k < w.heap.size → v.ownBlock ≠ some k → w1.heap[k]? = w.heap[k]? := fun k hk hne => (hg.block k (Nat.lt_of_lt_of_le hk hX.size) (fun e => hne e.symm)).trans (hX.block k hk)
  have far : ∀ {A : Option Addr} {n c : Nat} {y : List Int}, KFar w F v A n c y → KFar w1 F v' A n c y := fun {A n c y} ha => by
    obtain ⟨h1, h2, h3, h4⟩ := ha.keep (w' := w1) (F' := F) hs (fun _ _ h => h) (fun k hk1 _ hk3 => hall k hk1 hk3)
    refine ⟨h1, h2, h3, fun a hA hn => ⟨(h4 a hA hn).1, fun e => ?_⟩⟩
    rcases hl with q | ⟨rr, q, hrr⟩
    · exact (h4 a hA hn).2 (q.symm.trans e)
    · rw [q] at e
      injection e with e
      obtain ⟨bb, o, e2, hbb, _⟩ := ha.2.2.1.2.2 hn
      rw [e2] at hA
      cases hA
      have : rr = bb := e
      omega
  have hlen : (l ++ [x]).length = l.length + 1 := by simp
  have hvlen : vs.length = l.length * 2 := hvs.1
  refine ⟨⟨⟨vs ++ [.slice ka kn kc, .slice va vn vc], by rw [hlen]; exact hown, fun i y hy => ?_⟩, fun r hr => ?_⟩, hs, hall⟩
  · rcases Nat.lt_or_ge i l.length with hi | hi
    · rw [List.getElem?_append_left hi] at hy
      obtain ⟨ka', kn', kc', va', vn', vc', h3, h4, h5, h6⟩ := hvl i y hy
      exact ⟨ka', kn', kc', va', vn', vc', by rw [List.getElem?_append_left (by omega)]; exact h3, by rw [List.getElem?_append_left (by omega)]; exact h4, far h5, far h6⟩
    · rw [List.getElem?_append_right hi] at hy
      have hi0 : i - l.length = 0 := by
        have := (List.getElem?_eq_some_iff.1 hy).1
        simp at this
        omega
      rw [hi0] at hy
      obtain rfl : x = y := by simpa using hy
      obtain rfl : i = l.length := by omega
      refine ⟨ka, kn, kc, va, vn, vc, ?_, ?_, far hu, far hu2⟩
      · rw [List.getElem?_append_right (by omega), hvlen, Nat.sub_self]; rfl
      · rw [List.getElem?_append_right (by omega), hvlen, show l.length * 2 + 1 - l.length * 2 = 1 by omega]; rfl
  · rcases hl with a | ⟨rr, a, hrr⟩
    · exact h.out r (a.symm.trans hr)
    · rw [a] at hr
      injection hr with hr
      intro hf
      have := hFlt r hf
      omega

theorem KRow.shape (h : KRow w F base v l) : ∃ A c, v = .slice A l.length c ∧ l.length ≤ c := by
  obtain ⟨vs, h1, h2⟩ := h.row
  rcases h1.2 with ⟨rfl, h0⟩ | ⟨g, cap, cur, rfl, hb, hg, hc, _⟩
  · rw [h0]; exact ⟨none, 0, rfl, Nat.le_refl _⟩
  · exact ⟨_, cap, rfl, hc⟩
/-- How it is read. -/
theorem KRow.pairs {A : Option Addr} {n c : Nat} (h : KRow w F base (.slice A n c) l) : n = l.length ∧ n ≤ c ∧ RPairs w w.heap.size A n l := by
  obtain ⟨vs, h1, h2⟩ := h.row
  rcases h1.2 with ⟨e, h0⟩ | ⟨g, cap, cur, e, hb, hg, hc, _, _, htake⟩
  · cases e
    exact ⟨h0.symm, Nat.le_refl _, h0, fun hn => absurd hn (by omega)⟩
  · cases e
    refine ⟨rfl, hc, rfl, fun hn => ⟨g, 0, rfl, (Array.getElem?_eq_some_iff.1 hg).1, fun i y hy => ?_⟩⟩
    have hi := (List.getElem?_eq_some_iff.1 hy).1
    obtain ⟨ka, kn, kc, va, vn, vc, h3, h4, h5, h6⟩ := h2 i y hy
    refine ⟨ka, kn, kc, va, vn, vc, ?_, ?_, h5.2.2.1, ⟨h5.1, h5.2.1⟩, h6.2.2.1, ⟨h6.1, h6.2.1⟩⟩
    · rw [Nat.zero_add, cell_of_row w g (i * 2) cur _ (0, 0) hg, ← h3, ← htake, List.getElem?_take, if_pos (by omega)]
      simp
    · rw [Nat.zero_add, cell_of_row w g (i * 2 + 1) cur _ (0, 0) hg, ← h4, ← htake, List.getElem?_take, if_pos (by omega)]
      simp
end

theorem wpList_append_pair {w : World} {ops : Array Oper} {rest : List Oper} {o : Oper} {a : Act} {Q : Exit → Act → World → Prop} (hgd : o.guard = none) (s x : Operand)
    (ho : o.op = .call { callee := .builtin .append, args := #[s, x], argTypes := #[31, 31] })
    (base : Nat) (v : Value) (n : Nat) (xs : List Value) (hs : a.eval s = v) (b : Nat) (z u : Value) (T : TypeId) (hx : a.eval x = .slice (some ⟨b, 0, none⟩) 1 1)
    (hown : w.ownsRow base 95 2 v n xs) (hb : w.heap[b]? = some (.cells #[z, u] T)) (hz : z.oneCell' = true) (hu : u.oneCell' = true) (h63 : n ≤ 4294967296) (hbase : base ≤ w.heap.size)
    (h : ∀ A' c' w', w'.ownsRow base 95 2 (.slice A' (n + 1) c') (n + 1) (xs ++ [z, u]) → w.grownBy w' v.ownBlock → ((Value.slice A' (n + 1) c').ownBlock = v.ownBlock ∨ (Value.slice A' (n + 1) c').ownBlock = some w.heap.size) → wpList Tryz.prog ops Q rest (a.put o.dst (.slice A' (n + 1) c')) w') : wpList Tryz.prog ops Q (o :: rest) a w := by
  obtain ⟨i0, hi, hz0, hz1, hz2⟩ := info_parts info_pair
  refine wpList_append_own_at w hgd s x _ ho base _ i0 (.agg #[.slice none 0 0, .slice none 0 0]) 2 48 Tryz.underlying31 hi hz0 hz1 hz2 rfl (by decide) v n _ hs hown ⟨b, 0, none⟩ 1 1 [z, u] hx rfl (World.news_of_block (cs := #[z, u]) hb) (fun y hy => ?_) (by unfold maxLen; omega) (by omega) hbase ?_
  · rcases List.mem_cons.1 hy with rfl | hy
    · exact hz
    · obtain rfl := List.mem_singleton.1 hy; exact hu
  intro v' w' h1 h2 _ h4
  obtain ⟨g, cap, rfl, _⟩ := h1.form (Nat.succ_pos _)
  exact h _ cap w' h1 h2 h4

/-- A box with a slice set anew. -/
theorem BkBox.set2 {w : World} {g n c n' c' : Nat} {d x : Int} {A A' : Option Addr} (h : BkBox w g d x A n c) : BkBox (w.setCell ⟨g, 2, none⟩ (.slice A' n' c')) g d x A' n' c' := heap_setCell_same w g 2 _ _ (.slice A' n' c') h
theorem BkBox.store {w : World} {g n c n' c' : Nat} {d x d' x' : Int} {A A' : Option Addr} (h : BkBox w g d x A n c) : BkBox (((w.setCell ⟨g, 0, none⟩ (.int .i64 d')).setCell ⟨g, 1, none⟩ (.int .i64 x')).setCell ⟨g, 2, none⟩ (.slice A' n' c')) g d' x' A' n' c' := by
  have h1 := heap_setCell_same w g 0 _ _ (.int .i64 d') h
  have h2 := heap_setCell_same _ g 1 _ _ (.int .i64 x') h1
  exact heap_setCell_same _ g 2 _ _ (.slice A' n' c') h2
theorem BkBox.frozen {w : World} {g n c : Nat} {d x : Int} {A : Option Addr} (h : BkBox w g d x A n c) (i : Nat) : w.frozen? ⟨g, i, none⟩ = false := by
  have h' : w.heap[g]? = some (.cells #[.int .i64 d, .int .i64 x, .slice A n c] 90 (0, 0)) := h
  simp [World.frozen?, h']
theorem BkBox.apart {w : World} {g b i n c : Nat} {d x : Int} {A : Option Addr} {u : Value} (h : BkBox w b d x A n c) (hne : b ≠ g) : BkBox (w.setCell ⟨g, i, none⟩ u) b d x A n c := (Below.heap_setCell _ _ _ _ hne).trans h
end Go.Proofs.YtinhdimalhfgkaaGreatDoor

/-
  Contract of bucket.read. Condition: a page of 240 bytes.
-/
namespace Go.Proofs.YtinhdimalhfgkaaGreatDoor
open Go.RowKit
set_option maxRecDepth 100000
set_option linter.unusedVariables false

/-- One pair more in the list of a bucket that is being read. -/
theorem bkPush_step {w0 X X2 w4 : World} {F : Nat → Prop} {base j c0 c' p0 p n0 cc0 : Nat} {d x d0 x0 : Int} {A0 A' AA0 : Option Addr} {m : List KV} {ka va : Option Addr} {kn kc vn vc : Nat} {y : KV} {vs : List Value}
    (hrow : KRow X F base (.slice A0 j c0) m) (hm : m.length = j) (hFlt : ∀ k, F k → k < X.heap.size) (h0 : BkBox X p0 d0 x0 AA0 n0 cc0) (hp : BkBox X p d x A0 j c0) (hF0 : F p0) (hFp : F p)
    (hu : KFar X F (.slice A0 j c0) ka kn kc y.1) (hu2 : KFar X F (.slice A0 j c0) va vn vc y.2)
    (hvs : X.ownsRow base 95 2 (.slice A0 j c0) m.length vs) (hvl : ∀ (i : Nat) (x : KV), m[i]? = some x → ∃ (ka : Option Addr) (kn kc : Nat) (va : Option Addr) (vn vc : Nat), vs[i * 2]? = some (.slice ka kn kc) ∧ vs[i * 2 + 1]? = some (.slice va vn vc) ∧ KFar X F (.slice A0 j c0) ka kn kc x.1 ∧ KFar X F (.slice A0 j c0) va vn vc x.2)
    (hX : Below X.heap.size X X2) (hb : Below w0.heap.size w0 X) (hbase : w0.heap.size ≤ base)
    (hown : w4.ownsRow base 95 2 (.slice A' (j + 1) c') (j + 1) (vs ++ [.slice ka kn kc, .slice va vn vc])) (hg : X2.grownBy w4 (Value.slice A0 j c0).ownBlock) (hl : (Value.slice A' (j + 1) c').ownBlock = (Value.slice A0 j c0).ownBlock ∨ (Value.slice A' (j + 1) c').ownBlock = some X2.heap.size) :
    KRow w4 F base (.slice A' (j + 1) c') (m ++ [y]) ∧ BkBox w4 p0 d0 x0 AA0 n0 cc0 ∧ BkBox w4 p d x A0 j c0 ∧ Below w0.heap.size w0 w4 := by
  subst hm
  have hl' : (Value.slice A' (m.length + 1) c').ownBlock = (Value.slice A0 m.length c0).ownBlock ∨ ∃ r, (Value.slice A' (m.length + 1) c').ownBlock = some r ∧ X.heap.size ≤ r := by
    rcases hl with q | q
    · exact .inl q
    · exact .inr ⟨_, q, hX.size⟩
  obtain ⟨q1, q2, q3⟩ := hrow.push hFlt hu hu2 hvs hvl hX hown hg hl'
  refine ⟨q1, (q3 _ h0.cells.2.2.2 (fun e => hrow.out _ e hF0)).trans h0, (q3 _ hp.cells.2.2.2 (fun e => hrow.out _ e hFp)).trans hp, ?_⟩
  exact (hb.trans (hX.mono hb.size)).grown hg (Nat.le_trans hb.size hX.size) (fun k hk => Nat.le_trans hbase (bkOwnAt hvs k hk).1)

/-- Pairs that stand in a world, and in each later one in which blocks that are not G's are as they were. -/
def Stays (w : World) (G : Nat → Prop) (A : Option Addr) (n : Nat) (ps : List KV) : Prop := ∀ W : World, w.heap.size ≤ W.heap.size → (∀ k, k < w.heap.size → ¬ G k → W.heap[k]? = w.heap[k]?) → RPairs W W.heap.size A n ps
theorem Stays.now {w : World} {G : Nat → Prop} {A : Option Addr} {n : Nat} {ps : List KV} (h : Stays w G A n ps) : RPairs w w.heap.size A n ps := h w (Nat.le_refl _) (fun _ _ _ => rfl)
theorem Stays.later {w w' : World} {G : Nat → Prop} {A : Option Addr} {n : Nat} {ps : List KV} (h : Stays w G A n ps) (hs : w.heap.size ≤ w'.heap.size) (hk : ∀ k, k < w.heap.size → ¬ G k → w'.heap[k]? = w.heap[k]?) : Stays w' G A n ps := fun W hW hkW => h W (Nat.le_trans hs hW) (fun k h1 h2 => (hkW k (Nat.lt_of_lt_of_le h1 hs) h2).trans (hk k h1 h2))
theorem Stays.below {w w' : World} {G : Nat → Prop} {A : Option Addr} {n : Nat} {ps : List KV} (h : Stays w G A n ps) (hb : Below w.heap.size w w') : Stays w' G A n ps := h.later hb.size (fun k hk _ => hb.block k hk)
theorem Stays.setCell {w : World} {G : Nat → Prop} {A : Option Addr} {n : Nat} {ps : List KV} (h : Stays w G A n ps) {p : Addr} (hp : G p.block) (u : Value) : Stays (w.setCell p u) G A n ps := h.later (by simp [World.setCell]) (fun k _ hf => Below.heap_setCell _ _ _ _ (fun e => hf (by rw [e]; exact hp)))
/-- The blocks of a bucket that is being read, and others. -/
def bkF (p : Nat) (G : Nat → Prop) : Nat → Prop := fun k => k = p ∨ k = p + 1 ∨ G k

/-- What is left when a page's pairs are read: the result's box is written over. -/
theorem bkRead_last {w0 W : World} {F : Nat → Prop} {base n c p : Nat} {d x : Int} {A : Option Addr} {l m : List KV} (hk : KRow W F base (.slice A n c) l) (hm : m = l) (h0 : BkBox W w0.heap.size 0 0 none 0 0) (hF : F w0.heap.size) (hb : Below w0.heap.size w0 W) (G : Nat → Prop) (hG : ∀ k, ¬ F k → ¬ G k) :
    BkBox (((W.setCell ⟨w0.heap.size, 0, none⟩ (.int .i64 d)).setCell ⟨w0.heap.size, 1, none⟩ (.int .i64 x)).setCell ⟨w0.heap.size, 2, none⟩ (.slice A n c)) w0.heap.size d x A n c ∧ n ≤ c ∧ Stays (((W.setCell ⟨w0.heap.size, 0, none⟩ (.int .i64 d)).setCell ⟨w0.heap.size, 1, none⟩ (.int .i64 x)).setCell ⟨w0.heap.size, 2, none⟩ (.slice A n c)) G A n m ∧ Below w0.heap.size w0 (((W.setCell ⟨w0.heap.size, 0, none⟩ (.int .i64 d)).setCell ⟨w0.heap.size, 1, none⟩ (.int .i64 x)).setCell ⟨w0.heap.size, 2, none⟩ (.slice A n c)) := by
  subst hm
  have hq := ((hk.setCell (p := ⟨w0.heap.size, 0, none⟩) hF (.int .i64 d)).setCell (p := ⟨w0.heap.size, 1, none⟩) hF (.int .i64 x)).setCell (p := ⟨w0.heap.size, 2, none⟩) hF (.slice A n c)
  obtain ⟨q1, q2, q3⟩ := hq.pairs
  exact ⟨h0.store, q2, fun W' hs hk' => (hq.keep (F' := G) hs (fun k _ h => hG k h) (fun k h1 h2 => hk' k h1 (hG k h2))).pairs.2.2, ((hb.setCell (p := ⟨w0.heap.size, 0, none⟩) (Nat.le_refl _) _).setCell (p := ⟨w0.heap.size, 1, none⟩) (Nat.le_refl _) _).setCell (p := ⟨w0.heap.size, 2, none⟩) (Nat.le_refl _) _⟩

set_option maxHeartbeats 6400000 in
theorem bkRead_any {w : World} {B n c : Nat} {A : Option Addr} {l : List Int} (hr : RB w B A n l) (hB : B ≤ w.heap.size) (hn : n = 240) (hc : n ≤ c) (G : Nat → Prop) (hG : ∀ k, G k → k < w.heap.size) (hAG : ∀ x, A = some x → ¬ G x.block) :
    Calls Tryz.prog 207 #[.slice A n c] w fun e w' => ∃ A' n' c', e = .returned (.agg #[.int .i64 (readBk l).d, .int .i64 (readBk l).x, .slice A' n' c']) ∧ n' ≤ c' ∧ Stays w' G A' n' (readBk l).ps ∧ Below w.heap.size w w' := by
  have hX1 : Below w.heap.size w (w.alloc (BkObj 0 0 none 0 0)) := (Below.refl _ _).alloc (Nat.le_refl _) _
  have HG := Lib.hid (fun (W : World) (hW : Below w.heap.size w W) (a s : Int) => bkNumber_any a s (hr.below (hW.mono hB)) hc (by subst hn; decide))
  have HC1 := Lib.hid (fun (W : World) (hW : Below w.heap.size w W) (a : Nat) (ha : a ≤ 240) (he : 240 < cutE l a) => bkCut_beyond a (hr.below (hW.mono hB)) (Nat.le_trans hB hW.size) hn hc ha he)
  have HC2 := Lib.hid (fun (W : World) (hW : Below w.heap.size w W) (a : Nat) (he : ¬ 240 < cutE l a) => bkCut_within a (hr.below (hW.mono hB)) (Nat.le_trans hB hW.size) hn hc he)
  have HBN := Lib.hid (And.intro (getR_int hr.bytes 1 1) (And.intro (getR_int hr.bytes 2 4) (getR_int hr.bytes 6 2)))
  have HKB := Lib.hid (fun a => And.intro (kN_eq hr.bytes a).1 (vN_eq hr.bytes a).1)
  have HPB := Lib.hid (fun (W : World) (hW : Below w.heap.size w W) => hr.below (hW.mono hB))
  have HD : Hid ((readBk l).d = (getR l 1 1).1 ∧ (readBk l).x = (getR l 2 4).1 ∧ (readBk l).ps = cutsL l ((getR l 6 2).1).toNat 8) := Lib.hid ⟨rfl, rfl, rfl⟩
  have hbx0 := BkBox.new w 0 0 none 0 0
  have HX1 := Lib.hid hX1
  have hs1 : (w.alloc (BkObj 0 0 none 0 0)).heap.size = w.heap.size + 1 := by simp
  have hG1 := Lib.hid (HG.out _ hX1 1 1)
  have hG2 := Lib.hid (HG.out _ hX1 2 4)
  have hbx1 := BkBox.new (w.alloc (BkObj 0 0 none 0 0)) (getR l 1 1).1 (getR l 2 4).1 none 0 0
  have hX2 : Below (w.alloc (BkObj 0 0 none 0 0)).heap.size (w.alloc (BkObj 0 0 none 0 0)) ((w.alloc (BkObj 0 0 none 0 0)).alloc (BkObj (getR l 1 1).1 (getR l 2 4).1 none 0 0)) := (Below.refl _ _).alloc (Nat.le_refl _) _
  rw [hs1] at hbx1
  have HX2 := Lib.hid (And.intro (hbx0.below hX2) (And.intro hbx1 (hX1.trans (hX2.mono hX1.size))))
  have hG3 := Lib.hid (HG.out _ HX2.out.2.2 6 2)
  clear hr hX1 hbx0 hbx1 hX2 HX1
  obtain ⟨⟨b1, b2⟩, ⟨b3, b4⟩, ⟨b5, b6⟩⟩ := HBN.out
  subst hn
  generalize (getR l 1 1).1 = D0 at *
  generalize (getR l 2 4).1 = X0 at *
  generalize (getR l 6 2).1 = C0 at *
  clear HBN HG
  unfold BkObj at *
  go_enter Tryz.func207, Tryz.ntmps207
  go_wp2_with fail
  refine hG1.out.mono ?_
  rintro e w' ⟨rfl, rfl⟩
  go_wp2_with fail
  refine hG2.out.mono ?_
  rintro e w' ⟨rfl, rfl⟩
  go_wp2_with fail
  refine hG3.out.mono ?_
  rintro e w' ⟨rfl, rfl⟩
  go_wp2_with fail
  obtain ⟨N, hN⟩ : ∃ N, C0.toNat = N := ⟨_, rfl⟩
  have HN := Lib.hid hN
  have HPS : Hid ((readBk l).ps = cutsL l N 8) := Lib.hid (by rw [← hN]; exact HD.out.2.2)
  clear hG1 hG2 hG3 hN
  go_loopw [3, 22] (fun av i wr => ∃ (j a : Nat) (A0 : Option Addr) (c0 : Nat) (m : List KV), j ≤ N ∧ a ≤ 240 ∧ i = .int .i64 j ∧ av = .int .i64 a ∧ 2 * j ≤ a ∧ Hid (m.length = j) ∧ Hid (cutsL l N 8 = m ++ cutsL l (N - j) a) ∧ Hid (KRow wr (bkF w.heap.size G) (w.heap.size + 2) (.slice A0 j c0) m) ∧ Hid (BkBox wr w.heap.size 0 0 none 0 0 ∧ BkBox wr (w.heap.size + 1) D0 X0 A0 j c0 ∧ Below w.heap.size w wr)) (fun _ i _ => N - (intOf i).toNat)
  case atStart => exact ⟨0, 8, none, 0, [], Nat.zero_le _, by decide, rfl, rfl, by decide, Lib.hid rfl, Lib.hid rfl, Lib.hid (KRow.start _ _ _), HX2⟩
  case round =>
    clear HX2
    obtain ⟨j, a, A0, c0, m, hj, ha, rfl, rfl, hja, hml, hcuts, hrow, hbxs⟩ := hrel
    by_cases hlt : j < N
    · have hlt' : (j : Int) < C0 := by have := HN.out; omega
      by_cases he : 240 < cutE l a
      · have HC := Lib.hid (HC1.out _ hbxs.out.2.2 a ha he)
        have hme := Lib.hid (show (readBk l).ps = m from by rw [HPS.out, hcuts.out, cutsL_stop he, List.append_nil])
        have he' : 240 < (cutE l a : Int) := by omega
        have HCE := Lib.hid (show cutE l a ≤ 1000 from by have := HKB.out a; unfold cutE; omega)
        have hce := HCE.out
        clear he
        generalize cutE l a = E at HC he' hce
        go_wp2_with fail
        refine HC.out.mono ?_
        rintro e w1 ⟨rfl, hb1⟩
        have hX : Below w1.heap.size w1 (w1.alloc (.cells #[.slice none 0 0, .slice none 0 0] 95 (0, 0))) := (Below.refl _ _).alloc (Nat.le_refl _) _
        have hbX := hb1.trans (hX.mono hb1.size)
        have hb0 := hbxs.out.1.below hbX
        have hbp := hbxs.out.2.1.below hbX
        have HEND := Lib.hid (bkRead_last (p := 0) (d := D0) (x := X0) (hrow.out.below hbX) hme.out hb0 (.inl rfl) (hbxs.out.2.2.trans (hbX.mono hbxs.out.2.2.size)) G (fun k h1 h2 => h1 (.inr (.inr h2))))
        have f0 := hb0.frozen 0
        have f1 := hb0.frozen 1
        have f2 := hb0.frozen 2
        obtain ⟨z0, z1, z2, _⟩ := hb0.cells
        obtain ⟨u0, u1, u2, _⟩ := hbp.cells
        clear hb1 hX hbX hb0 hbp hrow hbxs HC hcuts
        go_wp2
        generalize hXX : ((((w1.alloc (.cells #[.slice none 0 0, .slice none 0 0] 95 (0, 0))).setCell ⟨w.heap.size, 0, none⟩ (Value.int IntKind.i64 D0)).setCell ⟨w.heap.size, 1, none⟩ (Value.int IntKind.i64 X0)).setCell ⟨w.heap.size, 2, none⟩ (Value.slice A0 j c0)) = X at *
        obtain ⟨d0, d1, d2, _⟩ := HEND.out.1.cells
        refine bodyPost_ret (v := .agg #[.int .i64 D0, .int .i64 X0, .slice A0 j c0]) (by
          simp [results, Tryz.results207, go_sem, d0, d1, d2]) rfl ?_
        exact ⟨A0, j, c0, by rw [HD.out.1, HD.out.2.1], HEND.out.2.1, HEND.out.2.2.1, HEND.out.2.2.2⟩
      · have HC := Lib.hid (HC2.out _ hbxs.out.2.2 a he)
        have HNX := Lib.hid (show cutsL l N 8 = (m ++ [(cutK l a, cutV l a)]) ++ cutsL l (N - (j + 1)) (cutE l a) from by
          rw [hcuts.out, show N - j = (N - (j + 1)) + 1 by omega, cutsL_go he]
          simp)
        have hEa := Lib.hid (show 2 * (j + 1) ≤ cutE l a ∧ cutE l a ≤ 240 from by unfold cutE; unfold cutE at he; omega)
        have hkb := HKB.out a
        have he' : ¬ 240 < (cutE l a : Int) := by omega
        have hce : cutE l a ≤ 240 := by omega
        clear he
        generalize cutE l a = E at HC HNX hEa he' hce
        generalize cutK l a = K at HC HNX
        generalize cutV l a = V at HC HNX
        generalize kN l a = kn at HC hkb
        generalize vN l a = vn at HC hkb
        go_wp2_with fail
        refine HC.out.mono ?_
        rintro e w1 ⟨ka, va, rfl, rk, rv, hb1, hin⟩
        have hX : Below w1.heap.size w1 (w1.alloc (.cells #[.slice ka kn kn, .slice va vn vn] 95 (0, 0))) := (Below.refl _ _).alloc (Nat.le_refl _) _
        have hbX := hb1.trans (hX.mono hb1.size)
        have hb0 := hbxs.out.1.below hbX
        have hbp := hbxs.out.2.1.below hbX
        have hbw := hbxs.out.2.2.trans (hbX.mono hbxs.out.2.2.size)
        have hrowX := hrow.out.below hbX
        have h1 : 0 < 1 := Nat.one_pos
        have hX3 : Below (w1.alloc (.cells #[.slice ka kn kn, .slice va vn vn] 95 (0, 0))).heap.size (w1.alloc (.cells #[.slice ka kn kn, .slice va vn vn] 95 (0, 0))) ((w1.alloc (.cells #[.slice ka kn kn, .slice va vn vn] 95 (0, 0))).alloc (.cells #[.slice ka kn kn, .slice va vn vn] 95 (0, 0))) := (Below.refl _ _).alloc (Nat.le_refl _) _
        obtain ⟨vs, hvs, hvl⟩ := hrowX.row
        have hFar : ∀ {D : Option Addr} {q : Nat} {L : List Int}, RB wr B D q L → q < 256 → (∀ y, D = some y → ∃ x, A = some x ∧ y.block = x.block) → KFar (w1.alloc (.cells #[.slice ka kn kn, .slice va vn vn] 95 (0, 0))) (bkF w.heap.size G) (.slice A0 j c0) D q q L := fun {D q L} h hq hin => by
          refine ⟨Nat.le_refl _, by unfold maxLen; omega, ((h.below (hbX.mono (Nat.le_trans hB hbxs.out.2.2.size))).more (Nat.le_trans hB hbw.size)), fun x hx hq0 => ?_⟩
          obtain ⟨bb, o, e, hbb, _⟩ := h.at_ hq0
          rw [e] at hx
          cases hx
          refine ⟨fun hf => ?_, fun hf => ?_⟩
          · rcases hf with hf | hf | hf
            · have : bb = w.heap.size := hf
              omega
            · have : bb = w.heap.size + 1 := hf
              omega
            · obtain ⟨x, hx, hxb⟩ := hin _ e
              exact hAG x hx (by rw [← hxb]; exact hf)
          · have := (bkOwnAt hvs bb hf).1
            omega
        have hlen : (w1.alloc (.cells #[.slice ka kn kn, .slice va vn vn] 95 (0, 0))).heap.size = w1.heap.size + 1 := by simp
        have hpl := hbp.cells.2.2.2
        have HSTEP := Lib.hid (fun A' c' w4 => bkPush_step (w0 := w) (X2 := (w1.alloc (.cells #[.slice ka kn kn, .slice va vn vn] 95 (0, 0))).alloc (.cells #[.slice ka kn kn, .slice va vn vn] 95 (0, 0))) (w4 := w4) (A' := A') (c' := c') (y := (K, V)) hrowX hml.out (fun k hk => by
          rcases hk with rfl | rfl | hk
          · omega
          · omega
          · have := hG k hk; have := hbw.size; omega) hb0 hbp (.inl rfl) (.inr (.inl rfl)) (hFar rk hkb.1 (fun y hy => hin y (.inl hy))) (hFar rv hkb.2 (fun y hy => hin y (.inr hy))) hvs hvl hX3 hbw (by omega))
        have hownX := own_later hvs hX3
        rw [hml.out] at hownX
        obtain ⟨u0, u1, u2, _⟩ := hbp.cells
        obtain ⟨y0, y1⟩ := (PBox.new w1 (.slice ka kn kn) (.slice va vn vn)).cells
        have hsz3 : w.heap.size + 2 ≤ ((w1.alloc (.cells #[.slice ka kn kn, .slice va vn vn] 95 (0, 0))).alloc (.cells #[.slice ka kn kn, .slice va vn vn] 95 (0, 0))).heap.size := by have := hX3.size; omega
        have hblk3 : ((w1.alloc (.cells #[.slice ka kn kn, .slice va vn vn] 95 (0, 0))).alloc (.cells #[.slice ka kn kn, .slice va vn vn] 95 (0, 0))).heap[(w1.alloc (.cells #[.slice ka kn kn, .slice va vn vn] 95 (0, 0))).heap.size]? = some (.cells #[.slice ka kn kn, .slice va vn vn] 95) := heap_alloc_new _ _
        rw [hlen] at hblk3
        have hj63 : j ≤ 4294967296 := by omega
        clear hb0 hbp hbw hrowX hX hX3 hbX hb1 rk rv hFar hvl hvs HC hrow hbxs
        go_wp2_with (at_builtin; refine wpList_append_pair rfl _ _ rfl (w.heap.size + 2) (.slice A0 j c0) j vs rfl (w1.heap.size + 1) (.slice ka kn kn) (.slice va vn vn) 95 rfl hownX hblk3 rfl rfl hj63 hsz3 ?_; intro A4 c4 w4 hown4 hg4 hl4; have HS4 := Lib.hid (HSTEP.out A4 c4 w4 hown4 hg4 hl4); clear hown4 hg4 hl4 hownX hblk3 hsz3 hlen HSTEP; have f2 := HS4.out.2.2.1.frozen 2; have z2 := HS4.out.2.2.1.cells.2.2.1)
        go_roundw
        case rel => exact ⟨j + 1, E, A4, c4, m ++ [(K, V)], by omega, hce, by go_num, rfl, hEa.out.1, Lib.hid (by rw [List.length_append, hml.out]; rfl), HNX, Lib.hid (HS4.out.1.setCell (p := ⟨w.heap.size + 1, 2, none⟩) (.inr (.inl rfl)) _), Lib.hid ⟨HS4.out.2.1.apart (by omega), HS4.out.2.2.1.set2, HS4.out.2.2.2.setCell (p := ⟨w.heap.size + 1, 2, none⟩) (by show _ ≤ w.heap.size + 1; omega) _⟩⟩
        case measure => simp [intOf]; omega
    · have hlt' : ¬ (j : Int) < C0 := by have := HN.out; omega
      obtain rfl : j = N := by omega
      have hme := Lib.hid (show (readBk l).ps = m from by rw [HPS.out, hcuts.out, Nat.sub_self, cutsL_zero, List.append_nil])
      have hb0 := hbxs.out.1
      have HEND := Lib.hid (bkRead_last (p := 0) (d := D0) (x := X0) hrow.out hme.out hb0 (.inl rfl) hbxs.out.2.2 G (fun k h1 h2 => h1 (.inr (.inr h2))))
      have f0 := hb0.frozen 0
      have f1 := hb0.frozen 1
      have f2 := hb0.frozen 2
      obtain ⟨z0, z1, z2, _⟩ := hb0.cells
      obtain ⟨u0, u1, u2, _⟩ := hbxs.out.2.1.cells
      clear hb0 hrow hbxs hcuts
      go_wp2
      generalize hXX : (((wr.setCell ⟨w.heap.size, 0, none⟩ (Value.int IntKind.i64 D0)).setCell ⟨w.heap.size, 1, none⟩ (Value.int IntKind.i64 X0)).setCell ⟨w.heap.size, 2, none⟩ (Value.slice A0 j c0)) = X at *
      obtain ⟨d0, d1, d2, _⟩ := HEND.out.1.cells
      refine bodyPost_ret (v := .agg #[.int .i64 D0, .int .i64 X0, .slice A0 j c0]) (by
        simp [results, Tryz.results207, go_sem, d0, d1, d2]) rfl ?_
      exact ⟨A0, j, c0, by rw [HD.out.1, HD.out.2.1], HEND.out.2.1, HEND.out.2.2.1, HEND.out.2.2.2⟩
end Go.Proofs.YtinhdimalhfgkaaGreatDoor

/-
  Contract of bucket.Parse. Condition: a slice of bytes.
-/
namespace Go.Proofs.YtinhdimalhfgkaaGreatDoor
open Go.RowKit
set_option maxRecDepth 100000
set_option linter.unusedVariables false

theorem cutsL_size (l : List Int) (c : Nat) : ∀ a, a ≤ 240 → a + szP (cutsL l c a) ≤ 240 := by
  induction c with
  | zero => intro a ha; simpa [cutsL, szP] using ha
  | succ c ih =>
    intro a ha
    by_cases h : 240 < cutE l a
    · rw [cutsL_stop h]; simpa [szP] using ha
    · rw [cutsL_go h, szP_cons]
      have := ih (cutE l a) (by omega)
      have h1 : (cutK l a).length ≤ kN l a := by unfold cutK; rw [List.length_take]; omega
      have h2 : (cutV l a).length ≤ vN l a := by unfold cutV; rw [List.length_take]; omega
      have h3 : cutE l a = a + 2 + kN l a + vN l a := rfl
      show a + (2 + (cutK l a).length + (cutV l a).length + szP (cutsL l c (cutE l a))) ≤ 240
      omega
theorem readBk_few (l : List Int) : 8 + szP (readBk l).ps ≤ 240 ∧ (readBk l).ps.length ≤ 116 := by
  have h := cutsL_size l (cntBk l) 8 (by decide)
  have h2 := szP_len (readBk l).ps
  have e : (readBk l).ps = cutsL l (cntBk l) 8 := rfl
  rw [← e] at h
  exact ⟨h, by omega⟩
theorem readBk_int {l : List Int} (hb : AllBytes l) : (-9223372036854775808 ≤ (readBk l).d ∧ (readBk l).d ≤ 9223372036854775807) ∧ (-9223372036854775808 ≤ (readBk l).x ∧ (readBk l).x ≤ 9223372036854775807) := ⟨getR_int hb 1 1, getR_int hb 2 4⟩

/-- Parse's answer, made of parts. -/
theorem parseBk_yes {l : List Int} (h : l.length = 240) (hm : mayBk (readBk l) = true) (hp : pageBk (readBk l) = l) : parseBk l = (readBk l, 0) := by unfold parseBk; rw [if_pos ⟨h, hm, hp⟩]
theorem parseBk_no {l : List Int} (h : ¬ (l.length = 240 ∧ mayBk (readBk l) = true ∧ pageBk (readBk l) = l)) : parseBk l = (⟨0, 0, []⟩, 4) := by unfold parseBk; rw [if_neg h]

/-- clone, its bytes in new memory. -/
theorem bkClone_any {w : World} {B n : Nat} {A : Option Addr} {l : List Int} (c : Nat) (h : RB w B A n l) (hB : B ≤ w.heap.size) (hn : n ≤ 140737488355328) :
    Calls Tryz.prog 99 #[.slice A n c] w fun e w' => ∃ A' c', e = .returned (.slice A' n c') ∧ n ≤ c' ∧ RB w' w'.heap.size A' n l ∧ Below w.heap.size w w' ∧ ∀ x, A' = some x → w.heap.size ≤ x.block := by
  have q22 : ∀ (w : World) (a : Option Addr) (n c n' c' : Nat), (binOp .eql 46 (.slice a n c) (.slice none n' c')).run Tryz.prog w = .ok (.bool a.isNone) w := fun w a n c n' c' => Lib.run_eql_slice_nil w _ _ a n c n' c' Tryz.underlying46
  rcases A with _ | ad
  · have hm : n = 0 := by
      rcases Nat.eq_zero_or_pos n with h0 | h0
      · exact h0
      · obtain ⟨b, off, e, _⟩ := h.at_ h0; cases e
    subst hm
    obtain rfl : l = [] := List.eq_nil_of_length_eq_zero h.len
    go_enter Tryz.func99, Tryz.ntmps99
    go_wp2
    go_ret
    exact ⟨none, 0, rfl, Nat.le_refl _, RB.nil_, Below.refl _ _, fun x hx => by cases hx⟩
  · go_enter Tryz.func99, Tryz.ntmps99
    go_wp2_with (at_builtin; refine wpList_append_bytes rfl _ _ rfl w.heap.size _ 0 [] rfl (World.ownsRow_made w #[] 0 (Nat.le_refl _) (Nat.zero_le _) rfl) B (some ad) n c l rfl (h.alloc hB _) (by omega) (by simp) ?_; intro v1 w1 hown1 _ hb1)
    simp only [Nat.zero_add, List.nil_append] at hown1
    have hge := own_ge hown1
    obtain ⟨A', c', rfl, hc'⟩ := own_shape hown1
    go_ret
    refine ⟨A', c', rfl, hc', RB.of_own hown1 h.bytes, ((Below.refl w.heap.size w).alloc (Nat.le_refl _) _).trans hb1, fun x hx => ?_⟩
    subst hx
    exact hge x.block (by simp [Value.ownBlock])

/-- A bucket over the result's box. -/
theorem bkStore_last {w0 W : World} {n c : Nat} {d x : Int} {A : Option Addr} {ps : List KV} (hr : Stays W (fun k => k = w0.heap.size) A n ps) (hc : n ≤ c) (h0 : BkBox W w0.heap.size 0 0 none 0 0) (hb : Below w0.heap.size w0 W) :
    BkBox (((W.setCell ⟨w0.heap.size, 0, none⟩ (.int .i64 d)).setCell ⟨w0.heap.size, 1, none⟩ (.int .i64 x)).setCell ⟨w0.heap.size, 2, none⟩ (.slice A n c)) w0.heap.size d x A n c ∧ n ≤ c ∧ RPairs (((W.setCell ⟨w0.heap.size, 0, none⟩ (.int .i64 d)).setCell ⟨w0.heap.size, 1, none⟩ (.int .i64 x)).setCell ⟨w0.heap.size, 2, none⟩ (.slice A n c)) (((W.setCell ⟨w0.heap.size, 0, none⟩ (.int .i64 d)).setCell ⟨w0.heap.size, 1, none⟩ (.int .i64 x)).setCell ⟨w0.heap.size, 2, none⟩ (.slice A n c)).heap.size A n ps ∧ Below w0.heap.size w0 (((W.setCell ⟨w0.heap.size, 0, none⟩ (.int .i64 d)).setCell ⟨w0.heap.size, 1, none⟩ (.int .i64 x)).setCell ⟨w0.heap.size, 2, none⟩ (.slice A n c)) := by
  have hq := ((hr.setCell (p := ⟨w0.heap.size, 0, none⟩) rfl (.int .i64 d)).setCell (p := ⟨w0.heap.size, 1, none⟩) rfl (.int .i64 x)).setCell (p := ⟨w0.heap.size, 2, none⟩) rfl (.slice A n c)
  exact ⟨h0.store, hc, hq.now, ((hb.setCell (p := ⟨w0.heap.size, 0, none⟩) (Nat.le_refl _) _).setCell (p := ⟨w0.heap.size, 1, none⟩) (Nat.le_refl _) _).setCell (p := ⟨w0.heap.size, 2, none⟩) (Nat.le_refl _) _⟩
theorem Stays.none_ (w : World) (G : Nat → Prop) : Stays w G none 0 [] := fun W _ _ => RPairs.nil_

set_option maxHeartbeats 6400000 in
theorem bkParse_any {w : World} {B n c : Nat} {A : Option Addr} {l : List Int} (hr : RB w B A n l) (hB : B ≤ w.heap.size) (hc : n ≤ c) (hm : n ≤ maxLen) :
    Calls Tryz.prog 157 #[.slice A n c] w fun e w' => ∃ A' n' c', e = .returned (.tuple #[.agg #[.int .i64 (parseBk l).1.d, .int .i64 (parseBk l).1.x, .slice A' n' c'], .int .i64 (parseBk l).2]) ∧ n' ≤ c' ∧ RPairs w' w'.heap.size A' n' (parseBk l).1.ps ∧ Below w.heap.size w w' := by
  unfold maxLen at hm
  have hX : Below w.heap.size w (w.alloc (BkObj 0 0 none 0 0)) := (Below.refl _ _).alloc (Nat.le_refl _) _
  have hbx := BkBox.new w 0 0 none 0 0
  by_cases h240 : n = 240
  · have HC := Lib.hid (bkClone_any c (hr.below (hX.mono hB)) (Nat.le_trans hB hX.size) (by omega))
    have HBX := Lib.hid hbx
    have HX := Lib.hid hX
    have HR := Lib.hid hr
    have HLEN := Lib.hid (show l.length = 240 by rw [hr.len]; exact h240)
    have hfew := readBk_few l
    have hint := readBk_int hr.bytes
    have hs1 : w.heap.size < (w.alloc (BkObj 0 0 none 0 0)).heap.size := by simp
    clear hX hbx hr
    subst h240
    unfold BkObj at *
    go_enter Tryz.func157, Tryz.ntmps157
    go_wp2_with fail
    refine HC.out.mono ?_
    rintro e w1 ⟨A1, c1, rfl, hc1, hr1, hb1, hnew⟩
    have HB1 := Lib.hid (And.intro (HX.out.trans (hb1.mono HX.out.size)) (HBX.out.below hb1))
    have HRD := Lib.hid (bkRead_any hr1 (Nat.le_refl _) rfl hc1 (fun k => k = w.heap.size) (fun k hk => by rw [hk]; exact HB1.out.2.cells.2.2.2) (fun x hx e => by have := hnew x hx; have e' : x.block = w.heap.size := e; omega))
    clear hr1 hb1 hnew HC HX HBX
    go_wp2_with fail
    refine HRD.out.mono ?_
    rintro e w2 ⟨A2, n2, c2, rfl, hc2, hst2, hb2⟩
    have hXX : Below w2.heap.size w2 (w2.alloc (BkObj (readBk l).d (readBk l).x A2 n2 c2)) := (Below.refl _ _).alloc (Nat.le_refl _) _
    have hb2X := hb2.trans (hXX.mono hb2.size)
    have HB2 := Lib.hid (And.intro (HB1.out.1.trans (hb2X.mono HB1.out.1.size)) (And.intro (HB1.out.2.below hb2X) (And.intro (BkBox.new w2 (readBk l).d (readBk l).x A2 n2 c2) (hst2.below hXX))))
    have hn2 : n2 ≤ 116 := by rw [← hst2.now.len]; exact hfew.2
    have HP := Lib.hid (bkPut_any (readBk l).d (readBk l).x c2 HB2.out.2.2.2.now (Nat.le_refl _) (by unfold maxLen; omega) (by omega) hint.1 hint.2)
    obtain ⟨u0, u1, u2, _⟩ := HB2.out.2.2.1.cells
    have HPY := Lib.hid (fun (hm : mayBk (readBk l) = true) (hp : pageBk (readBk l) = l) => parseBk_yes HLEN.out hm hp)
    have HPN := Lib.hid (fun (h : ¬ (mayBk (readBk l) = true ∧ pageBk (readBk l) = l)) => parseBk_no (l := l) (fun h' => h h'.2))
    have hput : putBk ⟨(readBk l).d, (readBk l).x, (readBk l).ps⟩ = if mayBk (readBk l) = true then (pageBk (readBk l), 0) else ([], 1) := rfl
    rw [hput] at HP
    clear hput hfew hint hst2 hb2 hXX hb2X HRD HB1
    generalize readBk l = R at *
    obtain ⟨D, X0, PS⟩ := R
    unfold BkObj at *
    go_wp2_with fail
    refine HP.out.mono ?_
    by_cases hmay : mayBk ⟨D, X0, PS⟩ = true
    · rw [if_pos hmay]
      rintro e w3 ⟨A3, n3, c3, rfl, hc3, hr3, hb3⟩
      have hr3 : RB w3 w3.heap.size A3 n3 (pageBk ⟨D, X0, PS⟩) := hr3
      obtain ⟨k1, k2, k3, k4⟩ := HB2.out
      have hb03 := k1.trans (hb3.mono k1.size)
      have hbx0 := k2.below hb3
      have hbx4 := k3.below hb3
      have hst3 := k4.below hb3
      have HE := Lib.hid (Equal_any c3 c hr3 (HR.out.below (hb03.mono hB)))
      have f0 := hbx0.frozen 0
      have f1 := hbx0.frozen 1
      have f2 := hbx0.frozen 2
      obtain ⟨z0, z1, z2, _⟩ := hbx0.cells
      clear u0 u1 u2
      obtain ⟨u0, u1, u2, _⟩ := hbx4.cells
      by_cases hpd : pageBk ⟨D, X0, PS⟩ = l
      · have HPS := Lib.hid (HPY.out hmay hpd)
        rw [decide_eq_true hpd] at HE
        have HEND := Lib.hid (bkStore_last (d := D) (x := X0) hst3 hc2 hbx0 hb03)
        clear hr3 hb3 k1 k2 k3 k4 hb03 hbx0 hbx4 hst3 HP hpd hmay HPY HPN HB2
        go_wp2_with fail
        refine HE.out.mono ?_
        rintro e w4 ⟨rfl, rfl⟩
        go_wp2
        generalize hXX : (((w3.setCell ⟨w.heap.size, 0, none⟩ (Value.int IntKind.i64 D)).setCell ⟨w.heap.size, 1, none⟩ (Value.int IntKind.i64 X0)).setCell ⟨w.heap.size, 2, none⟩ (Value.slice A2 n2 c2)) = X at *
        obtain ⟨d0, d1, d2, _⟩ := HEND.out.1.cells
        refine bodyPost_ret (v := .tuple #[.agg #[.int .i64 D, .int .i64 X0, .slice A2 n2 c2], .int .i64 0]) (by
          simp [results, Tryz.results157, go_sem, d0, d1, d2]) rfl ?_
        rw [HPS.out]
        exact ⟨_, _, _, rfl, HEND.out.2.1, HEND.out.2.2.1, HEND.out.2.2.2⟩
      · have HPS := Lib.hid (HPN.out (fun h => hpd h.2))
        rw [decide_eq_false hpd] at HE
        have HEND := Lib.hid (bkStore_last (d := 0) (x := 0) (Stays.none_ w3 (fun k => k = w.heap.size)) (Nat.le_refl 0) hbx0 hb03)
        clear hr3 hb3 k1 k2 k3 k4 hb03 hbx0 hbx4 hst3 HP hpd hmay HPY HPN HB2
        go_wp2_with fail
        refine HE.out.mono ?_
        rintro e w4 ⟨rfl, rfl⟩
        go_wp2
        generalize hXX : (((w3.setCell ⟨w.heap.size, 0, none⟩ (Value.int IntKind.i64 0)).setCell ⟨w.heap.size, 1, none⟩ (Value.int IntKind.i64 0)).setCell ⟨w.heap.size, 2, none⟩ (Value.slice none 0 0)) = X at *
        obtain ⟨d0, d1, d2, _⟩ := HEND.out.1.cells
        refine bodyPost_ret (v := .tuple #[.agg #[.int .i64 0, .int .i64 0, .slice none 0 0], .int .i64 4]) (by
          simp [results, Tryz.results157, go_sem, d0, d1, d2]) rfl ?_
        rw [HPS.out]
        exact ⟨_, _, _, rfl, HEND.out.2.1, HEND.out.2.2.1, HEND.out.2.2.2⟩
    · rw [if_neg hmay]
      rintro e w3 ⟨A3, n3, c3, rfl, hc3, hr3, hb3⟩
      obtain ⟨k1, k2, k3, k4⟩ := HB2.out
      have hb03 := k1.trans (hb3.mono k1.size)
      have hbx0 := k2.below hb3
      have f0 := hbx0.frozen 0
      have f1 := hbx0.frozen 1
      have f2 := hbx0.frozen 2
      obtain ⟨z0, z1, z2, _⟩ := hbx0.cells
      have HPS := Lib.hid (HPN.out (fun h => hmay h.1))
      have HEND := Lib.hid (bkStore_last (d := 0) (x := 0) (Stays.none_ w3 (fun k => k = w.heap.size)) (Nat.le_refl 0) hbx0 hb03)
      clear u0 u1 u2 hr3 hb3 k1 k2 k3 k4 hb03 hbx0 HP hmay HPY HPN HB2
      go_wp2
      generalize hXX : (((w3.setCell ⟨w.heap.size, 0, none⟩ (Value.int IntKind.i64 0)).setCell ⟨w.heap.size, 1, none⟩ (Value.int IntKind.i64 0)).setCell ⟨w.heap.size, 2, none⟩ (Value.slice none 0 0)) = X at *
      obtain ⟨d0, d1, d2, _⟩ := HEND.out.1.cells
      refine bodyPost_ret (v := .tuple #[.agg #[.int .i64 0, .int .i64 0, .slice none 0 0], .int .i64 4]) (by
        simp [results, Tryz.results157, go_sem, d0, d1, d2]) rfl ?_
      rw [HPS.out]
      exact ⟨_, _, _, rfl, HEND.out.2.1, HEND.out.2.2.1, HEND.out.2.2.2⟩
  · have HPS := Lib.hid (parseBk_no (l := l) (fun h => h240 (by rw [← hr.len]; exact h.1)))
    have k1 : ((n : Int) != 240) = true := by simp; omega
    have HX := Lib.hid hX
    obtain ⟨z0, z1, z2, _⟩ := hbx.cells
    clear h240 hX hr hbx
    unfold BkObj at *
    go_enter Tryz.func157, Tryz.ntmps157
    go_wp2
    refine bodyPost_ret (v := .tuple #[.agg #[.int .i64 0, .int .i64 0, .slice none 0 0], .int .i64 4]) (by
      simp [results, Tryz.results157, go_sem, z0, z1, z2]) rfl ?_
    rw [HPS.out]
    exact ⟨none, 0, 0, rfl, Nat.le_refl _, RPairs.nil_, HX.out⟩
end Go.Proofs.YtinhdimalhfgkaaGreatDoor
