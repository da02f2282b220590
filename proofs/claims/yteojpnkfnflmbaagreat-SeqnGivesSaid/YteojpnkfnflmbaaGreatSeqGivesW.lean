/-
  SeqnGives by the walk: it returns true. Condition: what came in are pairs and ints, as the statement opens them.
-/
import Derived.Test.YteojpnkfnflmbaaGreatSeqG
import Derived.Test.YteojpnkfnflmbaaGreatSeqR
import Derived.Test.YteojpnkfnflmbaaGreatFewK
namespace Go.Proofs.YteojpnkfnflmbaaGreat
open Go.RowKit Go.Maps
set_option maxRecDepth 100000
set_option linter.unusedVariables false
set_option maxHeartbeats 6400000 in
theorem seqnGives_any {w : World} {A A' : Option Addr} {n cap n' cap' : Nat} {ps : List KV} {l : List Int} (hp : RPairs w w.heap.size A n ps) (hcap : n ≤ cap) (hn : n ≤ maxLen) (hr : RI w w.heap.size A' n' l) (hcap' : n' ≤ cap') (hn' : n' ≤ maxLen) :
    Calls Tryz.prog 3 #[.slice A n cap, .slice A' n' cap'] w fun e w' => e = .returned (.bool true) ∧ Below w.heap.size w w' := by
  have HF := Lib.hid (few_any 20 (by omega) cap hp hn (Nat.le_refl _))
  have few0 : Hid (fewN 20 ps = false → Calls Tryz.prog 3 #[.slice A n cap, .slice A' n' cap'] w fun e w' => e = .returned (.bool true) ∧ Below w.heap.size w w') := Lib.hid fun hb => by
    rw [hb] at HF
    clear hp hr
    go_enter Tryz.func3, Tryz.ntmps3
    go_wp2_with fail
    refine HF.out.mono ?_
    rintro e w1 ⟨rfl, hb1⟩
    have HB := Lib.hid hb1
    clear hb1
    go_wp2_with fail
    refine (seqAwake_any _).mono ?_
    rintro e w7 ⟨rfl, hb7⟩
    have HE := Lib.hid (HB.out.trans (hb7.mono HB.out.size))
    clear hb7 HB
    go_wp2
    go_ret
    exact ⟨rfl, HE.out⟩
  cases hb : fewN 20 ps with
  | false => exact few0.out hb
  | true =>
  clear few0
  rw [hb] at HF
  by_cases big : 40 < n'
  · have k1 : decide ((n' : Int) > 40) = true := decide_eq_true (by omega)
    clear hp hr
    go_enter Tryz.func3, Tryz.ntmps3
    go_wp2_with fail
    refine HF.out.mono ?_
    rintro e w1 ⟨rfl, hb1⟩
    have HB := Lib.hid hb1
    clear hb1
    go_wp2_with fail
    refine (seqAwake_any _).mono ?_
    rintro e w7 ⟨rfl, hb7⟩
    have HE := Lib.hid (HB.out.trans (hb7.mono HB.out.size))
    clear hb7 HB
    go_wp2
    go_ret
    exact ⟨rfl, HE.out⟩
  have k1 : decide ((n' : Int) > 40) = false := decide_eq_false (by omega)
  go_enter Tryz.func3, Tryz.ntmps3
  go_wp2_with fail
  refine HF.out.mono ?_
  rintro e w1 ⟨rfl, hb1⟩
  have HN := Lib.hid (vNew_any w1 (fun _ => False) (fun k h => h.elim))
  go_wp2_with fail
  refine HN.out.mono ?_
  rintro e w2 ⟨v, m, c, rfl, h2, hb2, hv, hm, hc⟩
  have HV := Lib.hid (And.intro h2 (And.intro hv (And.intro hm hc)))
  have HB2 := Lib.hid (And.intro hb1 (hb1.trans (hb2.mono hb1.size)))
  clear h2 hb1 hb2 hv hm hc HF HN
  go_wp2_with fail
  refine (refNew_nil w2).mono ?_
  rintro e w3 ⟨rfl, hx, b3⟩
  have HP : Hid (SeqInv w3 w.heap.size 0 v m c (w2.heap.size + 3) w3) := Lib.hid (seq_start HV.out.1 hx b3 (Nat.le_trans HB2.out.1.size HV.out.2.1) (Nat.le_trans HB2.out.1.size HV.out.2.2.1) (Nat.le_trans HB2.out.1.size HV.out.2.2.2) HB2.out.2.size)
  have HB3 := Lib.hid (HB2.out.2.trans (b3.mono HB2.out.2.size))
  generalize w2.heap.size + 3 = x at HP ⊢
  clear hx b3 HV HB2
  have HPS := Lib.hid (And.intro hp (fewN_is hb))
  have HRL := Lib.hid hr
  clear hp hr hb
  unfold maxLen at hn hn'
  go_wp2_with fail
  go_loopw [28] (fun i wr => ∃ k : Nat, k ≤ n ∧ i = .int .i64 k ∧ Hid (SeqInv w3 w.heap.size k v m c x wr ∧ w.heap.size ≤ wr.heap.size)) (fun i _ => n - (intOf i).toNat)
  case atStart => exact ⟨0, Nat.zero_le _, rfl, Lib.hid ⟨HP.out, HB3.out.size⟩⟩
  case round =>
    obtain ⟨k, hk, rfl, ho⟩ := hrel
    by_cases hlt : k < n
    · have hlt' : (k : Int) < (n : Int) := by omega
      obtain ⟨bb, off, rfl, hbb, hat⟩ := HPS.out.1.2 (by omega)
      obtain ⟨y, hy⟩ : ∃ y, ps[k]? = some y := ⟨_, List.getElem?_eq_getElem (by rw [HPS.out.1.len]; exact hlt)⟩
      have hbw : RowKit.Below w.heap.size w wr := HB3.out.trans ho.out.1.was
      obtain ⟨ka, kn, kc, va, vn, vc, h0, h1, h2, ⟨h3a, h3b⟩, h4, ⟨h5a, h5b⟩⟩ := (hat k y hy).keep hbb (fun b o hbb => hbw.cell (p := ⟨b, o, none⟩) hbb)
      obtain ⟨l1, l2⟩ := HPS.out.2.2 y (List.mem_of_getElem? hy)
      rw [h2.len] at l1
      rw [h4.len] at l2
      have hk20 : k ≤ 20 := by have := HPS.out.2.1; rw [HPS.out.1.len] at this; omega
      have HX := Lib.hid (ho.out.1.put (by omega) ho.out.2 h2 l1 h3a h4 l2 h5a (o := .cells #[.slice ka kn kc, .slice va vn vc] 32))
      have HSZ := Lib.hid ho.out.2
      clear hat hy h2 h4 l1 l2 hk20 hbw ho
      go_wp2_with fail
      refine HX.out.mono ?_
      rintro e w4 ⟨rfl, hg, hset⟩
      have q0 : w4.cell? ⟨wr.heap.size, 0, none⟩ = some (.slice ka kn kc) := cell_of_row _ _ 0 _ _ (0, 0) hg
      have q1 : w4.cell? ⟨wr.heap.size, 1, none⟩ = some (.slice va vn vc) := cell_of_row _ _ 1 _ _ (0, 0) hg
      have HY := Lib.hid hset
      clear hset hg h0 h1 HX
      go_wp2_with fail
      refine HY.out.mono ?_
      rintro e w5 ⟨rfl, hinv, hsz⟩
      have HE := Lib.hid (And.intro hinv (Nat.le_trans HSZ.out hsz))
      clear hinv hsz HY q0 q1
      go_wp2_with fail
      go_roundw
      case rel => exact ⟨k + 1, by omega, by go_num, HE⟩
      case measure => simp [intOf]; omega
    · obtain rfl : k = n := by omega
      have hk20 : k ≤ 20 := by have := HPS.out.2.1; rw [HPS.out.1.len] at this; exact this
      clear HP HPS
      go_wp2_with fail
      go_loopw [44] (fun i wq => ∃ k2 : Nat, k2 ≤ n' ∧ i = .int .i64 k2 ∧ Hid (SeqInv w3 w.heap.size (k + k2) v m c x wq ∧ w.heap.size ≤ wq.heap.size)) (fun i _ => n' - (intOf i).toNat)
      case atStart => exact ⟨0, Nat.zero_le _, rfl, ho⟩
      case round =>
        clear ho
        obtain ⟨k2, hk2, rfl, ho⟩ := hrel
        by_cases hlt : k2 < n'
        · have hlt' : (k2 : Int) < (n' : Int) := by omega
          have hbw : RowKit.Below w.heap.size w wr := HB3.out.trans ho.out.1.was
          obtain ⟨bb, off, rfl, hbb, hcell⟩ := HRL.out.2.2 (by omega)
          have hck := (hbw.cell (p := ⟨bb, off + k2, none⟩) hbb).trans (hcell k2 hlt)
          obtain ⟨hx0, hx1⟩ := HRL.out.int k2
          generalize l[k2]?.getD 0 = z at hck hx0 hx1
          obtain ⟨ka, ke, hnx⟩ := ho.out.1.next (by omega) ho.out.2 z ⟨hx0, hx1⟩
          have HX := Lib.hid hnx
          have HSZ := Lib.hid ho.out.2
          clear hcell hbw hnx ho
          go_wp2_with fail
          refine HX.out.mono ?_
          rintro e w4 ⟨rfl, hnx⟩
          have HY := Lib.hid hnx
          clear hnx HX hck
          go_wp2_with fail
          refine HY.out.mono ?_
          rintro e w5 ⟨rfl, hsz, hinv⟩
          obtain ⟨kl, hl1, hl2⟩ := hinv.last (by omega) (Nat.le_trans HSZ.out hsz) z ⟨hx0, hx1⟩
          have HL1 := Lib.hid hl1
          have HL2 := Lib.hid hl2
          have HI := Lib.hid (And.intro hinv (Nat.le_trans HSZ.out hsz))
          clear hinv hsz hl1 hl2 HY
          go_wp2_with fail
          refine (HL1.out _ (RowKit.Below.refl _ _)).mono ?_
          rintro e w6 ⟨rfl, hb6⟩
          have H6 := Lib.hid hb6
          clear hb6 HL1
          go_wp2_with fail
          refine (HL2.out _ H6.out).mono ?_
          rintro e w7 ⟨rfl, hb7⟩
          have h57 := H6.out.trans (hb7.mono H6.out.size)
          have HE := Lib.hid (And.intro (HI.out.1.below HI.out.2 h57) (Nat.le_trans HI.out.2 h57.size))
          clear hb7 h57 H6 HL2 HI
          go_wp2_with fail
          go_roundw
          case rel => exact ⟨k2 + 1, by omega, by go_num, HE⟩
          case measure => simp [intOf]; omega
        · obtain rfl : k2 = n' := by omega
          have HS := Lib.hid (ho.out.1.same (by omega) ho.out.2)
          have HW := Lib.hid ho.out.1.was
          clear ho
          go_wp2_with fail
          refine HS.out.mono ?_
          rintro e w6 ⟨rfl, hb6⟩
          have H6 := Lib.hid (HB3.out.trans hb6)
          clear hb6 HS
          go_wp2_with fail
          refine (seqAwake_any _).mono ?_
          rintro e w7 ⟨rfl, hb7⟩
          have HE := Lib.hid (H6.out.trans (hb7.mono H6.out.size))
          clear hb7 H6
          go_wp2
          go_ret
          exact ⟨rfl, HE.out⟩
end Go.Proofs.YteojpnkfnflmbaaGreat
