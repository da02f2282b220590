/-
  The document's plain table's Scan, and Right, by contract. Conditions: fewer than 2^32 pairs, texts and values of at most 2^47 bytes.
-/
import Derived.Test.YteogpohhnnjbmaaGreatTabB
namespace Go.Proofs.YteogpohhnnjbmaaGreat
open Go.RowKit Go.Maps
set_option maxRecDepth 100000
set_option linter.unusedVariables false

theorem pre_take (p x : Txt) : p.isPrefixOf x = (decide (p.length ≤ x.length) && (x.take p.length == p)) := by
  rw [Bool.eq_iff_iff, List.isPrefixOf_iff_prefix, List.prefix_iff_eq_take, Bool.and_eq_true, decide_eq_true_eq, beq_iff_eq]
  constructor
  · intro h
    have hl := congrArg List.length h
    rw [List.length_take] at hl
    exact ⟨by omega, h.symm⟩
  · rintro ⟨_, h⟩
    exact h.symm
theorem RB.front {w : World} {B n m : Nat} {A : Option Addr} {l : List Int} (h : RB w B A n l) (hm : m ≤ n) : RB w B A m (l.take m) := by
  refine ⟨by rw [List.length_take, h.len]; omega, h.bytes.take m, fun hn => ?_⟩
  obtain ⟨b, off, e, hb, hc⟩ := h.at_ (by omega)
  exact ⟨b, off, e, hb, fun j hj => by rw [hc j (by omega), List.getElem?_take, if_pos hj]⟩
theorem scan_take {L : TL} {j : Nat} {x : Txt × List Int} {p : Txt} (hx : L[j]? = some x) : (L.take (j + 1)).filter (fun q => p.isPrefixOf q.1) = if p.isPrefixOf x.1 then (L.take j).filter (fun q => p.isPrefixOf q.1) ++ [x] else (L.take j).filter (fun q => p.isPrefixOf q.1) := by
  obtain ⟨hi, rfl⟩ := List.getElem?_eq_some_iff.1 hx
  rw [List.take_succ_eq_append_getElem hi, List.filter_append]
  by_cases e : p.isPrefixOf L[j].1 = true <;> simp [e]

section
variable {w w' : World} {X X' Y : Nat → Prop} {t base : Nat} {L : TL}
set_option maxHeartbeats 6400000 in
theorem tabScan_any (h : TabAt w X t L) (hX : ∀ k, X k → k < w.heap.size) (hN : L.length ≤ 4294967295) {A : Option Addr} {n k B : Nat} {l : List Int} (hr : RB w B A n l) (hB : B ≤ w.heap.size) (hnm : n ≤ maxLen) (hnk : n ≤ k) :
    Calls Tryz.prog 44 #[.pointer (some ⟨t, 0, none⟩), .slice A n k] w fun e w' => ∃ A' n' k', e = .returned (.slice A' n' k') ∧ SPs w' X A' n' k' (L.filter fun q => (tx l).isPrefixOf q.1) ∧ RowKit.Below w.heap.size w w' := by
  unfold maxLen at hnm
  have HT := Lib.hid h
  have HR := Lib.hid hr
  have HXl := Lib.hid hX
  have hlen := hr.len
  obtain ⟨TA, N, TC, ht, _, hs⟩ := h
  have hc0 : w.cell? ⟨t, 0, none⟩ = some (.slice TA N TC) := by rw [cell_of_row w t 0 _ _ (0, 0) ht]; rfl
  have hNL : L.length = N := hs.2.1
  have HS := Lib.hid hs
  rw [hNL] at hN
  have htl := HT.out.lt
  have HC := Lib.hid (And.intro hc0 (And.intro htl (And.intro hNL hlen)))
  have H0 := Lib.hid (show TabRow w w X (.slice none 0 0) ((L.take 0).filter fun q => (tx l).isPrefixOf q.1) from TabRow.start hX)
  clear hr ht hs hc0 htl hNL hX hlen
  go_enter Tryz.func44, Tryz.ntmps44
  go_wp2_with fail
  go_loopw [5, 6] (fun u i wr => ∃ j : Nat, j ≤ N ∧ i = .int .i64 j ∧ Hid (TabRow w wr X u ((L.take j).filter fun q => (tx l).isPrefixOf q.1))) (fun _ i _ => N - (intOf i).toNat)
  case atStart => exact ⟨0, Nat.zero_le _, rfl, H0⟩
  case round =>
    obtain ⟨j, hj, rfl, HM⟩ := hrel
    have hb : RowKit.Below w.heap.size w wr := by obtain ⟨Y, _, _, _, _, hb⟩ := HM.out; exact hb
    have c0 := (hb.cell (p := ⟨t, 0, none⟩) HC.out.2.1).trans HC.out.1
    obtain ⟨UA, UC, rfl⟩ := HM.out.shape
    by_cases hlt : j < N
    · obtain ⟨x, hx⟩ : ∃ x, L[j]? = some x := ⟨_, List.getElem?_eq_getElem (by rw [HC.out.2.2.1]; exact hlt)⟩
      obtain ⟨_, _, hp⟩ := HS.out
      obtain ⟨b, off, rfl, hbl, _, hp⟩ := hp (by omega)
      obtain ⟨u1, u2, c1, c2, s1, s2⟩ := hp j x hx
      have c1' := (hb.cell (p := ⟨b, off + j * 2, none⟩) hbl).trans c1
      have c2' := (hb.cell (p := ⟨b, off + j * 2 + 1, none⟩) hbl).trans c2
      have hdn : ((L.take j).filter fun q => (tx l).isPrefixOf q.1).length ≤ 4294967296 := by
        have := List.length_filter_le (fun q : Txt × List Int => (tx l).isPrefixOf q.1) (L.take j)
        rw [List.length_take] at this
        omega
      have HPU := Lib.hid (fun q => (HM.out.below (below_drewN (RowKit.Below.refl _ wr) q)).push s1 s2 hdn 39)
      obtain ⟨A1, n1, k1, rfl, hk1, hk2, z1, _⟩ := s1
      obtain ⟨A2, n2, k2, rfl, _⟩ := s2
      have hxn : x.1.length = n1 := by have := z1.len; rw [by_length] at this; exact this
      have htn : (tx l).length = n := by rw [tx_length]; exact HC.out.2.2.2
      have hpt := pre_take (tx l) x.1
      rw [htn, hxn] at hpt
      have hst := scan_take (p := tx l) hx
      have v2 : ∀ q, (convert 45 9 (.slice A n k)).run Tryz.prog (wr.drewN q) = .ok (encStr (tx l)) (wr.drewN q) := fun q => (HR.out.below ((below_drewN hb q).mono hB)).conv k
      have hj64 : (j : Int) < (N : Int) := by omega
      by_cases hge : n ≤ n1
      · have v1 : ∀ q, (convert 45 9 (.slice A1 n k1)).run Tryz.prog (wr.drewN q) = .ok (encStr (x.1.take n)) (wr.drewN q) := fun q => by
          have : (convert 45 9 (.slice A1 n k1)).run Tryz.prog (wr.drewN q) = .ok (encStr (tx ((by_ x.1).take n))) (wr.drewN q) := ((z1.below (below_drewN hb q)).front hge).conv k1
          rwa [by_take, tx_by] at this
        have g1 : (n : Int) ≤ (n1 : Int) := by omega
        have g2 : (0 : Int) ≤ (n : Int) := by omega
        have g3 : (n : Int) ≤ (k1 : Int) := by omega
        rw [show decide (n ≤ n1) = true by simpa using hge, Bool.true_and] at hpt
        cases hq : (x.1.take n == tx l) with
        | true =>
          rw [hpt, hq, if_pos rfl] at hst
          have HST := Lib.hid hst
          clear hx z1 hb hp hst c1 c2 hpt hxn htn hge
          go_wp2_with fail
          go_quiet (fail)
          obtain ⟨v', w6, hrun, hR6⟩ := HPU.out nq
          have HRUN := Lib.hid hrun
          rw [← HST.out] at hR6
          have HN := Lib.hid hR6
          clear hrun hR6
          go_wp2_with (at_builtin; refine Lib.wpList_append_run _ rfl _ _ _ _ rfl _ _ rfl rfl _ _ HRUN.out ?_)
          go_roundw
          case rel => exact ⟨j + 1, by omega, by go_num, HN⟩
          case measure => simp [intOf]; omega
        | false =>
          rw [hpt, hq, if_neg (by decide)] at hst
          have HN := Lib.hid (show ∀ q, TabRow w (wr.drewN q) X (.slice UA ((L.take j).filter fun q => (tx l).isPrefixOf q.1).length UC) ((L.take (j + 1)).filter fun q => (tx l).isPrefixOf q.1) from fun q => by
            rw [hst]
            exact HM.out.below (below_drewN (RowKit.Below.refl _ wr) q))
          clear hx z1 hb hp hst c1 c2 hpt hxn htn hge
          go_wp2_with fail
          go_quiet (fail)
          go_wp2
          go_roundw
          case rel => exact ⟨j + 1, by omega, by go_num, Lib.hid (HN.out _)⟩
          case measure => simp [intOf]; omega
      · rw [show decide (n ≤ n1) = false by simpa using hge, Bool.false_and] at hpt
        rw [hpt, if_neg (by decide)] at hst
        have g1 : decide (n ≤ n1) = false := by simp; omega
        have HN := Lib.hid (show ∀ q, TabRow w (wr.drewN q) X (.slice UA ((L.take j).filter fun q => (tx l).isPrefixOf q.1).length UC) ((L.take (j + 1)).filter fun q => (tx l).isPrefixOf q.1) from fun q => by
          rw [hst]
          exact HM.out.below (below_drewN (RowKit.Below.refl _ wr) q))
        clear hx z1 hb hp hst c1 c2 hpt hxn htn hge
        go_wp2_with fail
        go_quiet (fail)
        go_wp2
        go_roundw
        case rel => exact ⟨j + 1, by omega, by go_num, Lib.hid (HN.out _)⟩
        case measure => simp [intOf]; omega
    · obtain rfl : j = N := by omega
      have hall : L.take j = L := by rw [← HC.out.2.2.1, List.take_length]
      have HALL := Lib.hid hall
      rw [hall] at HM
      have HFIN := Lib.hid (And.intro (HM.out.sps HXl.out) hb)
      clear hb hall
      go_wp2
      go_ret
      refine ⟨UA, _, UC, rfl, ?_⟩
      rw [HALL.out]
      exact HFIN.out
/-- Right. -/
theorem right12_any (w : World) {A A' : Option Addr} {n k n' k' : Nat} (hn : n ≤ maxLen) (hn' : n' ≤ maxLen) :
    Calls Tryz.prog 29 #[.slice A n k, .slice A' n' k'] w fun e w' => e = .returned (.bool (decide (1 ≤ n) && decide (n ≤ 32) && decide (n' ≤ 120))) ∧ w = w' := by
  unfold maxLen at hn hn'
  by_cases h1 : 1 ≤ n
  · by_cases h2 : n ≤ 32
    · have t1 : decide (1 ≤ (n : Int)) = true := by simp; omega
      have t2 : decide ((n : Int) ≤ 32) = true := by simp; omega
      have e : (decide (1 ≤ n) && decide (n ≤ 32) && decide (n' ≤ 120)) = decide ((n' : Int) ≤ 120) := by
        have : decide ((n' : Int) ≤ 120) = decide (n' ≤ 120) := by congr 1; exact propext (by omega)
        rw [this]; simp [h1, h2]
      rw [e]
      clear e h1 h2
      go_enter Tryz.func29, Tryz.ntmps29
      go_wp2
      go_ret
      exact ⟨rfl, rfl⟩
    · have t1 : decide (1 ≤ (n : Int)) = true := by simp; omega
      have t2 : decide ((n : Int) ≤ 32) = false := by simp; omega
      have e : (decide (1 ≤ n) && decide (n ≤ 32) && decide (n' ≤ 120)) = false := by simp [h2]
      rw [e]
      clear e h1 h2
      go_enter Tryz.func29, Tryz.ntmps29
      go_wp2
      go_ret
      exact ⟨rfl, rfl⟩
  · have t1 : decide (1 ≤ (n : Int)) = false := by simp; omega
    have e : (decide (1 ≤ n) && decide (n ≤ 32) && decide (n' ≤ 120)) = false := by simp [h1]
    rw [e]
    clear e h1
    go_enter Tryz.func29, Tryz.ntmps29
    go_wp2
    go_ret
    exact ⟨rfl, rfl⟩
end

end Go.Proofs.YteogpohhnnjbmaaGreat
