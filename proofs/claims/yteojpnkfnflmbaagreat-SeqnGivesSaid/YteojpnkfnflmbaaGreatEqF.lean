/-
  The library's EqualFunc over pairs, and over texts, and the laws' Pairs and Bytes, by contract: whether two lists are the same. Condition: lengths are ints.
-/
import Derived.Test.YteojpnkfnflmbaaGreatTabD
namespace Go.Proofs.YteojpnkfnflmbaaGreat
open Go.RowKit Go.Maps
set_option maxRecDepth 100000
set_option linter.unusedVariables false

section
variable {w w' : World}
set_option maxHeartbeats 1600000 in
theorem eqPair_any {B B' : Nat} {A1 A2 B1 B2 : Option Addr} {n1 k1 n2 k2 m1 l1 m2 l2 : Nat} {x1 x2 y1 y2 : List Int} (hx1 : RB w B A1 n1 x1) (hx2 : RB w B A2 n2 x2) (hy1 : RB w B' B1 m1 y1) (hy2 : RB w B' B2 m2 y2) (hB : B ≤ w.heap.size) (hB' : B' ≤ w.heap.size) :
    Calls Tryz.prog 40 #[.agg #[.slice A1 n1 k1, .slice A2 n2 k2], .agg #[.slice B1 m1 l1, .slice B2 m2 l2]] w fun e w' => e = .returned (.bool (decide ((x1, x2) = (y1, y2)))) ∧ RowKit.Below w.heap.size w w' := by
  have hb1 : RowKit.Below w.heap.size w (w.alloc (.cells #[.slice A1 n1 k1, .slice A2 n2 k2] 32 (0, 0))) := (RowKit.Below.refl _ _).alloc (Nat.le_refl _) _
  have hb2 : RowKit.Below w.heap.size w ((w.alloc (.cells #[.slice A1 n1 k1, .slice A2 n2 k2] 32 (0, 0))).alloc (.cells #[.slice B1 m1 l1, .slice B2 m2 l2] 32 (0, 0))) := hb1.alloc hb1.size _
  have HE1 := Lib.hid (Equal_any k1 l1 (hx1.below (hb2.mono hB)) (hy1.below (hb2.mono hB')))
  have HE2 := Lib.hid (Equal_any k2 l2 (hx2.below (hb2.mono hB)) (hy2.below (hb2.mono hB')))
  have HB := Lib.hid hb2
  have hd : decide ((x1, x2) = (y1, y2)) = (decide (x1 = y1) && decide (x2 = y2)) := by rw [Bool.eq_iff_iff]; simp
  rw [hd]
  clear hd hx1 hx2 hy1 hy2 hb1 hb2
  cases hq : decide (x1 = y1) with
  | true =>
    rw [hq] at HE1
    generalize decide (x2 = y2) = r at HE2 ⊢
    rw [Bool.true_and]
    clear hq
    go_enter Tryz.func40, Tryz.ntmps40
    go_wp2_with fail
    refine HE1.out.mono ?_
    rintro e w' ⟨rfl, rfl⟩
    go_wp2_with fail
    refine HE2.out.mono ?_
    rintro e w' ⟨rfl, rfl⟩
    go_wp2
    go_ret
    exact ⟨rfl, HB.out⟩
  | false =>
    rw [hq] at HE1
    rw [Bool.false_and]
    clear hq
    go_enter Tryz.func40, Tryz.ntmps40
    go_wp2_with fail
    refine HE1.out.mono ?_
    rintro e w' ⟨rfl, rfl⟩
    go_wp2
    go_ret
    exact ⟨rfl, HB.out⟩
theorem list_eq_upto {α : Type} {l m : List α} (hl : l.length = m.length) (h : ∀ (a : Nat) (x y : α), l[a]? = some x → m[a]? = some y → x = y) : l = m := by
  apply List.ext_getElem hl
  intro a h1 h2
  exact h a _ _ (List.getElem?_eq_getElem h1) (List.getElem?_eq_getElem h2)

set_option maxHeartbeats 3200000 in
theorem eqPairs_any {B B' : Nat} {A A' : Option Addr} {n k n' k' : Nat} {ps qs : List KV} (hp : RPairs w B A n ps) (hq : RPairs w B' A' n' qs) (hB : B ≤ w.heap.size) (hB' : B' ≤ w.heap.size) (hn : n ≤ maxLen) (hn' : n' ≤ maxLen) :
    Calls Tryz.prog 39 #[.slice A n k, .slice A' n' k', .func (.func 40) #[] #[]] w fun e w' => e = .returned (.bool (decide (ps = qs))) ∧ RowKit.Below w.heap.size w w' := by
  unfold maxLen at hn hn'
  by_cases hne : n = n'
  · subst hne
    have HP := Lib.hid hp
    have HQ := Lib.hid hq
    clear hp hq
    go_enter Tryz.func39, Tryz.ntmps39
    go_wp2_with fail
    go_loopw [17] (fun i wr => ∃ j : Nat, j ≤ n ∧ i = .int .i64 j ∧ Hid ((∀ (a : Nat) (x y : KV), a < j → ps[a]? = some x → qs[a]? = some y → x = y) ∧ RowKit.Below w.heap.size w wr)) (fun i _ => n - (intOf i).toNat)
    case atStart => exact ⟨0, Nat.zero_le _, rfl, Lib.hid ⟨fun a x y h => absurd h (Nat.not_lt_zero _), RowKit.Below.refl _ _⟩⟩
    case round =>
      obtain ⟨j, hj, rfl, HM⟩ := hrel
      obtain ⟨hall, hb⟩ := HM.out
      by_cases hlt : j < n
      · obtain ⟨b, off, rfl, hbB, hat⟩ := (HP.out.below (hb.mono hB)).2 (by omega)
        obtain ⟨b', off', rfl, hbB', hat'⟩ := (HQ.out.below (hb.mono hB')).2 (by omega)
        obtain ⟨x, hx⟩ : ∃ x, ps[j]? = some x := ⟨_, List.getElem?_eq_getElem (by rw [HP.out.len]; exact hlt)⟩
        obtain ⟨y, hy⟩ : ∃ y, qs[j]? = some y := ⟨_, List.getElem?_eq_getElem (by rw [HQ.out.len]; exact hlt)⟩
        obtain ⟨ka, kn, kc, va, vn, vc, c0, c1, r1, _, r2, _⟩ := hat j x hx
        obtain ⟨la, ln, lc, ua, un, uc, d0, d1, s1, _, s2, _⟩ := hat' j y hy
        obtain ⟨w2, hw2⟩ : ∃ w2, w2 = (wr.alloc (.cells #[.slice ka kn kc, .slice va vn vc] 32 (0, 0))).alloc (.cells #[.slice la ln lc, .slice ua un uc] 32 (0, 0)) := ⟨_, rfl⟩
        have hb1 : RowKit.Below wr.heap.size wr (wr.alloc (.cells #[.slice ka kn kc, .slice va vn vc] 32 (0, 0))) := (RowKit.Below.refl _ _).alloc (Nat.le_refl _) _
        have hb2 : RowKit.Below wr.heap.size wr w2 := by rw [hw2]; exact hb1.alloc hb1.size _
        have hBr : B ≤ wr.heap.size := Nat.le_trans hB hb.size
        have hBr' : B' ≤ wr.heap.size := Nat.le_trans hB' hb.size
        have HC := Lib.hid (eqPair_any (k1 := kc) (k2 := vc) (l1 := lc) (l2 := uc) (r1.below (hb2.mono hBr)) (r2.below (hb2.mono hBr)) (s1.below (hb2.mono hBr')) (s2.below (hb2.mono hBr')) (Nat.le_trans hBr hb2.size) (Nat.le_trans hBr' hb2.size))
        have HX := Lib.hid (And.intro hx (And.intro hy (And.intro hall (hb.trans (hb2.mono hb.size)))))
        have hj64 : (j : Int) < (n : Int) := by omega
        have d0' : (wr.alloc (.cells #[.slice ka kn kc, .slice va vn vc] 32 (0, 0))).cell? ⟨b', off' + j * 2, none⟩ = some (.slice la ln lc) := (hb1.cell (p := ⟨b', off' + j * 2, none⟩) (Nat.lt_of_lt_of_le hbB' hBr')).trans d0
        have d1' : (wr.alloc (.cells #[.slice ka kn kc, .slice va vn vc] 32 (0, 0))).cell? ⟨b', off' + j * 2 + 1, none⟩ = some (.slice ua un uc) := (hb1.cell (p := ⟨b', off' + j * 2 + 1, none⟩) (Nat.lt_of_lt_of_le hbB' hBr')).trans d1
        by_cases he : x = y
        · have hd : decide ((x.1, x.2) = (y.1, y.2)) = true := decide_eq_true (show x = y from he)
          rw [hd] at HC
          have HE := Lib.hid he
          clear hx hy hall hb hb1 hb2 hat hat' r1 r2 s1 s2 he hd
          go_wp2_with fail
          rw [← hw2]
          clear hw2
          refine HC.out.mono ?_
          rintro e w3 ⟨rfl, hb3⟩
          have HN := Lib.hid (show (∀ (a : Nat) (x y : KV), a < j + 1 → ps[a]? = some x → qs[a]? = some y → x = y) ∧ RowKit.Below w.heap.size w w3 from by
            obtain ⟨x1, x2, x3, x4⟩ := HX.out
            refine ⟨fun a x' y' ha hx' hy' => ?_, x4.trans (hb3.mono x4.size)⟩
            by_cases e : a = j
            · rw [e, x1] at hx'; rw [e, x2] at hy'; cases hx'; cases hy'; exact HE.out
            · exact x3 a x' y' (by omega) hx' hy')
          clear hb3
          go_wp2
          go_roundw
          case rel => exact ⟨j + 1, by omega, by go_num, HN⟩
          case measure => simp [intOf]; omega
        · have hd : decide ((x.1, x.2) = (y.1, y.2)) = false := decide_eq_false (fun e => he (show x = y from e))
          rw [hd] at HC
          have hne : ps ≠ qs := fun e => he (by rw [e, hy] at hx; exact (Option.some.inj hx).symm)
          have HD := Lib.hid (show decide (ps = qs) = false by simpa using hne)
          clear hx hy hall hb hb1 hb2 hat hat' r1 r2 s1 s2 he hd hne
          go_wp2_with fail
          rw [← hw2]
          clear hw2
          refine HC.out.mono ?_
          rintro e w3 ⟨rfl, hb3⟩
          have HB3 := Lib.hid hb3
          clear hb3
          go_wp2
          go_ret
          rw [HD.out]
          obtain ⟨_, _, _, x4⟩ := HX.out
          exact ⟨rfl, x4.trans (HB3.out.mono x4.size)⟩
      · obtain rfl : j = n := by omega
        have he : ps = qs := list_eq_upto (by rw [HP.out.len, HQ.out.len]) (fun a x y hx hy => hall a x y (by have := (List.getElem?_eq_some_iff.1 hx).1; have := HP.out.len; omega) hx hy)
        have HD := Lib.hid (show decide (ps = qs) = true by simpa using he)
        have HB := Lib.hid hb
        clear hall hb he
        go_wp2
        go_ret
        rw [HD.out]
        exact ⟨rfl, HB.out⟩
  · have hd : decide (ps = qs) = false := by
      have : ps ≠ qs := fun e => hne (by rw [← hp.len, ← hq.len, e])
      simpa using this
    rw [hd]
    have t1 : (n == n') = false := by simpa using hne
    clear hp hq hd
    go_enter Tryz.func39, Tryz.ntmps39
    go_wp2
    · go_ret
      exact ⟨rfl, RowKit.Below.refl _ _⟩
theorem plPairs_any {B B' : Nat} {A A' : Option Addr} {n k n' k' : Nat} {ps qs : List KV} (hp : RPairs w B A n ps) (hq : RPairs w B' A' n' qs) (hB : B ≤ w.heap.size) (hB' : B' ≤ w.heap.size) (hn : n ≤ maxLen) (hn' : n' ≤ maxLen) :
    Calls Tryz.prog 26 #[.slice A n k, .slice A' n' k'] w fun e w' => e = .returned (.bool (decide (ps = qs))) ∧ RowKit.Below w.heap.size w w' := by
  have HE := Lib.hid (eqPairs_any (k := k) (k' := k') hp hq hB hB' hn hn')
  generalize decide (ps = qs) = r at HE ⊢
  clear hp hq
  go_enter Tryz.func26, Tryz.ntmps26
  go_wp2_with fail
  refine HE.out.mono ?_
  rintro e w' ⟨rfl, hb⟩
  have HB := Lib.hid hb
  clear hb
  go_wp2
  go_ret
  exact ⟨rfl, HB.out⟩
end

end Go.Proofs.YteojpnkfnflmbaaGreat
