/-
  The document's plain view as it lies in memory: three tables behind pointers; its Get, Put, Delete, Scan by contract. Conditions: fewer than 2^31 keys, texts and values of at most 2^47 bytes.
-/
import Derived.Test.YteogpohhnnjbmaaGreatTabF
namespace Go.Proofs.YteogpohhnnjbmaaGreat
open Go.RowKit Go.Maps
set_option maxRecDepth 100000
set_option linter.unusedVariables false

/-- The plain view at block x: its tables lie at p, q, r. -/
structure RefAt (w : World) (X : Nat → Prop) (x p q r : Nat) (a b d : TL) : Prop where
  me : w.heap[x]? = some (.cells #[.pointer (some ⟨p, 0, none⟩), .pointer (some ⟨q, 0, none⟩), .pointer (some ⟨r, 0, none⟩)] 44 (0, 0))
  own : X x
  was : TabAt w X p a
  now : TabAt w X q b
  told : TabAt w X r d
  apart : x ≠ p ∧ x ≠ q ∧ x ≠ r ∧ p ≠ q ∧ p ≠ r ∧ q ≠ r
  old : ∀ k, X k → k < w.heap.size
section
variable {w w' : World} {X : Nat → Prop} {x p q r : Nat} {a b d : TL}
theorem TabAt.own {t : Nat} {L : TL} (h : TabAt w X t L) : X t := by
  obtain ⟨_, _, _, _, h, _⟩ := h
  exact h
theorem TabAt.touch {t s : Nat} {L : TL} (h : TabAt w X t L) (ht : Touch (fun k => k = s) w w') (hs : X s) (hne : t ≠ s) : TabAt w' X t L :=
  h.keep ht.size (fun _ _ h => h) (fun _ h => h) (fun k hk hx => ht.block k hk fun e => hx (by rw [e]; exact hs)) (ht.block t h.lt hne)
theorem RefAt.lt (h : RefAt w X x p q r a b d) : x < w.heap.size := (Array.getElem?_eq_some_iff.1 h.me).1
theorem RefAt.below (h : RefAt w X x p q r a b d) (hb : RowKit.Below w.heap.size w w') : RefAt w' X x p q r a b d :=
  ⟨(hb.block x h.lt).trans h.me, h.own, h.was.below hb, h.now.below hb, h.told.below hb, h.apart, fun k hk => Nat.lt_of_lt_of_le (h.old k hk) hb.size⟩
theorem RefAt.turnR {d' : TL} (h : RefAt w X x p q r a b d) (ht : Touch (fun k => k = r) w w') (hr : TabAt w' X r d') : RefAt w' X x p q r a b d' :=
  ⟨(ht.block x h.lt h.apart.2.2.1).trans h.me, h.own, h.was.touch ht h.told.own h.apart.2.2.2.2.1, h.now.touch ht h.told.own h.apart.2.2.2.2.2, hr, h.apart, fun k hk => Nat.lt_of_lt_of_le (h.old k hk) ht.size⟩
theorem RefAt.turnQ {b' : TL} (h : RefAt w X x p q r a b d) (ht : Touch (fun k => k = q) w w') (hr : TabAt w' X q b') : RefAt w' X x p q r a b' d :=
  ⟨(ht.block x h.lt h.apart.2.1).trans h.me, h.own, h.was.touch ht h.now.own h.apart.2.2.2.1, hr, h.told.touch ht h.now.own (Ne.symm h.apart.2.2.2.2.2), h.apart, fun k hk => Nat.lt_of_lt_of_le (h.old k hk) ht.size⟩
theorem RefAt.cells (h : RefAt w X x p q r a b d) : w.cell? ⟨x, 0, none⟩ = some (.pointer (some ⟨p, 0, none⟩)) ∧ w.cell? ⟨x, 1, none⟩ = some (.pointer (some ⟨q, 0, none⟩)) ∧ w.cell? ⟨x, 2, none⟩ = some (.pointer (some ⟨r, 0, none⟩)) :=
  ⟨by rw [cell_of_row w x 0 _ _ (0, 0) h.me]; rfl, by rw [cell_of_row w x 1 _ _ (0, 0) h.me]; rfl, by rw [cell_of_row w x 2 _ _ (0, 0) h.me]; rfl⟩
theorem touch_two {s t : Nat} {w1 : World} (h : Touch (fun k => k = s) w w1) (k : Touch (fun k => k = t) w1 w') (hs : X s) (ht : X t) : Touch X w w' :=
  ⟨k.os.trans h.os, k.tape.trans h.tape, k.output.trans h.output, Nat.le_trans h.size k.size, fun i hi hF => (k.block i (Nat.lt_of_lt_of_le hi h.size) fun e => hF (by rw [e]; exact ht)).trans (h.block i hi fun e => hF (by rw [e]; exact hs))⟩

theorem refGet_any (h : RefAt w X x p q r a b d) (hN : b.length ≤ 2147483647) {A : Option Addr} {n k B : Nat} {l : List Int} (hr : RB w B A n l) (hB : B ≤ w.heap.size) :
    Calls Tryz.prog 13 #[.pointer (some ⟨x, 0, none⟩), .slice A n k] w fun e w' => ∃ u, e = .returned (.tuple #[u, .bool (lookT b (tx l)).isSome]) ∧ SV w' (fun k => k < w.heap.size) u ((lookT b (tx l)).getD []) ∧ RowKit.Below w.heap.size w w' := by
  have HG := Lib.hid (tabGet_any (k := k) h.now (by omega) hr hB)
  obtain ⟨c0, c1, c2⟩ := h.cells
  clear h hr
  go_enter Tryz.func13, Tryz.ntmps13
  go_wp2_with fail
  refine HG.out.mono ?_
  rintro e w' ⟨u, rfl, hs, hb⟩
  go_wp2_with fail
  go_ret2
  exact ⟨u, rfl, hs, hb⟩

theorem refScan_any (h : RefAt w X x p q r a b d) (hN : b.length ≤ 2147483647) {A : Option Addr} {n k B : Nat} {l : List Int} (hr : RB w B A n l) (hB : B ≤ w.heap.size) (hnm : n ≤ maxLen) (hnk : n ≤ k) :
    Calls Tryz.prog 17 #[.pointer (some ⟨x, 0, none⟩), .slice A n k] w fun e w' => ∃ A' n' k', e = .returned (.slice A' n' k') ∧ SPs w' X A' n' k' (b.filter fun q => (tx l).isPrefixOf q.1) ∧ RowKit.Below w.heap.size w w' := by
  have HG := Lib.hid (tabScan_any (k := k) h.now h.old (by omega) hr hB hnm hnk)
  obtain ⟨c0, c1, c2⟩ := h.cells
  clear h hr
  go_enter Tryz.func17, Tryz.ntmps17
  go_wp2_with fail
  refine HG.out.mono ?_
  rintro e w' ⟨A', n', k', rfl, hs, hb⟩
  go_wp2_with fail
  go_ret
  exact ⟨_, _, _, rfl, hs, hb⟩

theorem SV.touch {u : Value} {l : List Int} {s : Nat} (hs : SV w X u l) (ht : Touch (fun k => k = s) w w') (hX : X s) : SV w' X u l := hs.keep ht.size (fun _ _ h => h) (fun k hk hx => ht.block k hk fun e => hx (by rw [e]; exact hX))
theorem SV.parts {A : Option Addr} {n k : Nat} {l : List Int} (hs : SV w X (.slice A n k) l) : RB w w.heap.size A n l ∧ n ≤ 140737488355328 ∧ n ≤ k := by
  obtain ⟨A, n, k, e, h1, h2, h3, _⟩ := hs
  cases e
  exact ⟨h3, h2, h1⟩
theorem putE_is {n n' : Nat} {l l' : List Int} (h : l.length = n) (h' : l'.length = n') : putE l l' = 0 ↔ (decide (1 ≤ n) && decide (n ≤ 32) && decide (n' ≤ 120)) = true := by
  unfold putE
  rw [h, h']
  simp only [Bool.and_eq_true, decide_eq_true_eq]
  split <;> omega
set_option maxHeartbeats 3200000 in
theorem refPut_any (h : RefAt w X x p q r a b d) (hN : b.length ≤ 2147483647) (hD : d.length ≤ 2147483647) {A A' : Option Addr} {n k n' k' : Nat} {l l' : List Int} (hr : SV w X (.slice A n k) l) (hr' : SV w X (.slice A' n' k') l') :
    Calls Tryz.prog 9 #[.pointer (some ⟨x, 0, none⟩), .slice A n k, .slice A' n' k'] w fun e w' => e = .returned (.int .i64 (putE l l')) ∧
      RefAt w' X x p q r a (if putE l l' = 0 then setT b (tx l) l' else b) (if putE l l' = 0 then setT d (tx l) [] else d) ∧ Touch (fun k => k = q ∨ k = r) w w' := by
  obtain ⟨r1, r2, _⟩ := hr.parts
  obtain ⟨s1, s2, _⟩ := hr'.parts
  have HR := Lib.hid (right12_any w (A := A) (A' := A') (k := k) (k' := k') (n := n) (n' := n') (by unfold maxLen; omega) (by unfold maxLen; omega))
  have HT := Lib.hid (tabPut_any (k := k) (k' := 0) h.told h.old hD r1 (Nat.le_refl _) r2 (RB.nil_ (w := w) (B := 0) (A := none)) (Nat.zero_le _) (Nat.zero_le _))
  have HQ := Lib.hid (show ∀ w1, TabAt w1 X r (setT d (tx l) []) → Touch (fun k => k = r) w w1 → RefAt w1 X x p q r a b (setT d (tx l) []) ∧ Calls Tryz.prog 30 #[.pointer (some ⟨q, 0, none⟩), .slice A n k, .slice A' n' k'] w1 (fun e w' => e = .returned (.tuple #[]) ∧ TabAt w' X q (setT b (tx l) l') ∧ Touch (fun k => k = q) w1 w') from fun w1 ht htt => by
    have h1 := h.turnR htt ht
    have k1 := hr.touch htt h.told.own
    have k2 := hr'.touch htt h.told.own
    obtain ⟨a1, a2, _⟩ := k1.parts
    obtain ⟨b1, b2, _⟩ := k2.parts
    exact ⟨h1, tabPut_any h1.now h1.old hN a1 (Nat.le_refl _) a2 b1 (Nat.le_refl _) b2⟩)
  obtain ⟨c0, c1, c2⟩ := h.cells
  have HSAME := Lib.hid (And.intro h (Touch.refl (fun k => k = q ∨ k = r) w))
  have he := putE_is r1.len s1.len
  by_cases hp : (decide (1 ≤ n) && decide (n ≤ 32) && decide (n' ≤ 120)) = true
  · have e0 := he.2 hp
    rw [e0, if_pos rfl, if_pos rfl]
    have HP := Lib.hid hp
    clear h hr hr' r1 s1 he hp e0
    go_enter Tryz.func9, Tryz.ntmps9
    go_wp2_with fail
    refine HR.out.mono ?_
    rintro e w' ⟨rfl, rfl⟩
    rw [HP.out]
    go_wp2_with fail
    refine HT.out.mono ?_
    rintro e w1 ⟨rfl, ht, htt⟩
    obtain ⟨h1, hc⟩ := HQ.out w1 ht htt
    obtain ⟨d0, d1, d2⟩ := h1.cells
    have HC := Lib.hid hc
    have H1 := Lib.hid (And.intro h1 htt)
    clear h1 hc ht htt
    go_wp2_with fail
    refine HC.out.mono ?_
    rintro e w2 ⟨rfl, ht, htt⟩
    have HEND := Lib.hid (And.intro (H1.out.1.turnQ htt ht) (touch_two (X := fun k => k = q ∨ k = r) H1.out.2 htt (Or.inr rfl) (Or.inl rfl)))
    clear ht htt
    go_wp2_with fail
    go_ret
    exact ⟨rfl, HEND.out⟩
  · have e0 : putE l l' = 1 := by
      have h1 : putE l l' ≠ 0 := fun e => hp (he.1 e)
      unfold putE at h1 ⊢
      split
      · rfl
      · rename_i hh; rw [if_neg hh] at h1; exact absurd rfl h1
    rw [e0, if_neg (by decide), if_neg (by decide)]
    have HP := Lib.hid (Bool.eq_false_iff.2 hp)
    clear h hr hr' r1 s1 he hp e0
    go_enter Tryz.func9, Tryz.ntmps9
    go_wp2_with fail
    refine HR.out.mono ?_
    rintro e w' ⟨rfl, rfl⟩
    rw [HP.out]
    go_wp2_with fail
    go_ret
    exact ⟨rfl, HSAME.out⟩
set_option maxHeartbeats 3200000 in
theorem refDelete_any (h : RefAt w X x p q r a b d) (hN : b.length ≤ 2147483647) (hD : d.length ≤ 2147483647) {A : Option Addr} {n k : Nat} {l : List Int} (hr : SV w X (.slice A n k) l) :
    Calls Tryz.prog 11 #[.pointer (some ⟨x, 0, none⟩), .slice A n k] w fun e w' => e = .returned (.bool (lookT b (tx l)).isSome) ∧
      RefAt w' X x p q r a (if (lookT b (tx l)).isSome then delT b (tx l) else b) (if (lookT b (tx l)).isSome then setT d (tx l) [] else d) ∧ Touch (fun k => k = q ∨ k = r) w w' := by
  obtain ⟨r1, r2, _⟩ := hr.parts
  have HG := Lib.hid (tabGet_any (k := k) h.now (by omega) r1 (Nat.le_refl _))
  have HT := Lib.hid (show ∀ w1, RowKit.Below w.heap.size w w1 → RefAt w1 X x p q r a b d ∧ Calls Tryz.prog 30 #[.pointer (some ⟨r, 0, none⟩), .slice A n k, .slice none 0 0] w1 (fun e w' => e = .returned (.tuple #[]) ∧ TabAt w' X r (setT d (tx l) []) ∧ Touch (fun k => k = r) w1 w') from fun w1 hb => by
    have h1 := h.below hb
    obtain ⟨a1, a2, _⟩ := (hr.keep hb.size (fun _ _ h => h) (fun k hk _ => hb.block k hk)).parts
    exact ⟨h1, tabPut_any h1.told h1.old hD a1 (Nat.le_refl _) a2 (RB.nil_ (w := w1) (B := 0) (A := none)) (Nat.zero_le _) (Nat.zero_le _)⟩)
  have HQ := Lib.hid (show ∀ w1 w2, RowKit.Below w.heap.size w w1 → RefAt w1 X x p q r a b d → TabAt w2 X r (setT d (tx l) []) → Touch (fun k => k = r) w1 w2 → RefAt w2 X x p q r a b (setT d (tx l) []) ∧ Calls Tryz.prog 33 #[.pointer (some ⟨q, 0, none⟩), .slice A n k] w2 (fun e w' => e = .returned (.bool (lookT b (tx l)).isSome) ∧ TabAt w' X q (delT b (tx l)) ∧ Touch (fun k => k = q) w2 w') from fun w1 w2 hb h1 ht htt => by
    have h2 := h1.turnR htt ht
    have k1 := (hr.keep hb.size (fun _ _ h => h) (fun k hk _ => hb.block k hk)).touch htt h1.told.own
    obtain ⟨a1, a2, _⟩ := k1.parts
    exact ⟨h2, tabDelete_any h2.now h2.old (by omega) a1 (Nat.le_refl _)⟩)
  obtain ⟨c0, c1, c2⟩ := h.cells
  have H0 := Lib.hid h
  by_cases hp : (lookT b (tx l)).isSome = true
  · have HP := Lib.hid hp
    rw [if_pos hp, if_pos hp]
    clear h hr r1 hp
    go_enter Tryz.func11, Tryz.ntmps11
    go_wp2_with fail
    refine HG.out.mono ?_
    rintro e w1 ⟨u, rfl, hs, hb⟩
    obtain ⟨U, un, uc, rfl⟩ := hs.slice
    rw [HP.out]
    obtain ⟨h1, hc⟩ := HT.out w1 hb
    obtain ⟨d0, d1, d2⟩ := h1.cells
    have HC := Lib.hid hc
    have H1 := Lib.hid (And.intro h1 hb)
    clear h1 hc hb hs
    go_wp2_with fail
    refine HC.out.mono ?_
    rintro e w2 ⟨rfl, ht, htt⟩
    obtain ⟨h2, hc⟩ := HQ.out w1 w2 H1.out.2 H1.out.1 ht htt
    obtain ⟨d0, d1, d2⟩ := h2.cells
    have HC2 := Lib.hid hc
    have H2 := Lib.hid (And.intro h2 htt)
    clear h2 hc ht htt
    go_wp2_with fail
    refine HC2.out.mono ?_
    rintro e w3 ⟨rfl, ht, htt⟩
    have HEND := Lib.hid (And.intro (H2.out.1.turnQ htt ht) (touch_from H1.out.2 (touch_two (X := fun k => k = q ∨ k = r) H2.out.2 htt (Or.inr rfl) (Or.inl rfl))))
    clear ht htt
    go_wp2_with fail
    go_ret
    exact ⟨rfl, HEND.out⟩
  · have HP := Lib.hid (Bool.eq_false_iff.2 hp)
    rw [if_neg hp, if_neg hp]
    clear h hr r1 hp
    go_enter Tryz.func11, Tryz.ntmps11
    go_wp2_with fail
    refine HG.out.mono ?_
    rintro e w1 ⟨u, rfl, hs, hb⟩
    obtain ⟨U, un, uc, rfl⟩ := hs.slice
    rw [HP.out]
    have HEND := Lib.hid (And.intro (H0.out.below hb) (Touch.of_below (F := fun k => k = q ∨ k = r) hb))
    clear hb hs
    go_wp2_with fail
    go_ret
    exact ⟨congrArg (fun b => Ending.returned (Value.bool b)) HP.out.symm, HEND.out⟩
end

end Go.Proofs.YteogpohhnnjbmaaGreat
