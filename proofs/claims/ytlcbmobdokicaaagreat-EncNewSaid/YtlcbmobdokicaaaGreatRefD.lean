/-
  The texts RefA, RefB, RefC, RefD joined. Conditions: those that each part says at its head.
-/
import Derived.Test.YtlcbmobdokicaaaGreatTabF

/-
  The document's plain view as it lies in memory: three tables behind pointers; its Get, Put, Delete, Scan by contract. Conditions: fewer than 2^31 keys, texts and values of at most 2^47 bytes.
-/
namespace Go.Proofs.YtlcbmobdokicaaaGreat
open Go.RowKit Go.Maps
set_option maxRecDepth 100000
set_option linter.unusedVariables false

/-- The plain view at block x: its tables lie at p, q, r. -/
structure RefAt (w : World) (X : Nat → Prop) (x p q r : Nat) (a b d : TL) : Prop where
  me : w.heap[x]? = some (.cells #[.pointer (some ⟨p, 0, none⟩), .pointer (some ⟨q, 0, none⟩), .pointer (some ⟨r, 0, none⟩)] 129 (0, 0))
  own : X x
  was : TabAt w X p a
  now : TabAt w X q b
  told : TabAt w X r d
  apart : x ≠ p ∧ x ≠ q ∧ x ≠ r ∧ p ≠ q ∧ p ≠ r ∧ q ≠ r
  old : ∀ k, X k → k < w.heap.size
section
variable {w w' : World} {X : Nat → Prop} {x p q r : Nat} {a b d : TL}
theorem TabAt.own {t : Nat} {L : TL} (h : TabAt w X t L) : X t := by
  obtain ⟨_, _, _, _, h, _⟩ := h
  exact h
theorem TabAt.touch {t s : Nat} {L : TL} (h : TabAt w X t L) (ht : Touch (fun k => k = s) w w') (hs : X s) (hne : t ≠ s) : TabAt w' X t L :=
  h.keep ht.size (fun _ _ h => h) (fun _ h => h) (fun k hk hx => ht.block k hk fun e => hx (by rw [e]; exact hs)) (ht.block t h.lt hne)
theorem RefAt.lt (h : RefAt w X x p q r a b d) : x < w.heap.size := (Array.getElem?_eq_some_iff.1 h.me).1
theorem RefAt.below (h : RefAt w X x p q r a b d) (hb : RowKit.Below w.heap.size w w') : RefAt w' X x p q r a b d :=
  ⟨(hb.block x h.lt).trans h.me, h.own, h.was.below hb, h.now.below hb, h.told.below hb, h.apart, fun k hk => Nat.lt_of_lt_of_le (h.old k hk) hb.size⟩
theorem RefAt.turnR {d' : TL} (h : RefAt w X x p q r a b d) (ht : Touch (fun k => k = r) w w') (hr : TabAt w' X r d') : RefAt w' X x p q r a b d' :=
  ⟨(ht.block x h.lt h.apart.2.2.1).trans h.me, h.own, h.was.touch ht h.told.own h.apart.2.2.2.2.1, h.now.touch ht h.told.own h.apart.2.2.2.2.2, hr, h.apart, fun k hk => Nat.lt_of_lt_of_le (h.old k hk) ht.size⟩
theorem RefAt.turnQ {b' : TL} (h : RefAt w X x p q r a b d) (ht : Touch (fun k => k = q) w w') (hr : TabAt w' X q b') : RefAt w' X x p q r a b' d :=
  ⟨(ht.block x h.lt h.apart.2.1).trans h.me, h.own, h.was.touch ht h.now.own h.apart.2.2.2.1, hr, h.told.touch ht h.now.own (Ne.symm h.apart.2.2.2.2.2), h.apart, fun k hk => Nat.lt_of_lt_of_le (h.old k hk) ht.size⟩
theorem RefAt.cells (h : RefAt w X x p q r a b d) : w.cell? ⟨x, 0, none⟩ = some (.pointer (some ⟨p, 0, none⟩)) ∧ w.cell? ⟨x, 1, none⟩ = some (.pointer (some ⟨q, 0, none⟩)) ∧ w.cell? ⟨x, 2, none⟩ = some (.pointer (some ⟨r, 0, none⟩)) :=
  ⟨by rw [cell_of_row w x 0 _ _ (0, 0) h.me]; rfl, by rw [cell_of_row w x 1 _ _ (0, 0) h.me]; rfl, by rw [cell_of_row w x 2 _ _ (0, 0) h.me]; rfl⟩
theorem touch_two {s t : Nat} {w1 : World} (h : Touch (fun k => k = s) w w1) (k : Touch (fun k => k = t) w1 w') (hs : X s) (ht : X t) : Touch X w w' :=
  ⟨k.os.trans h.os, k.tape.trans h.tape, k.output.trans h.output, Nat.le_trans h.size k.size, fun i hi hF => (k.block i (Nat.lt_of_lt_of_le hi h.size) fun e => hF (by rw [e]; exact ht)).trans (h.block i hi fun e => hF (by rw [e]; exact hs))⟩

theorem rvGet_any (h : RefAt w X x p q r a b d) (hN : b.length ≤ 2147483647) {A : Option Addr} {n k B : Nat} {l : List Int} (hr : RB w B A n l) (hB : B ≤ w.heap.size) :
    Calls Tryz.prog 100 #[.pointer (some ⟨x, 0, none⟩), .slice A n k] w fun e w' => ∃ u, e = .returned (.tuple #[u, .bool (lookT b (tx l)).isSome]) ∧ SV w' (fun k => k < w.heap.size) u ((lookT b (tx l)).getD []) ∧ RowKit.Below w.heap.size w w' := by
  have HG := Lib.hid (tabGet_any (k := k) h.now (by omega) hr hB)
  obtain ⟨c0, c1, c2⟩ := h.cells
  clear h hr
  go_enter Tryz.func100, Tryz.ntmps100
  go_wp2_with fail
  refine HG.out.mono ?_
  rintro e w' ⟨u, rfl, hs, hb⟩
  go_wp2_with fail
  go_ret2
  exact ⟨u, rfl, hs, hb⟩

theorem refScan_any (h : RefAt w X x p q r a b d) (hN : b.length ≤ 2147483647) {A : Option Addr} {n k B : Nat} {l : List Int} (hr : RB w B A n l) (hB : B ≤ w.heap.size) (hnm : n ≤ maxLen) (hnk : n ≤ k) :
    Calls Tryz.prog 90 #[.pointer (some ⟨x, 0, none⟩), .slice A n k] w fun e w' => ∃ A' n' k', e = .returned (.slice A' n' k') ∧ SPs w' X A' n' k' (b.filter fun q => (tx l).isPrefixOf q.1) ∧ RowKit.Below w.heap.size w w' := by
  have HG := Lib.hid (tabScan_any (k := k) h.now h.old (by omega) hr hB hnm hnk)
  obtain ⟨c0, c1, c2⟩ := h.cells
  clear h hr
  go_enter Tryz.func90, Tryz.ntmps90
  go_wp2_with fail
  refine HG.out.mono ?_
  rintro e w' ⟨A', n', k', rfl, hs, hb⟩
  go_wp2_with fail
  go_ret
  exact ⟨_, _, _, rfl, hs, hb⟩

theorem SV.touch {u : Value} {l : List Int} {s : Nat} (hs : SV w X u l) (ht : Touch (fun k => k = s) w w') (hX : X s) : SV w' X u l := hs.keep ht.size (fun _ _ h => h) (fun k hk hx => ht.block k hk fun e => hx (by rw [e]; exact hX))
theorem SV.parts {A : Option Addr} {n k : Nat} {l : List Int} (hs : SV w X (.slice A n k) l) : RB w w.heap.size A n l ∧ n ≤ 140737488355328 ∧ n ≤ k := by
  obtain ⟨A, n, k, e, h1, h2, h3, _⟩ := hs
  cases e
  exact ⟨h3, h2, h1⟩
theorem putE_is {n n' : Nat} {l l' : List Int} (h : l.length = n) (h' : l'.length = n') : putE l l' = 0 ↔ (decide (1 ≤ n) && decide (n ≤ 32) && decide (n' ≤ 120)) = true := by
  unfold putE
  rw [h, h']
  simp only [Bool.and_eq_true, decide_eq_true_eq]
  split <;> omega
set_option maxHeartbeats 3200000 in
theorem rvPut_any (h : RefAt w X x p q r a b d) (hN : b.length ≤ 2147483647) (hD : d.length ≤ 2147483647) {A A' : Option Addr} {n k n' k' : Nat} {l l' : List Int} (hr : SV w X (.slice A n k) l) (hr' : SV w X (.slice A' n' k') l') :
    Calls Tryz.prog 73 #[.pointer (some ⟨x, 0, none⟩), .slice A n k, .slice A' n' k'] w fun e w' => e = .returned (.int .i64 (putE l l')) ∧
      RefAt w' X x p q r a (if putE l l' = 0 then setT b (tx l) l' else b) (if putE l l' = 0 then setT d (tx l) [] else d) ∧ Touch (fun k => k = q ∨ k = r) w w' := by
  obtain ⟨r1, r2, _⟩ := hr.parts
  obtain ⟨s1, s2, _⟩ := hr'.parts
  have HR := Lib.hid (right12_any w (A := A) (A' := A') (k := k) (k' := k') (n := n) (n' := n') (by unfold maxLen; omega) (by unfold maxLen; omega))
  have HT := Lib.hid (tabPut_any (k := k) (k' := 0) h.told h.old hD r1 (Nat.le_refl _) r2 (RB.nil_ (w := w) (B := 0) (A := none)) (Nat.zero_le _) (Nat.zero_le _))
  have HQ := Lib.hid (show ∀ w1, TabAt w1 X r (setT d (tx l) []) → Touch (fun k => k = r) w w1 → RefAt w1 X x p q r a b (setT d (tx l) []) ∧ Calls Tryz.prog 114 #[.pointer (some ⟨q, 0, none⟩), .slice A n k, .slice A' n' k'] w1 (fun e w' => e = .returned (.tuple #[]) ∧ TabAt w' X q (setT b (tx l) l') ∧ Touch (fun k => k = q) w1 w') from fun w1 ht htt => by
    have h1 := h.turnR htt ht
    have k1 := hr.touch htt h.told.own
    have k2 := hr'.touch htt h.told.own
    obtain ⟨a1, a2, _⟩ := k1.parts
    obtain ⟨b1, b2, _⟩ := k2.parts
    exact ⟨h1, tabPut_any h1.now h1.old hN a1 (Nat.le_refl _) a2 b1 (Nat.le_refl _) b2⟩)
  obtain ⟨c0, c1, c2⟩ := h.cells
  have HSAME := Lib.hid (And.intro h (Touch.refl (fun k => k = q ∨ k = r) w))
  have he := putE_is r1.len s1.len
  by_cases hp : (decide (1 ≤ n) && decide (n ≤ 32) && decide (n' ≤ 120)) = true
  · have e0 := he.2 hp
    rw [e0, if_pos rfl, if_pos rfl]
    have HP := Lib.hid hp
    clear h hr hr' r1 s1 he hp e0
    go_enter Tryz.func73, Tryz.ntmps73
    go_wp2_with fail
    refine HR.out.mono ?_
    rintro e w' ⟨rfl, rfl⟩
    rw [HP.out]
    go_wp2_with fail
    refine HT.out.mono ?_
    rintro e w1 ⟨rfl, ht, htt⟩
    obtain ⟨h1, hc⟩ := HQ.out w1 ht htt
    obtain ⟨d0, d1, d2⟩ := h1.cells
    have HC := Lib.hid hc
    have H1 := Lib.hid (And.intro h1 htt)
    clear h1 hc ht htt
    go_wp2_with fail
    refine HC.out.mono ?_
    rintro e w2 ⟨rfl, ht, htt⟩
    have HEND := Lib.hid (And.intro (H1.out.1.turnQ htt ht) (touch_two (X := fun k => k = q ∨ k = r) H1.out.2 htt (Or.inr rfl) (Or.inl rfl)))
    clear ht htt
    go_wp2_with fail
    go_ret
    exact ⟨rfl, HEND.out⟩
  · have e0 : putE l l' = 1 := by
      have h1 : putE l l' ≠ 0 := fun e => hp (he.1 e)
      unfold putE at h1 ⊢
      split
      · rfl
      · rename_i hh; rw [if_neg hh] at h1; exact absurd rfl h1
    rw [e0, if_neg (by decide), if_neg (by decide)]
    have HP := Lib.hid (Bool.eq_false_iff.2 hp)
    clear h hr hr' r1 s1 he hp e0
    go_enter Tryz.func73, Tryz.ntmps73
    go_wp2_with fail
    refine HR.out.mono ?_
    rintro e w' ⟨rfl, rfl⟩
    rw [HP.out]
    go_wp2_with fail
    go_ret
    exact ⟨rfl, HSAME.out⟩
end

end Go.Proofs.YtlcbmobdokicaaaGreat

/-
  The document's plain view's New, Commit, Abort by contract. No condition.
-/
namespace Go.Proofs.YtlcbmobdokicaaaGreat
open Go.RowKit Go.Maps
set_option maxRecDepth 100000
set_option linter.unusedVariables false

section
variable {w w' : World} {X : Nat → Prop} {x p q r : Nat} {a b d : TL}
/-- The blocks that a call made are the view's own, too. -/
def And_ (X : Nat → Prop) (w w' : World) : Nat → Prop := fun k => X k ∨ (w.heap.size ≤ k ∧ k < w'.heap.size)
theorem SPs.more {A : Option Addr} {n c : Nat} {L : TL} (h : SPs w X A n c L) (hx : X x) (hs : w.heap.size ≤ w'.heap.size) (hk : ∀ k, k < w.heap.size → k ≠ x → w'.heap[k]? = w.heap[k]?) : SPs w' (And_ X w w') A n c L :=
  h.keep hs (fun k hk hx hy => by rcases hy with a | a; exact hx a; omega) (fun k hk' hX => hk k hk' fun e => hX (by rw [e]; exact hx))
theorem TabAt.more {t : Nat} {L : TL} (h : TabAt w X t L) (hx : X x) (hs : w.heap.size ≤ w'.heap.size) (hk : ∀ k, k < w.heap.size → k ≠ x → w'.heap[k]? = w.heap[k]?) (hne : t ≠ x) : TabAt w' (And_ X w w') t L := by
  have ht := h.lt
  obtain ⟨A, n, c, h1, h2, h3⟩ := h
  exact ⟨A, n, c, (hk t ht hne).trans h1, .inl h2, h3.more hx hs hk⟩

/-- The world behind Commit and Abort: two blocks more, and two cells of the view set. -/
def renewed (w : World) (x i : Nat) (u : Value) : World :=
  (((w.setCell ⟨x, i, none⟩ (.pointer (some ⟨w.heap.size, 0, none⟩))).setCell ⟨x, 2, none⟩ (.pointer (some ⟨w.heap.size + 1, 0, none⟩))).alloc (.cells #[u] 127 (0, 0))).alloc (.cells #[.slice none 0 0] 127 (0, 0))
theorem renewed_is (h : RefAt w X x p q r a b d) (u : Value) (i : Nat) :
    (renewed w x i u).heap.size = w.heap.size + 2 ∧ (∀ k, k < w.heap.size → k ≠ x → (renewed w x i u).heap[k]? = w.heap[k]?) ∧ (renewed w x i u).heap[w.heap.size]? = some (.cells #[u] 127 (0, 0)) ∧ (renewed w x i u).heap[w.heap.size + 1]? = some (.cells #[.slice none 0 0] 127 (0, 0)) ∧
      (renewed w x i u).heap[x]? = some (.cells (((#[.pointer (some ⟨p, 0, none⟩), .pointer (some ⟨q, 0, none⟩), .pointer (some ⟨r, 0, none⟩)] : Array Value).setIfInBounds i (.pointer (some ⟨w.heap.size, 0, none⟩))).setIfInBounds 2 (.pointer (some ⟨w.heap.size + 1, 0, none⟩))) 129 (0, 0)) ∧ Touch (fun k => k = x) w (renewed w x i u) := by
  have hx := h.lt
  obtain ⟨w1, h1⟩ : ∃ w1, w1 = w.setCell ⟨x, i, none⟩ (.pointer (some ⟨w.heap.size, 0, none⟩)) := ⟨_, rfl⟩
  obtain ⟨w2, h2⟩ : ∃ w2, w2 = w1.setCell ⟨x, 2, none⟩ (.pointer (some ⟨w.heap.size + 1, 0, none⟩)) := ⟨_, rfl⟩
  obtain ⟨w3, h3⟩ : ∃ w3, w3 = w2.alloc (.cells #[u] 127 (0, 0)) := ⟨_, rfl⟩
  obtain ⟨w4, h4⟩ : ∃ w4, w4 = w3.alloc (.cells #[.slice none 0 0] 127 (0, 0)) := ⟨_, rfl⟩
  have e : renewed w x i u = w4 := by rw [h4, h3, h2, h1]; rfl
  rw [e]
  have z1 : w1.heap.size = w.heap.size := by rw [h1]; simp [World.setCell]
  have z2 : w2.heap.size = w.heap.size := by rw [h2, ← z1]; simp [World.setCell]
  have z3 : w3.heap.size = w.heap.size + 1 := by rw [h3]; simp [z2]
  have z4 : w4.heap.size = w.heap.size + 2 := by rw [h4]; simp [z3]
  have b1 : ∀ k, k ≠ x → w1.heap[k]? = w.heap[k]? := fun k hk => by rw [h1]; exact Below.heap_setCell _ _ _ _ hk
  have b2 : ∀ k, k ≠ x → w2.heap[k]? = w1.heap[k]? := fun k hk => by rw [h2]; exact Below.heap_setCell _ _ _ _ hk
  have b3 : ∀ k, k < w.heap.size → w3.heap[k]? = w2.heap[k]? := fun k hk => by rw [h3]; exact heap_alloc_old _ _ (by omega)
  have b4 : ∀ k, k < w.heap.size + 1 → w4.heap[k]? = w3.heap[k]? := fun k hk => by rw [h4]; exact heap_alloc_old _ _ (by omega)
  have n3 : w3.heap[w.heap.size]? = some (.cells #[u] 127 (0, 0)) := by rw [h3, ← z2]; exact heap_alloc_new _ _
  have n4 : w4.heap[w.heap.size + 1]? = some (.cells #[.slice none 0 0] 127 (0, 0)) := by rw [h4, ← z3]; exact heap_alloc_new _ _
  have m1 := heap_setCell_same w x i _ 129 (.pointer (some ⟨w.heap.size, 0, none⟩)) h.me
  rw [← h1] at m1
  have m2 := heap_setCell_same w1 x 2 _ 129 (.pointer (some ⟨w.heap.size + 1, 0, none⟩)) m1
  rw [← h2] at m2
  have m4 := (b4 x (by omega)).trans ((b3 x hx).trans m2)
  have hk : ∀ k, k < w.heap.size → k ≠ x → w4.heap[k]? = w.heap[k]? := fun k hk hne => (b4 k (by omega)).trans ((b3 k hk).trans ((b2 k hne).trans (b1 k hne)))
  refine ⟨z4, hk, (b4 _ (by omega)).trans n3, n4, m4, ⟨?_, ?_, ?_, by omega, fun k hk' hX => hk k hk' hX⟩⟩
  · rw [h4, h3, h2, h1]; rfl
  · rw [h4, h3, h2, h1]; rfl
  · rw [h4, h3, h2, h1]; rfl

set_option maxHeartbeats 1600000 in
theorem refCommit_any (h : RefAt w X x p q r a b d) :
    Calls Tryz.prog 47 #[.pointer (some ⟨x, 0, none⟩)] w fun e w' => e = .returned (.tuple #[]) ∧ RefAt w' (And_ X w w') x w.heap.size q (w.heap.size + 1) b b [] ∧ Touch (fun k => k = x) w w' := by
  obtain ⟨c0, c1, c2⟩ := h.cells
  have hx := h.lt
  obtain ⟨A, n, c, hq, _, hs⟩ := h.now
  have cq : w.cell? ⟨q, 0, none⟩ = some (.slice A n c) := by rw [cell_of_row w q 0 _ _ (0, 0) hq]; rfl
  have hf : ∀ i, w.frozen? ⟨x, i, none⟩ = false := fun i => frozen_of_row w x i _ _ h.me
  have hql := h.now.lt
  have HEND := Lib.hid (show RefAt (renewed w x 0 (.slice A n c)) (And_ X w (renewed w x 0 (.slice A n c))) x w.heap.size q (w.heap.size + 1) b b [] ∧ Touch (fun k => k = x) w (renewed w x 0 (.slice A n c)) from by
    obtain ⟨r1, r2, r3, r4, r5, r6⟩ := renewed_is h (.slice A n c) 0
    have hle : w.heap.size ≤ (renewed w x 0 (.slice A n c)).heap.size := by omega
    refine ⟨⟨r5, .inl h.own, ⟨A, n, c, r3, .inr (by omega), hs.more h.own hle r2⟩, h.now.more h.own hle r2 (Ne.symm h.apart.2.1), ⟨none, 0, 0, r4, .inr (by omega), SPs.nil_ _ _ _ _⟩, ⟨by omega, h.apart.2.1, by omega, by omega, by omega, by omega⟩, fun k hk => ?_⟩, r6⟩
    rcases hk with a | a
    · exact Nat.lt_of_lt_of_le (h.old k a) hle
    · exact a.2)
  have f0 := hf 0
  have f2 := hf 2
  have hne : ¬ x = w.heap.size := by omega
  clear h hs hq hf
  unfold renewed at HEND
  go_enter Tryz.func47, Tryz.ntmps47
  go_wp2_with fail
  go_end0
  exact ⟨rfl, HEND.out⟩
set_option maxHeartbeats 1600000 in
theorem refAbort_any (h : RefAt w X x p q r a b d) :
    Calls Tryz.prog 49 #[.pointer (some ⟨x, 0, none⟩)] w fun e w' => e = .returned (.tuple #[]) ∧ RefAt w' (And_ X w w') x p w.heap.size (w.heap.size + 1) a a [] ∧ Touch (fun k => k = x) w w' := by
  obtain ⟨c0, c1, c2⟩ := h.cells
  have hx := h.lt
  obtain ⟨A, n, c, hq, _, hs⟩ := h.was
  have cq : w.cell? ⟨p, 0, none⟩ = some (.slice A n c) := by rw [cell_of_row w p 0 _ _ (0, 0) hq]; rfl
  have hf : ∀ i, w.frozen? ⟨x, i, none⟩ = false := fun i => frozen_of_row w x i _ _ h.me
  have hql := h.was.lt
  have HEND := Lib.hid (show RefAt (renewed w x 1 (.slice A n c)) (And_ X w (renewed w x 1 (.slice A n c))) x p w.heap.size (w.heap.size + 1) a a [] ∧ Touch (fun k => k = x) w (renewed w x 1 (.slice A n c)) from by
    obtain ⟨r1, r2, r3, r4, r5, r6⟩ := renewed_is h (.slice A n c) 1
    have hle : w.heap.size ≤ (renewed w x 1 (.slice A n c)).heap.size := by omega
    refine ⟨⟨r5, .inl h.own, h.was.more h.own hle r2 (Ne.symm h.apart.1), ⟨A, n, c, r3, .inr (by omega), hs.more h.own hle r2⟩, ⟨none, 0, 0, r4, .inr (by omega), SPs.nil_ _ _ _ _⟩, ⟨h.apart.1, by omega, by omega, by omega, by omega, by omega⟩, fun k hk => ?_⟩, r6⟩
    rcases hk with a | a
    · exact Nat.lt_of_lt_of_le (h.old k a) hle
    · exact a.2)
  have f0 := hf 1
  have f2 := hf 2
  have hne : ¬ x = w.heap.size := by omega
  clear h hs hq hf
  unfold renewed at HEND
  go_enter Tryz.func49, Tryz.ntmps49
  go_wp2_with fail
  go_end0
  exact ⟨rfl, HEND.out⟩
set_option maxHeartbeats 1600000 in
theorem refNew_nil (w : World) :
    Calls Tryz.prog 32 #[.slice none 0 0] w fun e w' => e = .returned (.pointer (some ⟨w.heap.size + 3, 0, none⟩)) ∧ RefAt w' (fun k => w.heap.size ≤ k ∧ k < w'.heap.size) (w.heap.size + 3) w.heap.size (w.heap.size + 1) (w.heap.size + 2) [] [] [] ∧ RowKit.Below w.heap.size w w' := by
  go_enter Tryz.func32, Tryz.ntmps32
  go_wp2_with fail
  go_ret
  refine ⟨rfl, ?_⟩
  obtain ⟨w1, h1⟩ : ∃ w1, w1 = w.alloc (.cells #[.slice none 0 0] 127 (0, 0)) := ⟨_, rfl⟩
  obtain ⟨w2, h2⟩ : ∃ w2, w2 = w1.alloc (.cells #[.slice none 0 0] 127 (0, 0)) := ⟨_, rfl⟩
  obtain ⟨w3, h3⟩ : ∃ w3, w3 = w2.alloc (.cells #[.slice none 0 0] 127 (0, 0)) := ⟨_, rfl⟩
  obtain ⟨w4, h4⟩ : ∃ w4, w4 = w3.alloc (.cells #[.pointer (some ⟨w.heap.size, 0, none⟩), .pointer (some ⟨w.heap.size + 1, 0, none⟩), .pointer (some ⟨w.heap.size + 1 + 1, 0, none⟩)] 129 (0, 0)) := ⟨_, rfl⟩
  have z1 : w1.heap.size = w.heap.size + 1 := by rw [h1]; simp
  have z2 : w2.heap.size = w.heap.size + 2 := by rw [h2]; simp [z1]
  have z3 : w3.heap.size = w.heap.size + 3 := by rw [h3]; simp [z2]
  have z4 : w4.heap.size = w.heap.size + 4 := by rw [h4]; simp [z3]
  have n1 : w1.heap[w.heap.size]? = some (.cells #[.slice none 0 0] 127 (0, 0)) := by rw [h1]; exact heap_alloc_new _ _
  have n2 : w2.heap[w.heap.size + 1]? = some (.cells #[.slice none 0 0] 127 (0, 0)) := by rw [h2, ← z1]; exact heap_alloc_new _ _
  have n3 : w3.heap[w.heap.size + 2]? = some (.cells #[.slice none 0 0] 127 (0, 0)) := by rw [h3, ← z2]; exact heap_alloc_new _ _
  have n4 : w4.heap[w.heap.size + 3]? = some (.cells #[.pointer (some ⟨w.heap.size, 0, none⟩), .pointer (some ⟨w.heap.size + 1, 0, none⟩), .pointer (some ⟨w.heap.size + 1 + 1, 0, none⟩)] 129 (0, 0)) := by rw [h4, ← z3]; exact heap_alloc_new _ _
  have b2 : ∀ k, k < w.heap.size + 1 → w2.heap[k]? = w1.heap[k]? := fun k hk => by rw [h2]; exact heap_alloc_old _ _ (by omega)
  have b3 : ∀ k, k < w.heap.size + 2 → w3.heap[k]? = w2.heap[k]? := fun k hk => by rw [h3]; exact heap_alloc_old _ _ (by omega)
  have b4 : ∀ k, k < w.heap.size + 3 → w4.heap[k]? = w3.heap[k]? := fun k hk => by rw [h4]; exact heap_alloc_old _ _ (by omega)
  have hb : RowKit.Below w.heap.size w w4 := by
    rw [h4, h3, h2, h1]
    exact ((((RowKit.Below.refl _ _).alloc (Nat.le_refl _) _).alloc (by simp) _).alloc (by simp; omega) _).alloc (by simp; omega) _
  rw [← h1, ← h2, ← h3, ← h4]
  refine ⟨⟨n4, ⟨by omega, by omega⟩, ⟨none, 0, 0, (b4 _ (by omega)).trans ((b3 _ (by omega)).trans ((b2 _ (by omega)).trans n1)), ⟨by omega, by omega⟩, SPs.nil_ _ _ _ _⟩, ⟨none, 0, 0, (b4 _ (by omega)).trans ((b3 _ (by omega)).trans n2), ⟨by omega, by omega⟩, SPs.nil_ _ _ _ _⟩,
    ⟨none, 0, 0, (b4 _ (by omega)).trans n3, ⟨by omega, by omega⟩, SPs.nil_ _ _ _ _⟩, ⟨by omega, by omega, by omega, by omega, by omega, by omega⟩, fun k hk => hk.2⟩, hb⟩
end

end Go.Proofs.YtlcbmobdokicaaaGreat

/-
  The document's plain view's Changes by contract. Conditions: fewer than 2^31 keys, texts and values of at most 2^47 bytes.
-/
namespace Go.Proofs.YtlcbmobdokicaaaGreat
open Go.RowKit Go.Maps
set_option maxRecDepth 100000
set_option linter.unusedVariables false

def refPutF (a b : TL) (p : Txt × List Int) : Option (Txt × List Int) := match lookT b p.1 with
  | some v => if lookT a p.1 = some v then none else some (p.1, v)
  | none => none
def refDelF (a b : TL) (p : Txt × List Int) : Option Txt := match lookT b p.1 with
  | some _ => none
  | none => if (lookT a p.1).isSome then some p.1 else none
def refPutsN (a b d : TL) (j : Nat) : List KV := ((d.take j).filterMap (refPutF a b)).map kvOf
def refDelsN (a b d : TL) (j : Nat) : List (List Int) := ((d.take j).filterMap (refDelF a b)).map by_
/-- Two lists under way, whose elements may lie in what was there before. -/
def CRows (w : World) (base : Nat) (pv dv : Value) (P : List KV) (T : List (List Int)) : Prop :=
  ∃ Y : Nat → Prop, GRow PairR 111 2 w Y base pv P ∧ GRow TextR 109 1 w Y base dv T ∧ (∀ k, Y k → base ≤ k ∧ k < w.heap.size) ∧ ∀ r, pv.ownBlock = some r → dv.ownBlock ≠ some r
section
variable {w w' : World} {base : Nat} {pv dv : Value} {P : List KV} {T : List (List Int)} {a b d : TL}
theorem refPutsN_len (j : Nat) : (refPutsN a b d j).length ≤ j := by
  unfold refPutsN
  rw [List.length_map]
  exact Nat.le_trans (List.length_filterMap_le _ _) (by rw [List.length_take]; exact Nat.min_le_left _ _)
theorem refDelsN_len (j : Nat) : (refDelsN a b d j).length ≤ j := by
  unfold refDelsN
  rw [List.length_map]
  exact Nat.le_trans (List.length_filterMap_le _ _) (by rw [List.length_take]; exact Nat.min_le_left _ _)
theorem refPutsN_step {j : Nat} {p : Txt × List Int} (hp : d[j]? = some p) : refPutsN a b d (j + 1) = refPutsN a b d j ++ (refPutF a b p).toList.map kvOf := by
  unfold refPutsN
  rw [fm_step hp, List.map_append]
theorem refDelsN_step {j : Nat} {p : Txt × List Int} (hp : d[j]? = some p) : refDelsN a b d (j + 1) = refDelsN a b d j ++ (refDelF a b p).toList.map by_ := by
  unfold refDelsN
  rw [fm_step hp, List.map_append]
theorem CRows.start (w : World) (base : Nat) : CRows w base (.slice none 0 0) (.slice none 0 0) [] [] :=
  ⟨fun _ => False, GRow.start _ _ _, GRow.start _ _ _, fun k h => h.elim, fun r h => by simp [Value.ownBlock] at h⟩
theorem CRows.below (h : CRows w base pv dv P T) (hb : Below w.heap.size w w') : CRows w' base pv dv P T := by
  obtain ⟨Y, h1, h2, h3, h4⟩ := h
  exact ⟨Y, h1.below @pairR_kept hb, h2.below @textR_kept hb, fun k hk => ⟨(h3 k hk).1, Nat.lt_of_lt_of_le (h3 k hk).2 hb.size⟩, h4⟩
theorem CRows.to (h : CRows w base pv dv P T) : ChRows w base pv dv P T := by
  obtain ⟨Y, h1, h2, h3, h4⟩ := h
  exact ⟨Y, h1, h2, fun k hk => (h3 k hk).2, h4⟩
theorem CRows.pushP {W : World} {u1 u2 : Value} {x : KV} {b : Nat} {TT : TypeId} (h : CRows W base pv dv P T) (hW : Below W.heap.size W w) (hu1 : SV w (fun k => base ≤ k ∧ k < W.heap.size) u1 x.1) (hu2 : SV w (fun k => base ≤ k ∧ k < W.heap.size) u2 x.2) (hb : w.heap[b]? = some (.cells #[u1, u2] TT)) (hn : P.length ≤ 4294967296) (hbase : base ≤ w.heap.size) (ty : TypeId) :
    ∃ v' w', (Builtin.append_ #[124, 124] ty #[pv, .slice (some ⟨b, 0, none⟩) 1 1]).run Tryz.prog w = .ok v' w' ∧ CRows w' base v' dv (P ++ [x]) T ∧ Below base w w' := by
  obtain ⟨Y, h1, h2, h3, h4⟩ := h
  have h1' := h1.below @pairR_kept hW
  have h2' := h2.below @textR_kept hW
  obtain ⟨v', w', hrun, g1, g2, g3, _⟩ := h1'.append_pair (hu1.far fun k hk => h3 k hk) (hu2.far fun k hk => h3 k hk) hb hn hbase ty
  refine ⟨v', w', hrun, ⟨_, g1, h2'.keep @textR_kept g2.size (fun k hk hy hh => ?_) (fun k hk hy => g2.block k hk fun e => hy (h1.own k e.symm)) (fun r hr => ⟨g2.block r (h2'.at_ r hr).2 (fun e => h4 r e.symm hr), .inl (h2.own r hr)⟩), fun k hk => ?_, fun r hr hd => ?_⟩, ?_⟩
  · rcases hh with a | a
    · exact hy a
    · rcases g3 with q | q
      · rw [q] at a; exact hy (h1.own k a)
      · rw [q] at a; injection a with a; omega
  · rcases hk with a | a
    · exact ⟨(h3 k a).1, Nat.lt_of_lt_of_le (h3 k a).2 (Nat.le_trans hW.size g2.size)⟩
    · exact g1.at_ k a
  · rcases g3 with q | q
    · rw [q] at hr; exact h4 r hr hd
    · rw [q] at hr
      injection hr with hr
      have := (h2'.at_ r hd).2
      omega
  · exact (Below.refl base w).grown g2 hbase (fun k hk => (h1.at_ k hk).1)
theorem CRows.pushT {W : World} {u1 : Value} {x : List Int} {b : Nat} {TT : TypeId} (h : CRows W base pv dv P T) (hW : Below W.heap.size W w) (hu1 : SV w (fun k => base ≤ k ∧ k < W.heap.size) u1 x) (hb : w.heap[b]? = some (.cells #[u1] TT)) (hn : T.length ≤ 4294967296) (hbase : base ≤ w.heap.size) (ty : TypeId) :
    ∃ v' w', (Builtin.append_ #[146, 146] ty #[dv, .slice (some ⟨b, 0, none⟩) 1 1]).run Tryz.prog w = .ok v' w' ∧ CRows w' base pv v' P (T ++ [x]) ∧ Below base w w' := by
  obtain ⟨Y, h1, h2, h3, h4⟩ := h
  have h1' := h1.below @pairR_kept hW
  have h2' := h2.below @textR_kept hW
  obtain ⟨v', w', hrun, g1, g2, g3, _⟩ := h2'.append_text (hu1.far fun k hk => h3 k hk) hb hn hbase ty
  refine ⟨v', w', hrun, ⟨_, h1'.keep @pairR_kept g2.size (fun k hk hy hh => ?_) (fun k hk hy => g2.block k hk fun e => hy (h2.own k e.symm)) (fun r hr => ⟨g2.block r (h1'.at_ r hr).2 (fun e => h4 r hr e.symm), .inl (h1.own r hr)⟩), g1, fun k hk => ?_, fun r hr hd => ?_⟩, ?_⟩
  · rcases hh with a | a
    · exact hy a
    · rcases g3 with q | q
      · rw [q] at a; exact hy (h2.own k a)
      · rw [q] at a; injection a with a; omega
  · rcases hk with a | a
    · exact ⟨(h3 k a).1, Nat.lt_of_lt_of_le (h3 k a).2 (Nat.le_trans hW.size g2.size)⟩
    · exact g1.at_ k a
  · rcases g3 with q | q
    · rw [q] at hd; exact h4 r hr hd
    · rw [q] at hd
      injection hd with hd
      have := (h1'.at_ r hr).2
      omega
  · exact (Below.refl base w).grown g2 hbase (fun k hk => (h2.at_ k hk).1)
end

section
variable {w w' : World} {X : Nat → Prop} {x p q r : Nat} {a b d : TL}
end

end Go.Proofs.YtlcbmobdokicaaaGreat

/-
  What the program's view holds and what the document's holds, as plain lists: both tell the same changes. No condition.
-/
namespace Go.Proofs.YtlcbmobdokicaaaGreat
set_option linter.unusedVariables false

section
variable {β β' γ : Type}
theorem fm_congr {α δ : Type} {f g : α → Option δ} : ∀ {L : List α}, (∀ x ∈ L, f x = g x) → L.filterMap f = L.filterMap g
  | [], _ => rfl
  | x :: L, h => by
    rw [List.filterMap_cons, List.filterMap_cons, h x List.mem_cons_self, fm_congr fun y hy => h y (List.mem_cons_of_mem _ hy)]
/-- What g says of a list's keys. -/
def keysOf (g : Txt → Option γ) (L : List (Txt × β)) : List (Txt × γ) := L.filterMap fun p => (g p.1).map fun v => (p.1, v)
theorem keysOf_mem {g : Txt → Option γ} {L : List (Txt × β)} {q : Txt × γ} : q ∈ keysOf g L ↔ (∃ p ∈ L, p.1 = q.1) ∧ g q.1 = some q.2 := by
  unfold keysOf
  rw [List.mem_filterMap]
  constructor
  · rintro ⟨p, hp, h⟩
    obtain ⟨v, hv, rfl⟩ := Option.map_eq_some_iff.1 h
    exact ⟨⟨p, hp, rfl⟩, hv⟩
  · rintro ⟨⟨p, hp, e⟩, h⟩
    exact ⟨p, hp, by rw [e, h]; rfl⟩
theorem keysOf_rise {g : Txt → Option γ} {L : List (Txt × β)} (h : RiseT L) : RiseT (keysOf g L) := by
  unfold keysOf RiseT
  rw [List.pairwise_filterMap]
  refine List.Pairwise.imp ?_ h
  intro p q hpq b hb b' hb'
  obtain ⟨v, _, rfl⟩ := Option.map_eq_some_iff.1 hb
  obtain ⟨v', _, rfl⟩ := Option.map_eq_some_iff.1 hb'
  exact hpq
theorem keysOf_look {g : Txt → Option γ} {L : List (Txt × β)} (h : RiseT L) (y : Txt) : lookT (keysOf g L) y = if (lookT L y).isSome then g y else none := by
  cases hl : lookT L y with
  | none =>
    refine lookT_none.2 fun q hq e => ?_
    obtain ⟨⟨p, hp, e'⟩, _⟩ := keysOf_mem.1 hq
    exact (lookT_none.1 hl) p hp (e'.trans e)
  | some v =>
    have hm := lookT_mem hl
    show _ = g y
    cases hg : g y with
    | none =>
      refine lookT_none.2 fun q hq e => ?_
      have := (keysOf_mem.1 hq).2
      rw [e, hg] at this
      cases this
    | some u => exact (keysOf_rise h).look (keysOf_mem.2 ⟨⟨_, hm, rfl⟩, hg⟩)
theorem keysOf_same {g : Txt → Option γ} {L : List (Txt × β)} {M : List (Txt × β')} (hL : RiseT L) (hM : RiseT M) (h1 : ∀ y, (g y).isSome = true → (lookT L y).isSome = true) (h2 : ∀ y, (g y).isSome = true → (lookT M y).isSome = true) : keysOf g L = keysOf g M := by
  refine RiseT.ext (keysOf_rise hL) (keysOf_rise hM) fun y => ?_
  rw [keysOf_look hL, keysOf_look hM]
  cases hg : g y with
  | none => simp
  | some u => rw [if_pos (h1 y (by rw [hg]; rfl)), if_pos (h2 y (by rw [hg]; rfl))]
end

/-- The plain view's lists beside what the program's view holds. -/
structure Link (S : VS) (a b d : TL) : Prop where
  ok : S.Ok
  was : a = S.W
  rb : RiseT b
  now : ∀ y, lookT b y = S.now y
  rd : RiseT d
  diff : ∀ y, S.now y ≠ lookT S.W y → (lookT d y).isSome = true
section
variable {S : VS} {a b d : TL}
def putG (S : VS) (y : Txt) : Option (List Int) := match S.now y with
  | some v => if lookT S.W y = some v then none else some v
  | none => none
def delG (S : VS) (y : Txt) : Option Unit := match S.now y with
  | some v => none
  | none => if (lookT S.W y).isSome then some () else none
theorem putG_diff {y : Txt} (h : (putG S y).isSome = true) : S.now y ≠ lookT S.W y := by
  intro e
  unfold putG at h
  rw [e] at h
  cases hw : lookT S.W y with
  | none => rw [hw] at h; cases h
  | some v => rw [hw] at h; simp at h
theorem delG_diff {y : Txt} (h : (delG S y).isSome = true) : S.now y ≠ lookT S.W y := by
  intro e
  unfold delG at h
  rw [e] at h
  cases hw : lookT S.W y with
  | none => rw [hw] at h; simp at h
  | some v => rw [hw] at h; cases h
theorem diff_C {y : Txt} (h : S.now y ≠ lookT S.W y) : (lookT S.C y).isSome = true := by
  unfold VS.now at h
  cases hc : lookT S.C y with
  | none => rw [hc] at h; exact absurd rfl h
  | some c => rfl
theorem now_C (h : S.Ok) {p : Txt × Option (List Int)} (hp : p ∈ S.C) : S.now p.1 = p.2 := by
  unfold VS.now
  rw [h.c.look (x := p.1) (v := p.2) hp]
theorem puts_G (h : S.Ok) : S.puts = keysOf (putG S) S.C := by
  unfold VS.puts keysOf
  refine fm_congr fun p hp => ?_
  unfold VS.putsF putG
  rw [now_C h hp]
  cases p.2 with
  | none => rfl
  | some v =>
    show (if lookT S.W p.1 = some v then none else some (p.1, v)) = Option.map _ (if lookT S.W p.1 = some v then none else some v)
    split <;> rfl
theorem dels_G (h : S.Ok) : S.dels = (keysOf (delG S) S.C).map fun q => q.1 := by
  unfold VS.dels keysOf
  rw [List.map_filterMap]
  refine fm_congr fun p hp => ?_
  unfold VS.delsF delG
  rw [now_C h hp]
  cases p.2 with
  | some v => rfl
  | none =>
    show (if (lookT S.W p.1).isSome = true then some p.1 else none) = Option.map _ (Option.map _ (if (lookT S.W p.1).isSome = true then some () else none))
    split <;> rfl
theorem Link.puts (h : Link S a b d) : d.filterMap (refPutF a b) = S.puts := by
  rw [puts_G h.ok, ← keysOf_same (g := putG S) h.rd h.ok.c (fun y hy => h.diff y (putG_diff hy)) (fun y hy => diff_C (putG_diff hy))]
  unfold keysOf
  refine fm_congr fun p hp => ?_
  unfold refPutF putG
  rw [h.now, h.was]
  cases S.now p.1 with
  | none => rfl
  | some v =>
    show (if lookT S.W p.1 = some v then none else some (p.1, v)) = Option.map _ (if lookT S.W p.1 = some v then none else some v)
    split <;> rfl
theorem Link.dels (h : Link S a b d) : d.filterMap (refDelF a b) = S.dels := by
  rw [dels_G h.ok, ← keysOf_same (g := delG S) h.rd h.ok.c (fun y hy => h.diff y (delG_diff hy)) (fun y hy => diff_C (delG_diff hy))]
  unfold keysOf
  rw [List.map_filterMap]
  refine fm_congr fun p hp => ?_
  unfold refDelF delG
  rw [h.now, h.was]
  cases S.now p.1 with
  | some v => rfl
  | none =>
    show (if (lookT S.W p.1).isSome = true then some p.1 else none) = Option.map _ (Option.map _ (if (lookT S.W p.1).isSome = true then some () else none))
    split <;> rfl
theorem Link.nowL (h : Link S a b d) : b = S.nowL := RiseT.ext h.rb h.ok.nowL fun y => (h.now y).trans (h.ok.look y).symm
theorem Link.start : Link ⟨[], []⟩ [] [] [] := ⟨⟨List.Pairwise.nil, List.Pairwise.nil⟩, rfl, List.Pairwise.nil, fun y => rfl, List.Pairwise.nil, fun y h => absurd rfl h⟩
theorem Link.put (h : Link S a b d) (x : Txt) (v : List Int) : Link (S.put x v) a (setT b x v) (setT d x []) := by
  refine ⟨h.ok.put x v, h.was, h.rb.set x v, fun y => ?_, h.rd.set x [], fun y hy => ?_⟩
  · rw [lookT_setT h.rb, h.ok.now_put, h.now]
  · rw [lookT_setT h.rd]
    by_cases e : x = y
    · rw [if_pos e]; rfl
    · rw [if_neg e]
      rw [h.ok.now_put, if_neg e] at hy
      exact h.diff y hy
theorem Link.del (h : Link S a b d) (x : Txt) : Link (S.del x) a (if (lookT b x).isSome then delT b x else b) (if (lookT b x).isSome then setT d x [] else d) := by
  cases hb : lookT b x with
  | none =>
    have hn : S.now x = none := (h.now x).symm.trans hb
    refine ⟨h.ok.del x, h.was, h.rb, fun y => ?_, h.rd, fun y hy => ?_⟩
    · show lookT b y = _
      rw [h.ok.now_del, h.now]
      by_cases e : x = y
      · rw [if_pos e, ← e, hn]
      · rw [if_neg e]
    · rw [h.ok.now_del] at hy
      by_cases e : x = y
      · rw [if_pos e] at hy
        exact h.diff y (by rw [← e, hn, e]; exact hy)
      · rw [if_neg e] at hy
        exact h.diff y hy
  | some u =>
    refine ⟨h.ok.del x, h.was, h.rb.del x, fun y => ?_, h.rd.set x [], fun y hy => ?_⟩
    · show lookT (delT b x) y = _
      rw [lookT_delT, h.ok.now_del, h.now]
    · show (lookT (setT d x []) y).isSome = true
      rw [lookT_setT h.rd]
      by_cases e : x = y
      · rw [if_pos e]; rfl
      · rw [if_neg e]
        rw [h.ok.now_del, if_neg e] at hy
        exact h.diff y hy
theorem Link.commit (h : Link S a b d) : Link S.commit b b [] := by
  have e : b = S.commit.W := h.nowL.trans h.ok.commitW.symm
  exact ⟨h.ok.commit, e, h.rb, fun y => by rw [e]; rfl, List.Pairwise.nil, fun y hy => absurd rfl hy⟩
theorem Link.abort (h : Link S a b d) : Link S.abort a a [] :=
  ⟨h.ok.abort, h.was, by rw [h.was]; exact h.ok.w, fun y => by rw [h.was]; rfl, List.Pairwise.nil, fun y hy => absurd rfl hy⟩
end

end Go.Proofs.YtlcbmobdokicaaaGreat
