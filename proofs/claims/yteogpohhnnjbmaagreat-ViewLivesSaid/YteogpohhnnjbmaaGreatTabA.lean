/-
  The document's plain table as it lies in memory: a list of pairs behind a pointer; what keeps it; its Get by contract. Conditions: fewer than 2^32 pairs, texts and values of at most 2^47 bytes.
-/
import Derived.Test.YteogpohhnnjbmaaGreatViewN
namespace Go.Proofs.YteogpohhnnjbmaaGreat
open Go.RowKit Go.Maps
set_option maxRecDepth 100000
set_option linter.unusedVariables false

/-- A slice of pairs that reads as L, apart from the blocks X. -/
def SPs (w : World) (X : Nat → Prop) (A : Option Addr) (n c : Nat) (L : TL) : Prop :=
  n ≤ c ∧ L.length = n ∧ (0 < n → ∃ b off, A = some ⟨b, off, none⟩ ∧ b < w.heap.size ∧ ¬ X b ∧ ∀ j x, L[j]? = some x → ∃ u1 u2, w.cell? ⟨b, off + j * 2, none⟩ = some u1 ∧ w.cell? ⟨b, off + j * 2 + 1, none⟩ = some u2 ∧ SV w X u1 (by_ x.1) ∧ SV w X u2 x.2)
/-- A table at block t. -/
def TabAt (w : World) (X : Nat → Prop) (t : Nat) (L : TL) : Prop :=
  ∃ A n c, w.heap[t]? = some (.cells #[.slice A n c] 42 (0, 0)) ∧ X t ∧ SPs w X A n c L
section
variable {w w' : World} {X X' : Nat → Prop} {A : Option Addr} {n c t : Nat} {L : TL}
theorem SPs.keep (h : SPs w X A n c L) (hs : w.heap.size ≤ w'.heap.size) (hX : ∀ k, k < w.heap.size → ¬ X k → ¬ X' k) (hk : ∀ k, k < w.heap.size → ¬ X k → w'.heap[k]? = w.heap[k]?) : SPs w' X' A n c L := by
  obtain ⟨h1, h2, h3⟩ := h
  refine ⟨h1, h2, fun hn => ?_⟩
  obtain ⟨b, off, e, hb, hx, hp⟩ := h3 hn
  refine ⟨b, off, e, Nat.lt_of_lt_of_le hb hs, hX b hb hx, fun j x hj => ?_⟩
  obtain ⟨u1, u2, c1, c2, s1, s2⟩ := hp j x hj
  have e1 := hk b hb hx
  exact ⟨u1, u2, (World.cell?_of_block (a := ⟨b, off + j * 2, none⟩) e1).trans c1, (World.cell?_of_block (a := ⟨b, off + j * 2 + 1, none⟩) e1).trans c2, s1.keep hs hX hk, s2.keep hs hX hk⟩
theorem SPs.nil_ (w : World) (X : Nat → Prop) (A : Option Addr) (c : Nat) : SPs w X A 0 c [] := ⟨Nat.zero_le _, rfl, fun h => absurd h (by omega)⟩
theorem TabAt.lt (h : TabAt w X t L) : t < w.heap.size := by
  obtain ⟨A, n, c, h1, _⟩ := h
  exact (Array.getElem?_eq_some_iff.1 h1).1
theorem TabAt.keep (h : TabAt w X t L) (hs : w.heap.size ≤ w'.heap.size) (hX : ∀ k, k < w.heap.size → ¬ X k → ¬ X' k) (hx : ∀ k, X k → X' k) (hk : ∀ k, k < w.heap.size → ¬ X k → w'.heap[k]? = w.heap[k]?) (ht : w'.heap[t]? = w.heap[t]?) : TabAt w' X' t L := by
  obtain ⟨A, n, c, h1, h2, h3⟩ := h
  exact ⟨A, n, c, ht.trans h1, hx t h2, h3.keep hs hX hk⟩
theorem TabAt.below (h : TabAt w X t L) (hb : RowKit.Below w.heap.size w w') : TabAt w' X t L := h.keep hb.size (fun _ _ h => h) (fun _ h => h) (fun k hk _ => hb.block k hk) (hb.block t h.lt)
theorem SPs.below (h : SPs w X A n c L) (hb : RowKit.Below w.heap.size w w') : SPs w' X A n c L := h.keep hb.size (fun _ _ h => h) (fun k hk _ => hb.block k hk)
theorem SPs.pairs (h : SPs w X A n c L) : RPairs w w.heap.size A n (L.map kvOf) := by
  obtain ⟨h1, h2, h3⟩ := h
  refine ⟨by rw [List.length_map]; exact h2, fun hn => ?_⟩
  obtain ⟨b, off, e, hb, _, hp⟩ := h3 hn
  refine ⟨b, off, e, hb, fun j x hx => ?_⟩
  rw [List.getElem?_map] at hx
  obtain ⟨q, hq, rfl⟩ := Option.map_eq_some_iff.1 hx
  obtain ⟨u1, u2, c1, c2, ⟨ka, kn, kc, rfl, a1, a2, a3, _⟩, ⟨va, vn, vc, rfl, b1, b2, b3, _⟩⟩ := hp j q hq
  exact ⟨ka, kn, kc, va, vn, vc, c1, c2, a3, ⟨a1, by unfold maxLen; omega⟩, b3, ⟨b1, by unfold maxLen; omega⟩⟩
end
theorem lookT_first : ∀ {L : TL} {j : Nat} {x : Txt × List Int} {k : Txt}, L[j]? = some x → x.1 = k → (∀ (a : Nat) (y : Txt × List Int), a < j → L[a]? = some y → y.1 ≠ k) → lookT L k = some x.2
  | [], j, x, k, h, _, _ => by simp at h
  | p :: L, 0, x, k, h, e, _ => by
    obtain rfl : p = x := by simpa using h
    unfold lookT
    rw [if_pos e]
  | p :: L, j + 1, x, k, h, e, hno => by
    unfold lookT
    rw [if_neg (hno 0 p (by omega) rfl)]
    exact lookT_first (by simpa using h) e (fun a y ha hy => hno (a + 1) y (by omega) (by simpa using hy))
section
variable {w w' : World} {X X' : Nat → Prop} {t : Nat} {L : TL}
set_option maxHeartbeats 3200000 in
theorem tabGet_any (h : TabAt w X t L) (hN : L.length ≤ 4294967296) {A : Option Addr} {n k B : Nat} {l : List Int} (hr : RB w B A n l) (hB : B ≤ w.heap.size) :
    Calls Tryz.prog 32 #[.pointer (some ⟨t, 0, none⟩), .slice A n k] w fun e w' => ∃ u, e = .returned (.tuple #[u, .bool (lookT L (tx l)).isSome]) ∧ SV w' (fun k => k < w.heap.size) u ((lookT L (tx l)).getD []) ∧ RowKit.Below w.heap.size w w' := by
  have HT := Lib.hid h
  have HR := Lib.hid hr
  obtain ⟨TA, N, TC, ht, _, hs⟩ := h
  have hc0 : w.cell? ⟨t, 0, none⟩ = some (.slice TA N TC) := by rw [cell_of_row w t 0 _ _ (0, 0) ht]; rfl
  have hNL : L.length = N := hs.2.1
  have HS := Lib.hid hs
  rw [hNL] at hN
  have htl := HT.out.lt
  have HC := Lib.hid (And.intro hc0 (And.intro htl hNL))
  clear hr ht hs hc0 htl hNL
  go_enter Tryz.func32, Tryz.ntmps32
  go_wp2_with fail
  go_loopw [6] (fun i wr => ∃ j : Nat, j ≤ N ∧ i = .int .i64 j ∧ Hid ((∀ (a : Nat) (y : Txt × List Int), a < j → L[a]? = some y → y.1 ≠ tx l) ∧ RowKit.Below w.heap.size w wr)) (fun i _ => N - (intOf i).toNat)
  case atStart => exact ⟨0, Nat.zero_le _, rfl, Lib.hid ⟨fun a y h => absurd h (Nat.not_lt_zero _), RowKit.Below.refl _ _⟩⟩
  case round =>
    obtain ⟨j, hj, rfl, HM⟩ := hrel
    obtain ⟨hno, hb⟩ := HM.out
    have c0 := (hb.cell (p := ⟨t, 0, none⟩) HC.out.2.1).trans HC.out.1
    by_cases hlt : j < N
    · obtain ⟨x, hx⟩ : ∃ x, L[j]? = some x := ⟨_, List.getElem?_eq_getElem (by rw [HC.out.2.2]; exact hlt)⟩
      obtain ⟨_, _, hp⟩ := HS.out.below hb
      obtain ⟨b, off, rfl, hbl, _, hp⟩ := hp (by omega)
      obtain ⟨u1, u2, c1, c2, s1, s2⟩ := hp j x hx
      obtain ⟨A1, n1, k1, rfl, _, _, z1, _⟩ := s1
      obtain ⟨A2, n2, k2, rfl, _, z4, z2, _⟩ := s2
      have v1 : ∀ q, (convert 45 9 (.slice A1 n1 k1)).run Tryz.prog (wr.drewN q) = .ok (encStr x.1) (wr.drewN q) := fun q => by
        have : (convert 45 9 (.slice A1 n1 k1)).run Tryz.prog (wr.drewN q) = .ok (encStr (tx (by_ x.1))) (wr.drewN q) := (z1.keep (w' := wr.drewN q) fun b o _ => rfl).conv k1
        rwa [tx_by] at this
      have v2 : ∀ q, (convert 45 9 (.slice A n k)).run Tryz.prog (wr.drewN q) = .ok (encStr (tx l)) (wr.drewN q) := fun q => ((HR.out.below (hb.mono hB)).keep (w' := wr.drewN q) fun b o _ => rfl).conv k
      have hj64 : (j : Int) < (N : Int) := by omega
      have HX := Lib.hid (And.intro hx (And.intro z2 (And.intro z4 (And.intro hno hb))))
      by_cases he : x.1 = tx l
      · have hq : (x.1 == tx l) = true := by simpa using he
        have HE := Lib.hid he
        clear hx z1 z2 z4 hno hb hp he
        go_wp2_with fail
        go_quiet (fail)
        go_wp2_with (at_builtin; refine wpList_append_bytes rfl _ _ rfl wr.heap.size (.slice none 0 0) 0 [] rfl ⟨rfl, .inl ⟨rfl, rfl⟩⟩ wr.heap.size A2 n2 k2 x.2 rfl (HX.out.2.1.keep (w' := wr.drewN nq) fun _ _ _ => rfl) (by have := HX.out.2.2.1; omega) (Nat.le_refl _) ?_; intro v9 w9 hown9 _ hb9)
        simp only [Nat.zero_add, List.nil_append] at hown9
        go_ret2
        obtain ⟨x1, x2, x3, x4, x5⟩ := HX.out
        have hlk : lookT L (tx l) = some x.2 := lookT_first x1 HE.out x4
        rw [hlk]
        have hb5 : RowKit.Below w.heap.size w (wr.drewN nq) := ⟨x5.os, x5.tape, x5.output, x5.size, x5.block⟩
        exact ⟨_, rfl, SV.of_own hown9 x2.bytes x3 (fun k hk => Nat.lt_of_lt_of_le hk x5.size), hb5.trans (hb9.mono x5.size)⟩
      · have hq : (x.1 == tx l) = false := by simpa using he
        have HN := Lib.hid (show ∀ (a : Nat) (y : Txt × List Int), a < j + 1 → L[a]? = some y → y.1 ≠ tx l from fun a y ha hy => by
          by_cases e : a = j
          · rw [e, hx] at hy; cases hy; exact he
          · exact hno a y (by omega) hy)
        have HB := Lib.hid (show ∀ q, RowKit.Below w.heap.size w (wr.drewN q) from fun q => ⟨hb.os, hb.tape, hb.output, hb.size, hb.block⟩)
        clear hx z1 z2 z4 hno hb hp he
        go_wp2_with fail
        go_quiet (fail)
        go_wp2
        go_roundw
        case rel => exact ⟨j + 1, by omega, by go_num, Lib.hid ⟨HN.out, HB.out _⟩⟩
        case measure => simp [intOf]; omega
    · obtain rfl : j = N := by omega
      have hnone : lookT L (tx l) = none := lookT_none.2 fun p hp => by
        obtain ⟨a, ha, rfl⟩ := List.getElem_of_mem hp
        exact hno a _ (by have := HC.out.2.2; omega) (List.getElem?_eq_getElem ha)
      have HB := Lib.hid (And.intro hb hnone)
      clear hno hb hnone
      go_wp2
      go_ret2
      rw [HB.out.2]
      exact ⟨_, rfl, SV.nil_ _ _ _, HB.out.1⟩
end

end Go.Proofs.YteogpohhnnjbmaaGreat
