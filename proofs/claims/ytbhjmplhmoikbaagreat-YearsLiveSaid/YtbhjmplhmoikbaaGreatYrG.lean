/-
  Both views behind j calls of Put, Set, Open, Shut: what each round does, and what both tell of years. No condition beyond what each says.
-/
import Derived.Test.YtbhjmplhmoikbaaGreatSeqG
import Derived.Test.YtbhjmplhmoikbaaGreatYrE
import Derived.Test.YtbhjmplhmoikbaaGreatYearsStayW
namespace Go.Proofs.YtbhjmplhmoikbaaGreat
open Go.RowKit Go.Maps
set_option maxRecDepth 100000
set_option linter.unusedVariables false

theorem SmallS.scanOk {S : VS} {a b d : TL} {j : Nat} (h : SmallS S a b d j) (hj : j ≤ 32767) : ScanOk S :=
  ⟨by rw [h.w]; decide, (fun p hp => by rw [h.w] at hp; cases hp), Nat.le_trans h.c hj, fun p hp => Nat.le_trans (h.kc p hp) (by decide)⟩
section
variable {w w0 : World} {v m c x B j : Nat}
/-- Open at both; block g (a caller's own) stands. -/
theorem SeqInv.openY (h : SeqInv w0 B j v m c x w) (hj : j ≤ 100) (hB : B ≤ w.heap.size) (n : Int) (hn : -9223372036854775808 ≤ n ∧ n ≤ 9223372036854775807) {o : Obj} :
    ∃ k : Int, Calls Tryz.prog 18 #[.pointer (some ⟨v, 0, none⟩), .int .i64 n] (w.alloc o).drew fun e w1 => e = .returned (.int .i64 k) ∧ w1.heap[w.heap.size]? = some o ∧
      Calls Tryz.prog 19 #[.pointer (some ⟨x, 0, none⟩), .int .i64 n] w1 fun e w2 => e = .returned (.int .i64 k) ∧ w2.heap[w.heap.size]? = some o ∧ SeqInv w0 B (j + 1) v m c x w2 ∧ w.heap.size ≤ w2.heap.size := by
  obtain ⟨X, p, q, r, S, a, b, d, hb0, hs, hX, hw0⟩ := h
  have hba : RowKit.Below w.heap.size w (w.alloc o).drew := ((RowKit.Below.refl _ _).alloc (Nat.le_refl _) _).drew
  have hb := hb0.below hba
  have hw := hw0.trans (hba.mono hB)
  have hBa := Nat.le_trans hB hba.size
  have hgX : ¬ X w.heap.size := fun hx => Nat.lt_irrefl _ (hb0.view.lt _ hx)
  have hgo : (w.alloc o).drew.heap[w.heap.size]? = some o := heap_alloc_new w o
  have hgl : w.heap.size < (w.alloc o).drew.heap.size := by show w.heap.size < (w.alloc o).heap.size; simp
  refine ⟨openE (S.now (yKey n)) n, (yOpen_any hb.view n hn (Nat.lt_of_le_of_lt hs.c (by unfold maxLen; omega))).mono ?_⟩
  rintro e1 w1 ⟨rfl, hv1, ht1⟩
  have ht1' : Touch (fun k => k = m ∨ k = c) (w.alloc o).drew w1 := ⟨ht1.os, ht1.tape, ht1.output, ht1.size, fun k hk hn => ht1.block k hk fun e => hn (.inr e)⟩
  have hb1 : RowKit.Below B (w.alloc o).drew w1 := ht1.below (fun k hk => by rw [hk]; exact hX _ hb.view.xc) hBa
  have hg1 : w1.heap[w.heap.size]? = some o := (ht1.block w.heap.size hgl fun e => hgX (e ▸ hb.view.xc)).trans hgo
  refine ⟨rfl, hg1, (ryOpen_any (hb.afterView ht1') (Nat.le_trans hs.b (by omega)) (Nat.le_trans hs.d (by omega)) n hn).mono ?_⟩
  rintro e2 w2 ⟨rfl, hr2, ht2⟩
  have hg2 : w2.heap[w.heap.size]? = some o := (ht2.block w.heap.size (Nat.lt_of_lt_of_le hgl ht1.size) fun e => by rcases e with e | e; exact hgX (e ▸ hb.ref.now.own); exact hgX (e ▸ hb.ref.told.own)).trans hg1
  have hbel : RowKit.Below B (w.alloc o).drew w2 := hb1.trans (ht2.below (fun k hk => by rcases hk with e | e; rw [e]; exact hX _ hb.ref.now.own; rw [e]; exact hX _ hb.ref.told.own) (Nat.le_trans hBa ht1.size))
  have hnow : lookT b (yKey n) = S.now (yKey n) := hb.link.now _
  have hsz : w.heap.size ≤ w2.heap.size := Nat.le_trans hba.size (Nat.le_trans ht1.size ht2.size)
  rw [hnow] at hr2
  refine ⟨by rw [hnow], hg2, ?_, hsz⟩
  unfold VS.open_ at hv1
  have hx : (yKey n).length ≤ 60 := by rw [yKey_len]; omega
  generalize openE (S.now (yKey n)) n = k at hv1 hr2
  by_cases e0 : k = 0
  · rw [if_pos e0] at hv1
    rw [if_pos e0, if_pos e0] at hr2
    exact ⟨X, p, q, r, _, _, _, _, hb.turn hv1 hr2 ht1' ht2 (hb.link.put _ _), hs.put hx _, hX, hw.trans hbel⟩
  · rw [if_neg e0] at hv1
    rw [if_neg e0, if_neg e0] at hr2
    exact ⟨X, p, q, r, _, _, _, _, hb.turn hv1 hr2 ht1' ht2 hb.link, hs.more, hX, hw.trans hbel⟩
/-- Shut at both; block g (a caller's own) stands. -/
theorem SeqInv.shutY (h : SeqInv w0 B j v m c x w) (hj : j ≤ 100) (hB : B ≤ w.heap.size) (n : Int) (hn : -9223372036854775808 ≤ n ∧ n ≤ 9223372036854775807) {o : Obj} :
    ∃ k : Int, Calls Tryz.prog 20 #[.pointer (some ⟨v, 0, none⟩), .int .i64 n] (w.alloc o).drew fun e w1 => e = .returned (.int .i64 k) ∧ w1.heap[w.heap.size]? = some o ∧
      Calls Tryz.prog 21 #[.pointer (some ⟨x, 0, none⟩), .int .i64 n] w1 fun e w2 => e = .returned (.int .i64 k) ∧ w2.heap[w.heap.size]? = some o ∧ SeqInv w0 B (j + 1) v m c x w2 ∧ w.heap.size ≤ w2.heap.size := by
  obtain ⟨X, p, q, r, S, a, b, d, hb0, hs, hX, hw0⟩ := h
  have hba : RowKit.Below w.heap.size w (w.alloc o).drew := ((RowKit.Below.refl _ _).alloc (Nat.le_refl _) _).drew
  have hb := hb0.below hba
  have hw := hw0.trans (hba.mono hB)
  have hBa := Nat.le_trans hB hba.size
  have hgX : ¬ X w.heap.size := fun hx => Nat.lt_irrefl _ (hb0.view.lt _ hx)
  have hgo : (w.alloc o).drew.heap[w.heap.size]? = some o := heap_alloc_new w o
  have hgl : w.heap.size < (w.alloc o).drew.heap.size := by show w.heap.size < (w.alloc o).heap.size; simp
  refine ⟨chkE (stV (S.now (yKey n))), (yShut_any hb.view n hn (Nat.lt_of_le_of_lt hs.c (by unfold maxLen; omega))).mono ?_⟩
  rintro e1 w1 ⟨rfl, hv1, ht1⟩
  have ht1' : Touch (fun k => k = m ∨ k = c) (w.alloc o).drew w1 := ⟨ht1.os, ht1.tape, ht1.output, ht1.size, fun k hk hn => ht1.block k hk fun e => hn (.inr e)⟩
  have hb1 : RowKit.Below B (w.alloc o).drew w1 := ht1.below (fun k hk => by rw [hk]; exact hX _ hb.view.xc) hBa
  have hg1 : w1.heap[w.heap.size]? = some o := (ht1.block w.heap.size hgl fun e => hgX (e ▸ hb.view.xc)).trans hgo
  refine ⟨rfl, hg1, (ryShut_any (hb.afterView ht1') (Nat.le_trans hs.b (by omega)) (Nat.le_trans hs.d (by omega)) n hn).mono ?_⟩
  rintro e2 w2 ⟨rfl, hr2, ht2⟩
  have hg2 : w2.heap[w.heap.size]? = some o := (ht2.block w.heap.size (Nat.lt_of_lt_of_le hgl ht1.size) fun e => by rcases e with e | e; exact hgX (e ▸ hb.ref.now.own); exact hgX (e ▸ hb.ref.told.own)).trans hg1
  have hbel : RowKit.Below B (w.alloc o).drew w2 := hb1.trans (ht2.below (fun k hk => by rcases hk with e | e; rw [e]; exact hX _ hb.ref.now.own; rw [e]; exact hX _ hb.ref.told.own) (Nat.le_trans hBa ht1.size))
  have hnow : lookT b (yKey n) = S.now (yKey n) := hb.link.now _
  have hsz : w.heap.size ≤ w2.heap.size := Nat.le_trans hba.size (Nat.le_trans ht1.size ht2.size)
  rw [hnow] at hr2
  refine ⟨by rw [hnow], hg2, ?_, hsz⟩
  unfold VS.shut at hv1
  have hx : (yKey n).length ≤ 60 := by rw [yKey_len]; omega
  generalize stV (S.now (yKey n)) = k at hv1 hr2
  by_cases e0 : k = 1
  · rw [if_pos e0] at hv1
    rw [if_pos e0, if_pos e0] at hr2
    exact ⟨X, p, q, r, _, _, _, _, hb.turn hv1 hr2 ht1' ht2 (hb.link.put _ _), hs.put hx _, hX, hw.trans hbel⟩
  · rw [if_neg e0] at hv1
    rw [if_neg e0, if_neg e0] at hr2
    exact ⟨X, p, q, r, _, _, _, _, hb.turn hv1 hr2 ht1' ht2 hb.link, hs.more, hX, hw.trans hbel⟩
/-- What both tell of a year. -/
theorem SeqInv.tellY (h : SeqInv w0 B j v m c x w) (hj : j ≤ 100) (n : Int) (hn : -9223372036854775808 ≤ n ∧ n ≤ 9223372036854775807) :
    ∃ s k : Int, (∀ W, RowKit.Below w.heap.size w W → Calls Tryz.prog 22 #[.pointer (some ⟨v, 0, none⟩), .int .i64 n] W fun e1 w1 => e1 = .returned (.int .i64 s) ∧ RowKit.Below W.heap.size W w1) ∧
      (∀ W, RowKit.Below w.heap.size w W → Calls Tryz.prog 23 #[.pointer (some ⟨x, 0, none⟩), .int .i64 n] W fun e1 w1 => e1 = .returned (.int .i64 s) ∧ RowKit.Below W.heap.size W w1) ∧
      (∀ W, RowKit.Below w.heap.size w W → Calls Tryz.prog 24 #[.pointer (some ⟨v, 0, none⟩), .int .i64 n] W fun e1 w1 => e1 = .returned (.int .i64 k) ∧ RowKit.Below W.heap.size W w1) ∧
      ∀ W, RowKit.Below w.heap.size w W → Calls Tryz.prog 25 #[.pointer (some ⟨x, 0, none⟩), .int .i64 n] W fun e1 w1 => e1 = .returned (.int .i64 k) ∧ RowKit.Below W.heap.size W w1 := by
  obtain ⟨X, p, q, r, S, a, b, d, hb, hs, hX, hw⟩ := h
  have hnow : lookT b (yKey n) = S.now (yKey n) := hb.link.now _
  refine ⟨stV (S.now (yKey n)), chkE (stV (S.now (yKey n))), fun W hW => yState_any (hb.view.below hW) n hn, fun W hW => ?_, fun W hW => yCheck_any (hb.view.below hW) n hn, fun W hW => ?_⟩
  · have := ryState_any (hb.ref.below hW) (Nat.le_trans hs.b (by omega)) n hn
    rwa [hnow] at this
  · have := ryCheck_any (hb.ref.below hW) (Nat.le_trans hs.b (by omega)) n hn
    rwa [hnow] at this
/-- Both lists of years are one. -/
theorem SeqInv.allY (h : SeqInv w0 B j v m c x w) (hj : j ≤ 100) :
    ∃ (l : List Int) (N : Nat), N ≤ 4294967296 ∧ (∀ W, RowKit.Below w.heap.size w W → Calls Tryz.prog 29 #[.pointer (some ⟨v, 0, none⟩)] W fun e1 w1 => ∃ A c, e1 = .returned (.slice A N c) ∧ RI w1 w1.heap.size A N l ∧ RowKit.Below W.heap.size W w1) ∧
      ∀ W, RowKit.Below w.heap.size w W → Calls Tryz.prog 30 #[.pointer (some ⟨x, 0, none⟩)] W fun e1 w1 => ∃ A c, e1 = .returned (.slice A N c) ∧ RI w1 w1.heap.size A N l ∧ RowKit.Below W.heap.size W w1 := by
  obtain ⟨X, p, q, r, S, a, b, d, hb, hs, hX, hw⟩ := h
  have hsc := hs.scanOk (by omega)
  have he : (b.filter fun q => (tx [89]).isPrefixOf q.1) = S.scan (tx [89]) := by unfold VS.scan; rw [hb.link.nowL]
  refine ⟨yearsK ((S.scan (tx [89])).map kvOf), (yearsK ((S.scan (tx [89])).map kvOf)).length, Nat.le_trans (yearsK_len _) (by rw [List.length_map]; have := scan_len S (tx [89]); have := hsc.wf; have := hsc.cf; omega), fun W hW => (yAll_any (hb.view.below hW) hsc).mono ?_, fun W hW => (ryAll_any (hb.ref.below hW) (Nat.le_trans hs.b (by omega)) hb.link.rb).mono ?_⟩
  · rintro e w' ⟨A, k, rfl, _, hr, hbb⟩
    exact ⟨A, k, rfl, hr, hbb⟩
  · rintro e w' ⟨u, rfl, ho, hbb⟩
    rw [he] at ho
    obtain ⟨A, k, rfl, _⟩ := int_own_shape ho
    exact ⟨A, k, rfl, (RI.of_own ho (yearsK_ints kv_bytes)).1, hbb⟩
end
end Go.Proofs.YtbhjmplhmoikbaaGreat
