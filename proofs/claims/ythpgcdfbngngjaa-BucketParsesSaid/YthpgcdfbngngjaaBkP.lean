/-
  A bucket's page read again is the bucket; how many pairs a page tells of. Plain facts; no condition beyond what each says.
-/
import Derived.Test.YthpgcdfbngngjaaBkJ
namespace Go.Proofs.Ythpgcdfbngngjaa
open Go.RowKit
set_option maxRecDepth 100000
set_option linter.unusedVariables false

theorem bkGetR_mid (pre suf : List Int) {x : Int} {k : Nat} (hk : rightB x (k : Int) = true) (hx : -9223372036854775808 ≤ x ∧ x ≤ 9223372036854775807) : (getR (pre ++ (putB x k ++ suf)) (pre.length : Int) (k : Int)).1 = x := by
  have hs : sizeB (k : Int) = true := by
    rcases right_size hk with h | h | h | h <;> rw [h] <;> decide
  unfold getR
  rw [if_pos ⟨hs, by omega⟩, if_neg (by simp [putB_length]; omega)]
  show numOf _ = x
  rw [Int.toNat_natCast, Int.toNat_natCast, List.drop_left' rfl, List.take_left' (putB_length x k)]
  have := wrap_putB hk hx.1 hx.2
  rw [Int.toNat_natCast] at this
  exact this

theorem pairL_eq {y : KV} (h1 : y.1.length < 256) (h2 : y.2.length < 256) : pairL y = putB (y.1.length : Int) 1 ++ (putB (y.2.length : Int) 1 ++ (y.1 ++ y.2)) := by
  rw [putB_one (by omega), putB_one (by omega)]
  rfl
/-- A pair at a place of a page. -/
theorem cut_here (pre suf : List Int) {y : KV} (h1 : y.1.length < 256) (h2 : y.2.length < 256) : kN (pre ++ (pairL y ++ suf)) pre.length = y.1.length ∧ vN (pre ++ (pairL y ++ suf)) pre.length = y.2.length ∧ cutK (pre ++ (pairL y ++ suf)) pre.length = y.1 ∧ cutV (pre ++ (pairL y ++ suf)) pre.length = y.2 := by
  have k1 : kN (pre ++ (pairL y ++ suf)) pre.length = y.1.length := by
    unfold kN
    rw [pairL_eq h1 h2, List.append_assoc]
    have := bkGetR_mid pre (putB (y.2.length : Int) 1 ++ (y.1 ++ y.2) ++ suf) (x := (y.1.length : Int)) (k := 1) (right_1 (by omega)) (by omega)
    rw [show ((1 : Nat) : Int) = 1 from rfl] at this
    rw [this, Int.toNat_natCast]
  have k2 : vN (pre ++ (pairL y ++ suf)) pre.length = y.2.length := by
    unfold vN
    rw [pairL_eq h1 h2]
    have := bkGetR_mid (pre ++ putB (y.1.length : Int) 1) ((y.1 ++ y.2) ++ suf) (x := (y.2.length : Int)) (k := 1) (right_1 (by omega)) (by omega)
    rw [show ((1 : Nat) : Int) = 1 from rfl, List.length_append, putB_length] at this
    have e : pre ++ (putB (y.1.length : Int) 1 ++ (putB (y.2.length : Int) 1 ++ (y.1 ++ y.2)) ++ suf) = pre ++ putB (y.1.length : Int) 1 ++ (putB (y.2.length : Int) 1 ++ ((y.1 ++ y.2) ++ suf)) := by simp only [List.append_assoc]
    rw [e, this, Int.toNat_natCast]
  refine ⟨k1, k2, ?_, ?_⟩
  · unfold cutK
    rw [k1]
    have e : pre ++ (pairL y ++ suf) = (pre ++ [(y.1.length : Int), (y.2.length : Int)]) ++ (y.1 ++ (y.2 ++ suf)) := by simp [pairL]
    rw [e, List.drop_left' (by simp; try omega), List.take_left' rfl]
  · unfold cutV
    rw [k1, k2]
    have e : pre ++ (pairL y ++ suf) = (pre ++ [(y.1.length : Int), (y.2.length : Int)] ++ y.1) ++ (y.2 ++ suf) := by simp [pairL]
    rw [e, List.drop_left' (by simp; try omega), List.take_left' rfl]

theorem cuts_back (suf : List Int) (ps : List KV) : ∀ pre : List Int, (∀ y ∈ ps, y.1.length < 256 ∧ y.2.length < 256) → pre.length + szP ps ≤ 240 → cutsL (pre ++ (pairsL ps ++ suf)) ps.length pre.length = ps := by
  induction ps with
  | nil => intro pre _ _; rfl
  | cons y ps ih =>
    intro pre hb hs
    obtain ⟨h1, h2⟩ := hb y List.mem_cons_self
    rw [szP_cons] at hs
    have e : pre ++ (pairsL (y :: ps) ++ suf) = pre ++ (pairL y ++ (pairsL ps ++ suf)) := by simp [pairsL]
    obtain ⟨c1, c2, c3, c4⟩ := cut_here pre (pairsL ps ++ suf) h1 h2
    have hE : cutE (pre ++ (pairL y ++ (pairsL ps ++ suf))) pre.length = (pre ++ pairL y).length := by
      unfold cutE
      rw [c1, c2, List.length_append, pairL_length]
      omega
    rw [e, List.length_cons, cutsL_go (by rw [hE, List.length_append, pairL_length]; omega), c3, c4, hE]
    have := ih (pre ++ pairL y) (fun z hz => hb z (List.mem_cons_of_mem _ hz)) (by rw [List.length_append, pairL_length]; omega)
    rw [List.append_assoc] at this
    rw [this]

theorem page_parts (b : BV) : pageBk b = bkHeadL b ++ (pairsL b.ps ++ List.replicate (240 - (8 + szP b.ps)) 0) := by
  unfold pageBk
  rw [List.append_assoc]
theorem page_cnt {b : BV} (hm : mayBk b = true) : (getR (pageBk b) 6 2).1 = (b.ps.length : Int) := by
  obtain ⟨f1, f2, f3, f4⟩ := mayBk_few hm
  have hl := szP_len b.ps
  have e : pageBk b = (66 :: (putB b.d 1 ++ putB b.x 4)) ++ (putB (b.ps.length : Int) 2 ++ (pairsL b.ps ++ List.replicate (240 - (8 + szP b.ps)) 0)) := by
    rw [page_parts]
    simp [bkHeadL]
  have := bkGetR_mid (66 :: (putB b.d 1 ++ putB b.x 4)) (pairsL b.ps ++ List.replicate (240 - (8 + szP b.ps)) 0) (x := (b.ps.length : Int)) (k := 2) (right_2 (by omega)) (by omega)
  rw [← e] at this
  have e2 : (66 :: (putB b.d 1 ++ putB b.x 4)).length = 6 := by simp [putB_length]
  rw [e2] at this
  exact this
theorem page_d {b : BV} (hm : mayBk b = true) : (getR (pageBk b) 1 1).1 = b.d := by
  obtain ⟨f1, f2, f3, f4⟩ := mayBk_few hm
  have e : pageBk b = [66] ++ (putB b.d 1 ++ (putB b.x 4 ++ putB (b.ps.length : Int) 2 ++ (pairsL b.ps ++ List.replicate (240 - (8 + szP b.ps)) 0))) := by
    rw [page_parts]
    simp [bkHeadL]
  have := bkGetR_mid [66] (putB b.x 4 ++ putB (b.ps.length : Int) 2 ++ (pairsL b.ps ++ List.replicate (240 - (8 + szP b.ps)) 0)) (x := b.d) (k := 1) (right_1 (by omega)) (by omega)
  rw [← e] at this
  exact this
theorem page_x {b : BV} (hm : mayBk b = true) : (getR (pageBk b) 2 4).1 = b.x := by
  obtain ⟨f1, f2, f3, f4⟩ := mayBk_few hm
  have hx : -9223372036854775808 ≤ b.x ∧ b.x ≤ 9223372036854775807 := by
    unfold rightB at f3
    simp at f3
    omega
  have e : pageBk b = (66 :: putB b.d 1) ++ (putB b.x 4 ++ (putB (b.ps.length : Int) 2 ++ (pairsL b.ps ++ List.replicate (240 - (8 + szP b.ps)) 0))) := by
    rw [page_parts]
    simp [bkHeadL]
  have := bkGetR_mid (66 :: putB b.d 1) (putB (b.ps.length : Int) 2 ++ (pairsL b.ps ++ List.replicate (240 - (8 + szP b.ps)) 0)) (x := b.x) (k := 4) f3 hx
  rw [← e] at this
  have e2 : (66 :: putB b.d 1).length = 2 := by simp [putB_length]
  rw [e2] at this
  exact this
/-- A bucket's page read again is the bucket. -/
theorem read_page {b : BV} (hm : mayBk b = true) : readBk (pageBk b) = b := by
  obtain ⟨f1, f2, f3, f4⟩ := mayBk_few hm
  have hc : cntBk (pageBk b) = b.ps.length := by unfold cntBk; rw [page_cnt hm, Int.toNat_natCast]
  unfold readBk
  rw [page_d hm, page_x hm, hc]
  have h8 := cuts_back (List.replicate (240 - (8 + szP b.ps)) 0) b.ps (bkHeadL b) (fun y hy => by
    obtain ⟨k, hk, rfl⟩ := List.getElem_of_mem hy
    obtain ⟨⟨_, p2⟩, p3, _⟩ := pairsB_at f4 (List.getElem?_eq_getElem hk)
    omega) (by rw [bkHeadL_length]; exact f1)
  rw [bkHeadL_length, ← page_parts] at h8
  rw [h8]
theorem parse_page {b : BV} (hm : mayBk b = true) : parseBk (pageBk b) = (b, 0) := by
  have h := read_page hm
  have := parseBk_yes (l := pageBk b) (pageBk_length (mayBk_few hm).1) (by rw [h]; exact hm) (by rw [h])
  rw [h] at this
  exact this
/-- A page that tells of more pairs than there are is none. -/
theorem parse_short {l : List Int} (h : (readBk l).ps.length < cntBk l) : parseBk l = (⟨0, 0, []⟩, 4) := by
  refine parseBk_no (fun hh => ?_)
  have := page_cnt hh.2.1
  rw [hh.2.2] at this
  unfold cntBk at h
  rw [this] at h
  omega
/-- What is read has just this page. -/
theorem parse_back {l : List Int} {b : BV} (h : parseBk l = (b, 0)) : putBk b = (l, 0) := by
  unfold parseBk at h
  split at h
  · rename_i hh
    obtain rfl : readBk l = b := by injection h
    unfold putBk
    rw [if_pos hh.2.1, hh.2.2]
  · injection h with _ h2
    cases h2
end Go.Proofs.Ythpgcdfbngngjaa
