/-
  Contracts of keys.Key and of the plain Key: the tag, and of any ints the first 7, held, in 4 bytes each, in a slice of their own; nothing that was there is written. No condition but that lengths are ints.
-/
import Derived.Test.YtbhjmplhmoikbaaGreatFldA
import Derived.Test.YtbhjmplhmoikbaaGreatKeyP
namespace Go.Proofs.YtbhjmplhmoikbaaGreat
open Go.RowKit
set_option maxRecDepth 100000
set_option linter.unusedVariables false

theorem one_own (w : World) (t : Int) (e : TypeId) : (w.alloc (.cells #[.int .u8 t] e)).ownsRow w.heap.size e 1 (.slice (some ⟨w.heap.size, 0, none⟩) 1 1) 1 ([t].map (Value.int .u8)) :=
  ⟨rfl, .inr ⟨w.heap.size, 1, _, rfl, Nat.le_refl _, heap_alloc_new _ _, Nat.le_refl _, by unfold maxLen; omega, rfl, rfl⟩⟩

theorem OwnB.tag_ (w : World) (t : Int) : OwnB w (w.alloc (.cells #[.int .u8 t] 5)) (.slice (some ⟨w.heap.size, 0, none⟩) 1 1) (tagL t []) := ⟨one_own w t 5, (Below.refl _ _).alloc (Nat.le_refl _) _⟩

set_option maxHeartbeats 3200000 in
theorem kKey_any (t : Int) (A : Option Addr) (n c B : Nat) (l : List Int) (w : World) (ht : 0 ≤ t ∧ t < 256) (hr : RI w B A n l) (hB : B ≤ w.heap.size) (hc : n ≤ c) (hm : n ≤ maxLen) :
    Calls Tryz.prog 40 #[.int .u8 t, .slice A n c] w fun e w' => ∃ v, e = .returned v ∧ OwnB w w' v (keyL t l) := by
  unfold maxLen at hm
  have HL := Lib.hid hr.len
  unfold keyL
  obtain ⟨m, HM, HT⟩ : ∃ m : List Int, Hid (∀ i, i < l.length → tagL t (m.take (i + 1)) = tagL t (m.take i) ++ putB (held4 (l[i]?.getD 0)) 4) ∧ Hid (∀ i, (l.take i).map held4 = m.take i) := ⟨l.map held4, Lib.hid (fun i hi => by rw [← List.map_take, ← List.map_take]; exact tagL_step t l i hi), Lib.hid (fun i => List.map_take)⟩
  by_cases h7 : 7 < n
  · rw [HT.out 7]
    have h7c : 7 ≤ c := by omega
    have hmin : min (n : Int) 7 = 7 := by omega
    have hmax : max (7 : Int) 0 = 7 := by omega
    go_enter Tryz.func40, Tryz.ntmps40
    go_wp2
    go_loopw [5, 16] (fun v i wr => ∃ k : Nat, k ≤ 7 ∧ i = .int .i64 k ∧ OwnB w wr v (tagL t (m.take k))) (fun _ i _ => 7 - (intOf i).toNat)
    case atStart => exact ⟨0, Nat.zero_le _, rfl, OwnB.tag_ w t⟩
    case round =>
      obtain ⟨k, hk, rfl, ho⟩ := hrel
      by_cases hlt : k < 7
      · obtain ⟨b, off, rfl, hb, hcell⟩ := hr.2.2 (by omega)
        have hck := (ho.2.cell (p := ⟨b, off + k, none⟩) (Nat.lt_of_lt_of_le hb hB)).trans (hcell k (by omega))
        clear hcell
        obtain ⟨hx0, hx1⟩ := hr.int k
        have hpl : (tagL t (m.take k)).length ≤ 29 := by rw [tagL_length, List.length_take]; omega
        have hst := Lib.hid (HM.out k (by have := HL.out; omega))
        obtain ⟨A', c', rfl, hc', hrd⟩ := ho.read (tagL_bytes ht _)
        generalize l[k]?.getD 0 = x at hck hx0 hx1 hst
        have HO := Lib.hid ho
        have HX := Lib.hid (show 0 ≤ min (max x 0) (4294967295 : Int) ∧ min (max x 0) (4294967295 : Int) < 4294967296 by omega)
        have HH := Lib.hid (show held4 x = min (max x 0) (4294967295 : Int) from rfl)
        have HP := Lib.hid (Put_own _ _ c' wr.heap.size _ (min (max x 0) (4294967295 : Int)) 4 wr hrd (Nat.le_refl _) hc' (by omega) (by omega) (by omega))
        clear ho hrd
        go_wp2_with fail
        refine HP.out.mono ?_
        rintro e w2 ⟨v2, rfl, hown2, hb2⟩
        rw [putR4 _ _ HX.out, ← HH.out, ← hst.out] at hown2
        have HN := Lib.hid (OwnB.of_le (w0 := w) ⟨hown2, hb2⟩ HO.out.2)
        clear hown2 hb2
        go_wp2
        go_roundw
        case rel => exact ⟨k + 1, by omega, by go_num, HN.out⟩
        case measure => simp [intOf]; omega
      · obtain rfl : k = 7 := by omega
        go_wp2
        go_ret
        exact ⟨_, rfl, ho⟩
  · have hmin : min (n : Int) 7 = n := by omega
    have hmax : max (n : Int) 0 = n := by omega
    rw [show l.take 7 = l.take n by rw [List.take_of_length_le (by have := HL.out; omega), List.take_of_length_le (by have := HL.out; omega)], HT.out n]
    go_enter Tryz.func40, Tryz.ntmps40
    go_wp2
    go_loopw [5, 16] (fun v i wr => ∃ k : Nat, k ≤ n ∧ i = .int .i64 k ∧ OwnB w wr v (tagL t (m.take k))) (fun _ i _ => n - (intOf i).toNat)
    case atStart => exact ⟨0, Nat.zero_le _, rfl, OwnB.tag_ w t⟩
    case round =>
      obtain ⟨k, hk, rfl, ho⟩ := hrel
      by_cases hlt : k < n
      · obtain ⟨b, off, rfl, hb, hcell⟩ := hr.2.2 (by omega)
        have hck := (ho.2.cell (p := ⟨b, off + k, none⟩) (Nat.lt_of_lt_of_le hb hB)).trans (hcell k (by omega))
        clear hcell
        obtain ⟨hx0, hx1⟩ := hr.int k
        have hpl : (tagL t (m.take k)).length ≤ 29 := by rw [tagL_length, List.length_take]; omega
        have hst := Lib.hid (HM.out k (by have := HL.out; omega))
        obtain ⟨A', c', rfl, hc', hrd⟩ := ho.read (tagL_bytes ht _)
        generalize l[k]?.getD 0 = x at hck hx0 hx1 hst
        have HO := Lib.hid ho
        have HX := Lib.hid (show 0 ≤ min (max x 0) (4294967295 : Int) ∧ min (max x 0) (4294967295 : Int) < 4294967296 by omega)
        have HH := Lib.hid (show held4 x = min (max x 0) (4294967295 : Int) from rfl)
        have HP := Lib.hid (Put_own _ _ c' wr.heap.size _ (min (max x 0) (4294967295 : Int)) 4 wr hrd (Nat.le_refl _) hc' (by omega) (by omega) (by omega))
        clear ho hrd
        go_wp2_with fail
        refine HP.out.mono ?_
        rintro e w2 ⟨v2, rfl, hown2, hb2⟩
        rw [putR4 _ _ HX.out, ← HH.out, ← hst.out] at hown2
        have HN := Lib.hid (OwnB.of_le (w0 := w) ⟨hown2, hb2⟩ HO.out.2)
        clear hown2 hb2
        go_wp2
        go_roundw
        case rel => exact ⟨k + 1, by omega, by go_num, HN.out⟩
        case measure => simp [intOf]; omega
      · obtain rfl : k = n := by omega
        go_wp2
        go_ret
        exact ⟨_, rfl, ho⟩

set_option maxHeartbeats 3200000 in
theorem rKey_any (t : Int) (A : Option Addr) (n c B : Nat) (l : List Int) (w : World) (ht : 0 ≤ t ∧ t < 256) (hr : RI w B A n l) (hB : B ≤ w.heap.size) (hc : n ≤ c) (hm : n ≤ maxLen) :
    Calls Tryz.prog 51 #[.int .u8 t, .slice A n c] w fun e w' => ∃ v, e = .returned v ∧ OwnB w w' v (keyL t l) := by
  unfold maxLen at hm
  have HL := Lib.hid hr.len
  unfold keyL
  obtain ⟨m, HM, HT⟩ : ∃ m : List Int, Hid (∀ i, i < l.length → tagL t (m.take (i + 1)) = tagL t (m.take i) ++ putB (held4 (l[i]?.getD 0)) 4) ∧ Hid (∀ i, (l.take i).map held4 = m.take i) := ⟨l.map held4, Lib.hid (fun i hi => by rw [← List.map_take, ← List.map_take]; exact tagL_step t l i hi), Lib.hid (fun i => List.map_take)⟩
  by_cases h7 : 7 < n
  · rw [HT.out 7]
    have h7c : 7 ≤ c := by omega
    have hmin : min (n : Int) 7 = 7 := by omega
    have hmax : max (7 : Int) 0 = 7 := by omega
    go_enter Tryz.func51, Tryz.ntmps51
    go_wp2
    go_loopw [5, 6] (fun v i wr => ∃ k : Nat, k ≤ 7 ∧ i = .int .i64 k ∧ OwnB w wr v (tagL t (m.take k))) (fun _ i _ => 7 - (intOf i).toNat)
    case atStart => exact ⟨0, Nat.zero_le _, rfl, OwnB.tag_ w t⟩
    case round =>
      obtain ⟨k, hk, rfl, ho⟩ := hrel
      by_cases hlt : k < 7
      · obtain ⟨b, off, rfl, hb, hcell⟩ := hr.2.2 (by omega)
        have hck := (ho.2.cell (p := ⟨b, off + k, none⟩) (Nat.lt_of_lt_of_le hb hB)).trans (hcell k (by omega))
        clear hcell
        obtain ⟨hx0, hx1⟩ := hr.int k
        have hpl : (tagL t (m.take k)).length ≤ 29 := by rw [tagL_length, List.length_take]; omega
        have hst := Lib.hid (HM.out k (by have := HL.out; omega))
        obtain ⟨A', c', rfl, hc', hrd⟩ := ho.read (tagL_bytes ht _)
        generalize l[k]?.getD 0 = x at hck hx0 hx1 hst
        have HO := Lib.hid ho
        have HX := Lib.hid (show 0 ≤ min (max x 0) (4294967295 : Int) ∧ min (max x 0) (4294967295 : Int) < 4294967296 by omega)
        have HH := Lib.hid (show held4 x = min (max x 0) (4294967295 : Int) from rfl)
        have HP := Lib.hid (refPut_own _ _ c' wr.heap.size _ (min (max x 0) (4294967295 : Int)) 4 wr hrd (Nat.le_refl _) (by omega) (by omega) (by omega))
        clear ho hrd
        go_wp2_with fail
        refine HP.out.mono ?_
        rintro e w2 ⟨v2, rfl, hown2, hb2⟩
        rw [putR4 _ _ HX.out, ← HH.out, ← hst.out] at hown2
        have HN := Lib.hid (OwnB.of_le (w0 := w) ⟨hown2, hb2⟩ HO.out.2)
        clear hown2 hb2
        go_wp2
        go_roundw
        case rel => exact ⟨k + 1, by omega, by go_num, HN.out⟩
        case measure => simp [intOf]; omega
      · obtain rfl : k = 7 := by omega
        go_wp2
        go_ret
        exact ⟨_, rfl, ho⟩
  · have hmin : min (n : Int) 7 = n := by omega
    have hmax : max (n : Int) 0 = n := by omega
    rw [show l.take 7 = l.take n by rw [List.take_of_length_le (by have := HL.out; omega), List.take_of_length_le (by have := HL.out; omega)], HT.out n]
    go_enter Tryz.func51, Tryz.ntmps51
    go_wp2
    go_loopw [5, 6] (fun v i wr => ∃ k : Nat, k ≤ n ∧ i = .int .i64 k ∧ OwnB w wr v (tagL t (m.take k))) (fun _ i _ => n - (intOf i).toNat)
    case atStart => exact ⟨0, Nat.zero_le _, rfl, OwnB.tag_ w t⟩
    case round =>
      obtain ⟨k, hk, rfl, ho⟩ := hrel
      by_cases hlt : k < n
      · obtain ⟨b, off, rfl, hb, hcell⟩ := hr.2.2 (by omega)
        have hck := (ho.2.cell (p := ⟨b, off + k, none⟩) (Nat.lt_of_lt_of_le hb hB)).trans (hcell k (by omega))
        clear hcell
        obtain ⟨hx0, hx1⟩ := hr.int k
        have hpl : (tagL t (m.take k)).length ≤ 29 := by rw [tagL_length, List.length_take]; omega
        have hst := Lib.hid (HM.out k (by have := HL.out; omega))
        obtain ⟨A', c', rfl, hc', hrd⟩ := ho.read (tagL_bytes ht _)
        generalize l[k]?.getD 0 = x at hck hx0 hx1 hst
        have HO := Lib.hid ho
        have HX := Lib.hid (show 0 ≤ min (max x 0) (4294967295 : Int) ∧ min (max x 0) (4294967295 : Int) < 4294967296 by omega)
        have HH := Lib.hid (show held4 x = min (max x 0) (4294967295 : Int) from rfl)
        have HP := Lib.hid (refPut_own _ _ c' wr.heap.size _ (min (max x 0) (4294967295 : Int)) 4 wr hrd (Nat.le_refl _) (by omega) (by omega) (by omega))
        clear ho hrd
        go_wp2_with fail
        refine HP.out.mono ?_
        rintro e w2 ⟨v2, rfl, hown2, hb2⟩
        rw [putR4 _ _ HX.out, ← HH.out, ← hst.out] at hown2
        have HN := Lib.hid (OwnB.of_le (w0 := w) ⟨hown2, hb2⟩ HO.out.2)
        clear hown2 hb2
        go_wp2
        go_roundw
        case rel => exact ⟨k + 1, by omega, by go_num, HN.out⟩
        case measure => simp [intOf]; omega
      · obtain rfl : k = n := by omega
        go_wp2
        go_ret
        exact ⟨_, rfl, ho⟩

end Go.Proofs.YtbhjmplhmoikbaaGreat
