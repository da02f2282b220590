/-
  Contracts of field.Pack and of the plain Pack: of any ints the first 15 in 8 bytes each, in a slice of their own; nothing that was there is written. No condition but that lengths are ints.
-/
import Derived.Test.YtbhjmplhmoikbaaGreatFldP
namespace Go.Proofs.YtbhjmplhmoikbaaGreat
open Go.RowKit
set_option maxRecDepth 100000
set_option linter.unusedVariables false

/-- A slice of bytes of the call's own that reads as l. -/
def OwnB (w0 w' : World) (v : Value) (l : List Int) : Prop := w'.ownsRow w0.heap.size 5 1 v l.length (l.map (Value.int .u8)) ∧ Below w0.heap.size w0 w'

theorem OwnB.nil_ (w : World) : OwnB w w (.slice none 0 0) [] := ⟨World.ownsRow_nil _ _ _ _, Below.refl _ _⟩

theorem OwnB.read {w0 w' : World} {v : Value} {l : List Int} (h : OwnB w0 w' v l) (hl : AllBytes l) : ∃ A c, v = .slice A l.length c ∧ l.length ≤ c ∧ RB w' w'.heap.size A l.length l := read_own h.1 hl
theorem OwnB.of_le {w0 w1 w2 : World} {v : Value} {l : List Int} (h : OwnB w1 w2 v l) (hb : Below w0.heap.size w0 w1) : OwnB w0 w2 v l := ⟨own_base_le h.1 hb.size, hb.trans (h.2.mono hb.size)⟩

theorem RI.int {w : World} {B n : Nat} {A : Option Addr} {l : List Int} (h : RI w B A n l) (k : Nat) : -9223372036854775808 ≤ l[k]?.getD 0 ∧ l[k]?.getD 0 ≤ 9223372036854775807 := by
  rcases Nat.lt_or_ge k l.length with hk | hk
  · have e : l[k]?.getD 0 = l[k] := by simp [List.getElem?_eq_getElem hk]
    rw [e]; exact h.2.1 _ (List.getElem_mem hk)
  · have e : l[k]?.getD 0 = 0 := by simp [List.getElem?_eq_none hk]
    rw [e]; omega

set_option maxHeartbeats 1600000 in
theorem fPack_any (A : Option Addr) (n c B : Nat) (l : List Int) (w : World) (hr : RI w B A n l) (hB : B ≤ w.heap.size) (hc : n ≤ c) (hm : n ≤ maxLen) :
    Calls Tryz.prog 71 #[.slice A n c] w fun e w' => ∃ v, e = .returned v ∧ OwnB w w' v (packN 8 (l.take 15)) := by
  unfold maxLen at hm
  have HL := Lib.hid hr.len
  by_cases h15 : 15 < n
  · have h15c : 15 ≤ c := by omega
    have h15i : (15 : Int) < n := by omega
    go_enter Tryz.func71, Tryz.ntmps71
    go_wp2
    go_loopw [3, 12] (fun v i wr => ∃ k : Nat, k ≤ 15 ∧ i = .int .i64 k ∧ OwnB w wr v (packN 8 (l.take k))) (fun _ i _ => 15 - (intOf i).toNat)
    case atStart => exact ⟨0, Nat.zero_le _, rfl, OwnB.nil_ _⟩
    case round =>
      obtain ⟨k, hk, rfl, ho⟩ := hrel
      by_cases hlt : k < 15
      · obtain ⟨b, off, rfl, hb, hcell⟩ := hr.2.2 (by omega)
        have hck := (ho.2.cell (p := ⟨b, off + k, none⟩) (Nat.lt_of_lt_of_le hb hB)).trans (hcell k (by omega))
        clear hcell
        obtain ⟨hx0, hx1⟩ := hr.int k
        obtain ⟨A', c', rfl, hc', hrd⟩ := ho.read (packN_bytes _ _)
        have hpl : (packN 8 (l.take k)).length ≤ 120 := by rw [packN_length, List.length_take]; omega
        have hst := Lib.hid (packN_step 8 l k (by have := HL.out; omega))
        have HO := Lib.hid ho
        have HP := Lib.hid (Put_own _ _ c' _ _ (l[k]?.getD 0) 8 wr hrd (Nat.le_refl _) hc' (by omega) hx0 hx1)
        clear ho hrd
        go_wp2_with fail
        refine HP.out.mono ?_
        rintro e w2 ⟨v2, rfl, hown2, hb2⟩
        rw [putR8, ← hst.out] at hown2
        have HN := Lib.hid (OwnB.of_le (w0 := w) ⟨hown2, hb2⟩ HO.out.2)
        clear hown2 hb2
        go_wp2
        go_roundw
        case rel => exact ⟨k + 1, by omega, by go_num, HN.out⟩
        case measure => simp [intOf]; omega
      · obtain rfl : k = 15 := by omega
        go_wp2
        go_ret
        exact ⟨_, rfl, ho⟩
  · have hle : (n : Int) ≤ 15 := by omega
    rw [show l.take 15 = l.take n by rw [List.take_of_length_le (by have := HL.out; omega), List.take_of_length_le (by have := HL.out; omega)]]
    go_enter Tryz.func71, Tryz.ntmps71
    go_wp2
    go_loopw [3, 12] (fun v i wr => ∃ k : Nat, k ≤ n ∧ i = .int .i64 k ∧ OwnB w wr v (packN 8 (l.take k))) (fun _ i _ => n - (intOf i).toNat)
    case atStart => exact ⟨0, Nat.zero_le _, rfl, OwnB.nil_ _⟩
    case round =>
      obtain ⟨k, hk, rfl, ho⟩ := hrel
      by_cases hlt : k < n
      · obtain ⟨b, off, rfl, hb, hcell⟩ := hr.2.2 (by omega)
        have hck := (ho.2.cell (p := ⟨b, off + k, none⟩) (Nat.lt_of_lt_of_le hb hB)).trans (hcell k (by omega))
        clear hcell
        obtain ⟨hx0, hx1⟩ := hr.int k
        obtain ⟨A', c', rfl, hc', hrd⟩ := ho.read (packN_bytes _ _)
        have hpl : (packN 8 (l.take k)).length ≤ 120 := by rw [packN_length, List.length_take]; omega
        have hst := Lib.hid (packN_step 8 l k (by have := HL.out; omega))
        have HO := Lib.hid ho
        have HP := Lib.hid (Put_own _ _ c' _ _ (l[k]?.getD 0) 8 wr hrd (Nat.le_refl _) hc' (by omega) hx0 hx1)
        clear ho hrd
        go_wp2_with fail
        refine HP.out.mono ?_
        rintro e w2 ⟨v2, rfl, hown2, hb2⟩
        rw [putR8, ← hst.out] at hown2
        have HN := Lib.hid (OwnB.of_le (w0 := w) ⟨hown2, hb2⟩ HO.out.2)
        clear hown2 hb2
        go_wp2
        go_roundw
        case rel => exact ⟨k + 1, by omega, by go_num, HN.out⟩
        case measure => simp [intOf]; omega
      · obtain rfl : k = n := by omega
        go_wp2
        go_ret
        exact ⟨_, rfl, ho⟩

set_option maxHeartbeats 1600000 in
theorem rPack_any (A : Option Addr) (n c B : Nat) (l : List Int) (w : World) (hr : RI w B A n l) (hB : B ≤ w.heap.size) (hc : n ≤ c) (hm : n ≤ maxLen) :
    Calls Tryz.prog 72 #[.slice A n c] w fun e w' => ∃ v, e = .returned v ∧ OwnB w w' v (packN 8 (l.take 15)) := by
  unfold maxLen at hm
  have HL := Lib.hid hr.len
  by_cases h15 : 15 < n
  · have h15c : 15 ≤ c := by omega
    have h15i : (15 : Int) < n := by omega
    go_enter Tryz.func72, Tryz.ntmps72
    go_wp2
    go_loopw [3, 4] (fun v i wr => ∃ k : Nat, k ≤ 15 ∧ i = .int .i64 k ∧ OwnB w wr v (packN 8 (l.take k))) (fun _ i _ => 15 - (intOf i).toNat)
    case atStart => exact ⟨0, Nat.zero_le _, rfl, OwnB.nil_ _⟩
    case round =>
      obtain ⟨k, hk, rfl, ho⟩ := hrel
      by_cases hlt : k < 15
      · obtain ⟨b, off, rfl, hb, hcell⟩ := hr.2.2 (by omega)
        have hck := (ho.2.cell (p := ⟨b, off + k, none⟩) (Nat.lt_of_lt_of_le hb hB)).trans (hcell k (by omega))
        clear hcell
        obtain ⟨hx0, hx1⟩ := hr.int k
        obtain ⟨A', c', rfl, hc', hrd⟩ := ho.read (packN_bytes _ _)
        have hpl : (packN 8 (l.take k)).length ≤ 120 := by rw [packN_length, List.length_take]; omega
        have hst := Lib.hid (packN_step 8 l k (by have := HL.out; omega))
        have HO := Lib.hid ho
        have HP := Lib.hid (refPut_own _ _ c' _ _ (l[k]?.getD 0) 8 wr hrd (Nat.le_refl _) (by omega) hx0 hx1)
        clear ho hrd
        go_wp2_with fail
        refine HP.out.mono ?_
        rintro e w2 ⟨v2, rfl, hown2, hb2⟩
        rw [putR8, ← hst.out] at hown2
        have HN := Lib.hid (OwnB.of_le (w0 := w) ⟨hown2, hb2⟩ HO.out.2)
        clear hown2 hb2
        go_wp2
        go_roundw
        case rel => exact ⟨k + 1, by omega, by go_num, HN.out⟩
        case measure => simp [intOf]; omega
      · obtain rfl : k = 15 := by omega
        go_wp2
        go_ret
        exact ⟨_, rfl, ho⟩
  · have hle : (n : Int) ≤ 15 := by omega
    rw [show l.take 15 = l.take n by rw [List.take_of_length_le (by have := HL.out; omega), List.take_of_length_le (by have := HL.out; omega)]]
    go_enter Tryz.func72, Tryz.ntmps72
    go_wp2
    go_loopw [3, 4] (fun v i wr => ∃ k : Nat, k ≤ n ∧ i = .int .i64 k ∧ OwnB w wr v (packN 8 (l.take k))) (fun _ i _ => n - (intOf i).toNat)
    case atStart => exact ⟨0, Nat.zero_le _, rfl, OwnB.nil_ _⟩
    case round =>
      obtain ⟨k, hk, rfl, ho⟩ := hrel
      by_cases hlt : k < n
      · obtain ⟨b, off, rfl, hb, hcell⟩ := hr.2.2 (by omega)
        have hck := (ho.2.cell (p := ⟨b, off + k, none⟩) (Nat.lt_of_lt_of_le hb hB)).trans (hcell k (by omega))
        clear hcell
        obtain ⟨hx0, hx1⟩ := hr.int k
        obtain ⟨A', c', rfl, hc', hrd⟩ := ho.read (packN_bytes _ _)
        have hpl : (packN 8 (l.take k)).length ≤ 120 := by rw [packN_length, List.length_take]; omega
        have hst := Lib.hid (packN_step 8 l k (by have := HL.out; omega))
        have HO := Lib.hid ho
        have HP := Lib.hid (refPut_own _ _ c' _ _ (l[k]?.getD 0) 8 wr hrd (Nat.le_refl _) (by omega) hx0 hx1)
        clear ho hrd
        go_wp2_with fail
        refine HP.out.mono ?_
        rintro e w2 ⟨v2, rfl, hown2, hb2⟩
        rw [putR8, ← hst.out] at hown2
        have HN := Lib.hid (OwnB.of_le (w0 := w) ⟨hown2, hb2⟩ HO.out.2)
        clear hown2 hb2
        go_wp2
        go_roundw
        case rel => exact ⟨k + 1, by omega, by go_num, HN.out⟩
        case measure => simp [intOf]; omega
      · obtain rfl : k = n := by omega
        go_wp2
        go_ret
        exact ⟨_, rfl, ho⟩

end Go.Proofs.YtbhjmplhmoikbaaGreat
