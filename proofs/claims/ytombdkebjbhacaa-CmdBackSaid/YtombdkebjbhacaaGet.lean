/-
  Contracts of num.Get and of the plain Get: for any slice of bytes, any place and any size they answer the number of these bytes, or which refusal; nothing is written. Conditions: what every call has (lengths of slices are ints).
-/
import Derived.Test.YtombdkebjbhacaaBase
import Derived.Test.YtombdkebjbhacaaNumA
import Derived.Test.YtombdkebjbhacaaNumP
namespace Go.Proofs.Ytombdkebjbhacaa
open Go.RowKit
set_option maxRecDepth 100000
set_option linter.unusedVariables false

/-- What Get answers: the number, and which refusal. -/
def getR (l : List Int) (a s : Int) : Int × Int :=
  if sizeB s = true ∧ 0 ≤ a then (if a > (l.length : Int) - s then (0, 3) else (numOf ((l.drop a.toNat).take s.toNat), 0)) else (0, 1)


set_option maxHeartbeats 400000 in
theorem Get_ok (A : Option Addr) (n c B : Nat) (l : List Int) (at_ : Nat) (size : Nat) (w : World) (hr : RB w B A n l) (hc : n ≤ c) (hm : n ≤ maxLen) (hs : sizeB (size : Int) = true) (hat : at_ + size ≤ n) :
    Calls Try.prog 39 #[.slice A n c, .int .i64 (at_ : Int), .int .i64 (size : Int)] w fun e w' => e = .returned (.tuple #[.int .i64 (numOf ((l.drop at_).take size)), .int .i64 0]) ∧ w = w' := by
  unfold maxLen at hm
  have hsz : 1 ≤ size ∧ size ≤ 8 := by rcases size_cases hs with h | h | h | h <;> omega
  obtain ⟨hsz1, hsz8⟩ := hsz
  obtain ⟨b, off, rfl, hb, hcell⟩ := hr.at_ (by omega)
  have HC := Lib.hid hcell
  have HS := Lib.hid hs
  clear hcell hs
  have k1 : decide ((at_ : Int) < 0) = false := by simp
  have k2 : decide ((at_ : Int) > (n : Int) - size) = false := by simp; omega
  go_enter Try.func39, Try.ntmps39
  go_wp2_with (go_at_call 37; refine (isSize_yes _ _ HS.out).mono ?_; rintro e w' ⟨rfl, rfl⟩)
  go_loop [8, 31] (fun x i => ∃ k : Nat, k ≤ size ∧ i = .int .i64 k ∧ x = .int .i64 (numOf ((l.drop at_).take k))) (fun _ i => size - (intOf i).toNat)
  case atStart => exact ⟨0, Nat.zero_le _, rfl, rfl⟩
  case round =>
    obtain ⟨k, hk, rfl, rfl⟩ := hrel
    by_cases hlt : k < size
    · have hcell : w.cell? ⟨b, off + at_ + k, none⟩ = some (.int .u8 (l[at_ + k]?.getD 0)) := by rw [Nat.add_assoc]; exact HC.out (at_ + k) (by omega)
      have hbd := hr.bytes.getD (at_ + k)
      obtain ⟨hb0, hb1⟩ := hbd
      have hst := Lib.hid (numOf_step l at_ k (by have := hr.len; omega))
      have hbig : k < at_ + size - at_ := by omega
      go_wp2
      go_round
      case rel => exact ⟨k + 1, by omega, by go_num, by rw [hst.out]; rfl⟩
      case measure => simp [intOf]; omega
    · have hnlt : ¬ (k < size) := hlt
      go_wp2
      go_ret2
      obtain rfl : k = size := by omega
      exact ⟨rfl, rfl⟩

set_option maxHeartbeats 400000 in
theorem Get_short (A : Option Addr) (n c : Nat) (at_ s : Int) (w : World) (hm : n ≤ maxLen) (hs : sizeB s = true) (ha : 0 ≤ at_) (hat : at_ > (n : Int) - s) :
    Calls Try.prog 39 #[.slice A n c, .int .i64 at_, .int .i64 s] w fun e w' => e = .returned (.tuple #[.int .i64 0, .int .i64 3]) ∧ w = w' := by
  unfold maxLen at hm
  have hsz : 1 ≤ s ∧ s ≤ 8 := by rcases size_cases hs with h | h | h | h <;> omega
  obtain ⟨hsz1, hsz8⟩ := hsz
  have HS := Lib.hid hs
  have k1 : decide (at_ < 0) = false := by simp; omega
  have k2 : decide (at_ > (n : Int) - s) = true := by simp; omega
  clear hs hat
  go_enter Try.func39, Try.ntmps39
  go_wp2_with (go_at_call 37; refine (isSize_yes _ _ HS.out).mono ?_; rintro e w' ⟨rfl, rfl⟩)
  go_ret2
  exact ⟨rfl, rfl⟩

set_option maxHeartbeats 400000 in
theorem Get_arg (A : Option Addr) (n c : Nat) (at_ s : Int) (w : World) (h : sizeB s = false ∨ at_ < 0) :
    Calls Try.prog 39 #[.slice A n c, .int .i64 at_, .int .i64 s] w fun e w' => e = .returned (.tuple #[.int .i64 0, .int .i64 1]) ∧ w = w' := by
  by_cases hs : sizeB s = true
  · have ha : at_ < 0 := by
      rcases h with h | h
      · rw [hs] at h; cases h
      · exact h
    have k1 : decide (at_ < 0) = true := by simp [ha]
    have HS := Lib.hid hs
    clear hs h ha
    go_enter Try.func39, Try.ntmps39
    go_wp2_with (go_at_call 37; refine (isSize_yes _ _ HS.out).mono ?_; rintro e w' ⟨rfl, rfl⟩)
    go_ret2
    exact ⟨rfl, rfl⟩
  · have hs' : sizeB s = false := by simpa using hs
    have HS := Lib.hid hs'
    clear hs hs' h
    go_enter Try.func39, Try.ntmps39
    go_wp2_with (go_at_call 37; refine (isSize_no _ _ HS.out).mono ?_; rintro e w' ⟨rfl, rfl⟩)
    go_ret2
    exact ⟨rfl, rfl⟩

theorem Get_any (A : Option Addr) (n c B : Nat) (l : List Int) (at_ s : Int) (w : World) (hr : RB w B A n l) (hc : n ≤ c) (hm : n ≤ maxLen) :
    Calls Try.prog 39 #[.slice A n c, .int .i64 at_, .int .i64 s] w fun e w' => e = .returned (.tuple #[.int .i64 (getR l at_ s).1, .int .i64 (getR l at_ s).2]) ∧ w = w' := by
  unfold getR
  by_cases hs : sizeB s = true ∧ 0 ≤ at_
  · rw [if_pos hs]
    obtain ⟨h1, h2⟩ := hs
    rw [hr.len]
    by_cases hat : at_ > (n : Int) - s
    · rw [if_pos hat]
      exact Get_short A n c at_ s w hm h1 h2 hat
    · rw [if_neg hat]
      obtain ⟨a, rfl⟩ := Int.eq_ofNat_of_zero_le h2
      obtain ⟨z, rfl⟩ := Int.eq_ofNat_of_zero_le (show 0 ≤ s by rcases size_cases h1 with h | h | h | h <;> omega)
      exact Get_ok A n c B l a z w hr hc hm h1 (by omega)
  · rw [if_neg hs]
    refine Get_arg A n c at_ s w ?_
    by_cases h1 : sizeB s = true
    · right
      by_cases h2 : 0 ≤ at_
      · exact absurd ⟨h1, h2⟩ hs
      · omega
    · left; simpa using h1

set_option maxHeartbeats 400000 in
theorem refGet_ok (A : Option Addr) (n c B : Nat) (l : List Int) (at_ : Nat) (size : Nat) (w : World) (hr : RB w B A n l) (hc : n ≤ c) (hm : n ≤ maxLen) (hs : sizeB (size : Int) = true) (hat : at_ + size ≤ n) :
    Calls Try.prog 36 #[.slice A n c, .int .i64 (at_ : Int), .int .i64 (size : Int)] w fun e w' => e = .returned (.tuple #[.int .i64 (numOf ((l.drop at_).take size)), .int .i64 0]) ∧ w = w' := by
  unfold maxLen at hm
  have hsz : 1 ≤ size ∧ size ≤ 8 := by rcases size_cases hs with h | h | h | h <;> omega
  obtain ⟨hsz1, hsz8⟩ := hsz
  obtain ⟨b, off, rfl, hb, hcell⟩ := hr.at_ (by omega)
  have HC := Lib.hid hcell
  have HS := Lib.hid hs
  clear hcell hs
  have k1 : decide ((at_ : Int) < 0) = false := by simp
  have k2 : decide ((at_ : Int) > (n : Int) - size) = false := by simp; omega
  go_enter Try.func36, Try.ntmps36
  go_wp2_with (go_at_call 40; refine (sized_yes _ _ HS.out).mono ?_; rintro e w' ⟨rfl, rfl⟩)
  go_loop [8, 9] (fun x i => ∃ k : Nat, k ≤ size ∧ i = .int .i64 k ∧ x = .int .i64 (numOf ((l.drop at_).take k))) (fun _ i => size - (intOf i).toNat)
  case atStart => exact ⟨0, Nat.zero_le _, rfl, rfl⟩
  case round =>
    obtain ⟨k, hk, rfl, rfl⟩ := hrel
    by_cases hlt : k < size
    · have hcell : w.cell? ⟨b, off + (at_ + k), none⟩ = some (.int .u8 (l[at_ + k]?.getD 0)) := by exact HC.out (at_ + k) (by omega)
      have hbd := hr.bytes.getD (at_ + k)
      obtain ⟨hb0, hb1⟩ := hbd
      have hst := Lib.hid (numOf_step l at_ k (by have := hr.len; omega))
      have hbig : at_ + k < n := by omega
      go_wp2
      go_round
      case rel => exact ⟨k + 1, by omega, by go_num, by rw [hst.out]; rfl⟩
      case measure => simp [intOf]; omega
    · have hnlt : ¬ (k < size) := hlt
      go_wp2
      go_ret2
      obtain rfl : k = size := by omega
      exact ⟨rfl, rfl⟩

set_option maxHeartbeats 400000 in
theorem refGet_short (A : Option Addr) (n c : Nat) (at_ s : Int) (w : World) (hm : n ≤ maxLen) (hs : sizeB s = true) (ha : 0 ≤ at_) (hat : at_ > (n : Int) - s) :
    Calls Try.prog 36 #[.slice A n c, .int .i64 at_, .int .i64 s] w fun e w' => e = .returned (.tuple #[.int .i64 0, .int .i64 3]) ∧ w = w' := by
  unfold maxLen at hm
  have hsz : 1 ≤ s ∧ s ≤ 8 := by rcases size_cases hs with h | h | h | h <;> omega
  obtain ⟨hsz1, hsz8⟩ := hsz
  have HS := Lib.hid hs
  have k1 : decide (at_ < 0) = false := by simp; omega
  have k2 : decide (at_ > (n : Int) - s) = true := by simp; omega
  clear hs hat
  go_enter Try.func36, Try.ntmps36
  go_wp2_with (go_at_call 40; refine (sized_yes _ _ HS.out).mono ?_; rintro e w' ⟨rfl, rfl⟩)
  go_ret2
  exact ⟨rfl, rfl⟩

set_option maxHeartbeats 400000 in
theorem refGet_arg (A : Option Addr) (n c : Nat) (at_ s : Int) (w : World) (h : sizeB s = false ∨ at_ < 0) :
    Calls Try.prog 36 #[.slice A n c, .int .i64 at_, .int .i64 s] w fun e w' => e = .returned (.tuple #[.int .i64 0, .int .i64 1]) ∧ w = w' := by
  by_cases hs : sizeB s = true
  · have ha : at_ < 0 := by
      rcases h with h | h
      · rw [hs] at h; cases h
      · exact h
    have k1 : decide (at_ < 0) = true := by simp [ha]
    have HS := Lib.hid hs
    clear hs h ha
    go_enter Try.func36, Try.ntmps36
    go_wp2_with (go_at_call 40; refine (sized_yes _ _ HS.out).mono ?_; rintro e w' ⟨rfl, rfl⟩)
    go_ret2
    exact ⟨rfl, rfl⟩
  · have hs' : sizeB s = false := by simpa using hs
    have HS := Lib.hid hs'
    clear hs hs' h
    go_enter Try.func36, Try.ntmps36
    go_wp2_with (go_at_call 40; refine (sized_no _ _ HS.out).mono ?_; rintro e w' ⟨rfl, rfl⟩)
    go_ret2
    exact ⟨rfl, rfl⟩

theorem refGet_any (A : Option Addr) (n c B : Nat) (l : List Int) (at_ s : Int) (w : World) (hr : RB w B A n l) (hc : n ≤ c) (hm : n ≤ maxLen) :
    Calls Try.prog 36 #[.slice A n c, .int .i64 at_, .int .i64 s] w fun e w' => e = .returned (.tuple #[.int .i64 (getR l at_ s).1, .int .i64 (getR l at_ s).2]) ∧ w = w' := by
  unfold getR
  by_cases hs : sizeB s = true ∧ 0 ≤ at_
  · rw [if_pos hs]
    obtain ⟨h1, h2⟩ := hs
    rw [hr.len]
    by_cases hat : at_ > (n : Int) - s
    · rw [if_pos hat]
      exact refGet_short A n c at_ s w hm h1 h2 hat
    · rw [if_neg hat]
      obtain ⟨a, rfl⟩ := Int.eq_ofNat_of_zero_le h2
      obtain ⟨z, rfl⟩ := Int.eq_ofNat_of_zero_le (show 0 ≤ s by rcases size_cases h1 with h | h | h | h <;> omega)
      exact refGet_ok A n c B l a z w hr hc hm h1 (by omega)
  · rw [if_neg hs]
    refine refGet_arg A n c at_ s w ?_
    by_cases h1 : sizeB s = true
    · right
      by_cases h2 : 0 ≤ at_
      · exact absurd ⟨h1, h2⟩ hs
      · omega
    · left; simpa using h1

end Go.Proofs.Ytombdkebjbhacaa
