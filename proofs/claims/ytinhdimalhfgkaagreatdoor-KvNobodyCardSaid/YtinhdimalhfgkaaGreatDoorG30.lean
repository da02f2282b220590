/-
  The texts Hash joined. Conditions: those that each part says at its head.
-/
import Derived.Test.YtinhdimalhfgkaaGreatDoorG1
import Derived.Lib.SlBytesConst

/-
  Contracts of hash.Of, hash.Slot and of the plain Of, Slot: for every key, number and depth they answer the same; nothing is written. No condition beyond the key's size.
-/
namespace Go.Proofs.YtinhdimalhfgkaaGreatDoor
open Go.RowKit
set_option maxRecDepth 100000
set_option linter.unusedVariables false

theorem h32_lt {a b : Nat} (ha : a < 4294967296) (hb : b < 4294967296) : a ^^^ b < 4294967296 := Nat.xor_lt_two_pow (n := 32) ha hb
theorem h32_bits (a b : Nat) (ha : a < 4294967296) (hb : b < 4294967296) : bits .xor .u32 (a : Int) (b : Int) = ((a ^^^ b : Nat) : Int) ∧ bits .and .u32 (a : Int) (b : Int) = ((a &&& b : Nat) : Int) := by
  have hw : ∀ n : Int, 0 ≤ n → n < 4294967296 → IntKind.u32.wrap n = n := fun n h0 h1 => by rw [IntKind.wrap_u32]; omega
  have ha' : a % 4294967296 = a := Nat.mod_eq_of_lt ha
  have hb' : b % 4294967296 = b := Nat.mod_eq_of_lt hb
  constructor
  · simp only [bits, BitVec.ofInt_natCast, BitVec.toNat_xor, BitVec.toNat_ofNat]
    rw [show (2 : Nat) ^ IntKind.u32.bits = 4294967296 from rfl, ha', hb']
    exact hw _ (Int.natCast_nonneg _) (by have := h32_lt ha hb; omega)
  · simp only [bits, BitVec.ofInt_natCast, BitVec.toNat_and, BitVec.toNat_ofNat]
    rw [show (2 : Nat) ^ IntKind.u32.bits = 4294967296 from rfl, ha', hb']
    exact hw _ (Int.natCast_nonneg _) (by have := Nat.and_lt_two_pow a (n := 32) (show b < 2 ^ 32 from hb); omega)

/-- A byte's step, and a key's number. -/
def hashB (h c : Nat) : Nat := (h ^^^ c) * 16777619 % 4294967296
def hashL (l : List Int) : Nat := l.foldl (fun h c => hashB h c.toNat) 2166136261
theorem hashB_lt (h c : Nat) : hashB h c < 4294967296 := by
  unfold hashB
  generalize h ^^^ c = x
  omega
theorem hashL_snoc (l : List Int) (x : Int) : hashL (l ++ [x]) = hashB (hashL l) x.toNat := by
  unfold hashL
  rw [List.foldl_append, List.foldl_cons, List.foldl_nil]
theorem hashL_lt (l : List Int) : hashL l < 4294967296 := by
  rcases List.eq_nil_or_concat l with rfl | ⟨k, x, rfl⟩
  · show (2166136261 : Nat) < 4294967296
    omega
  · rw [List.concat_eq_append, hashL_snoc]; exact hashB_lt _ _
theorem hashL_step (l : List Int) (k : Nat) (h : k < l.length) : hashL (l.take (k + 1)) = hashB (hashL (l.take k)) (l[k]?.getD 0).toNat := by
  rw [List.take_succ_eq_append_getElem h, hashL_snoc]
  simp [List.getElem?_eq_getElem h]

set_option maxHeartbeats 400000 in
theorem Of_any (A : Option Addr) (n c B : Nat) (l : List Int) (w : World) (hr : RB w B A n l) (hm : n ≤ maxLen) :
    Calls Tryz.prog 117 #[.slice A n c] w fun e w' => e = .returned (.int .u32 ((hashL l : Nat) : Int)) ∧ w = w' := by
  unfold maxLen at hm
  go_enter Tryz.func117, Tryz.ntmps117
  go_wp2
  go_loop [3, 8] (fun v i => ∃ k : Nat, k ≤ n ∧ i = .int .i64 k ∧ v = .int .u32 ((hashL (l.take k) : Nat) : Int)) (fun _ i => n - (intOf i).toNat)
  case atStart => exact ⟨0, Nat.zero_le _, rfl, rfl⟩
  case round =>
    obtain ⟨k, hk, rfl, rfl⟩ := hrel
    have hsk := hashL_lt (l.take k)
    by_cases hlt : k < n
    · obtain ⟨b, off, rfl, hb, hcell⟩ := hr.at_ (by omega)
      have hck := hcell k hlt
      obtain ⟨hb0, hb1⟩ := hr.bytes.getD k
      have hst := Lib.hid (hashL_step l k (by have := hr.len; omega))
      obtain ⟨x, hx⟩ := Int.eq_ofNat_of_zero_le hb0
      rw [hx] at hck hb1 hst
      clear hcell hx hb0
      have hx256 : x < 256 := by omega
      generalize hashL (l.take k) = s at hsk hst ⊢
      have f1 := (h32_bits s x hsk (by omega)).1
      have hy := h32_lt hsk (show x < 4294967296 by omega)
      have hst2 := Lib.hid (show hashB s x = (s ^^^ x) * 16777619 % 4294967296 by unfold hashB; rfl)
      generalize s ^^^ x = y at f1 hy hst2
      go_wp2
      go_round
      case rel => exact ⟨k + 1, by omega, by go_num, by rw [hst.out]; simp only [Int.toNat_natCast]; rw [hst2.out]; first | rfl | simp⟩
      case measure => simp [intOf]; omega
    · obtain rfl : k = n := by omega
      have hend : l.take k = l := List.take_of_length_le (by have := hr.len; omega)
      rw [hend] at hsk ⊢
      clear hend
      go_wp2
      go_ret
      exact ⟨rfl, rfl⟩

set_option maxHeartbeats 400000 in
theorem refOf_any (A : Option Addr) (n c B : Nat) (l : List Int) (w : World) (hr : RB w B A n l) (hm : n ≤ maxLen) :
    Calls Tryz.prog 58 #[.slice A n c] w fun e w' => e = .returned (.int .u32 ((hashL l : Nat) : Int)) ∧ w = w' := by
  unfold maxLen at hm
  go_enter Tryz.func58, Tryz.ntmps58
  go_wp2
  go_loop [3, 4] (fun v i => ∃ k : Nat, k ≤ n ∧ i = .int .i64 k ∧ v = .int .u32 ((hashL (l.take k) : Nat) : Int)) (fun _ i => n - (intOf i).toNat)
  case atStart => exact ⟨0, Nat.zero_le _, rfl, rfl⟩
  case round =>
    obtain ⟨k, hk, rfl, rfl⟩ := hrel
    have hsk := hashL_lt (l.take k)
    by_cases hlt : k < n
    · obtain ⟨b, off, rfl, hb, hcell⟩ := hr.at_ (by omega)
      have hck := hcell k hlt
      obtain ⟨hb0, hb1⟩ := hr.bytes.getD k
      have hst := Lib.hid (hashL_step l k (by have := hr.len; omega))
      obtain ⟨x, hx⟩ := Int.eq_ofNat_of_zero_le hb0
      rw [hx] at hck hb1 hst
      clear hcell hx hb0
      have hx256 : x < 256 := by omega
      generalize hashL (l.take k) = s at hsk hst ⊢
      have f1 := (h32_bits s x hsk (by omega)).1
      have hy := h32_lt hsk (show x < 4294967296 by omega)
      have hst2 := Lib.hid (show hashB s x = (s ^^^ x) * 16777619 % 4294967296 by unfold hashB; rfl)
      generalize s ^^^ x = y at f1 hy hst2
      go_wp2
      go_round
      case rel => exact ⟨k + 1, by omega, by go_num, by rw [hst.out]; simp only [Int.toNat_natCast]; rw [hst2.out]; first | rfl | simp⟩
      case measure => simp [intOf]; omega
    · obtain rfl : k = n := by omega
      have hend : l.take k = l := List.take_of_length_le (by have := hr.len; omega)
      rw [hend] at hsk ⊢
      clear hend
      go_wp2
      go_ret
      exact ⟨rfl, rfl⟩

/-- A depth, held. -/
def heldD (d : Int) : Nat := (min (max d 0) 30).toNat
/-- A slot. -/
def slotN (h d : Nat) : Nat := h % 2 ^ d

theorem held_neg {d : Int} (h : d < 0) : heldD d = 0 := by unfold heldD; omega
theorem held_big {d : Int} (h : 30 < d) : heldD d = 30 := by unfold heldD; omega
theorem held_nat {k : Nat} (h : k ≤ 30) : heldD (k : Int) = k := by unfold heldD; omega
theorem held_le (d : Int) : heldD d ≤ 30 := by unfold heldD; omega
theorem pow_le30 {k : Nat} (h : k ≤ 30) : 0 < 2 ^ k ∧ 2 ^ k ≤ 1073741824 := ⟨Nat.two_pow_pos k, by have := Nat.pow_le_pow_right (n := 2) (by decide) h; omega⟩

theorem slot_and (h k : Nat) (hh : h < 4294967296) (hk : k ≤ 30) : wrap64 (bits .and .u32 (h : Int) ((((2 ^ k - 1 : Nat) : Int)))) = ((slotN h k : Nat) : Int) := by
  obtain ⟨p0, p1⟩ := pow_le30 hk
  rw [(h32_bits h (2 ^ k - 1) hh (by omega)).2, Nat.and_two_pow_sub_one_eq_mod]
  have : h % 2 ^ k < 2 ^ k := Nat.mod_lt _ p0
  unfold slotN wrap64
  omega

set_option maxHeartbeats 400000 in
theorem Slot_any (h : Nat) (d : Int) (hh : h < 4294967296) (w : World) :
    Calls Tryz.prog 116 #[.int .u32 (h : Int), .int .i64 d] w fun e w' => e = .returned (.int .i64 ((slotN h (heldD d) : Nat) : Int)) ∧ w = w' := by
  rcases Int.lt_or_le d 0 with hd | hd
  · have hf := slot_and h 0 hh (by decide)
    rw [held_neg hd]
    generalize slotN h 0 = r at hf ⊢
    have hm : ¬ (30 : Int) < 0 := by decide
    go_enter Tryz.func116, Tryz.ntmps116
    go_wp2
    go_ret
    exact ⟨by rw [← hf]; rfl, rfl⟩
  · rcases Int.lt_or_le 30 d with hd2 | hd2
    · have hf := slot_and h 30 hh (by decide)
      rw [held_big hd2]
      generalize slotN h 30 = r at hf ⊢
      go_enter Tryz.func116, Tryz.ntmps116
      go_wp2
      go_ret
      exact ⟨by rw [← hf]; rfl, rfl⟩
    · obtain ⟨k, rfl⟩ := Int.eq_ofNat_of_zero_le hd
      have hk : k ≤ 30 := by omega
      have hf := slot_and h k hh hk
      rw [held_nat hk]
      obtain ⟨p0, p1⟩ := pow_le30 hk
      have e1 : ((2 ^ k - 1 : Nat) : Int) = ((2 : Int) ^ k - 1) % 4294967296 := by
        have : ((2 ^ k : Nat) : Int) = (2 : Int) ^ k := by simp
        rw [← this]; omega
      rw [e1] at hf
      clear e1
      have HF := Lib.hid hf
      clear hf
      generalize slotN h k = r at HF ⊢
      go_enter Tryz.func116, Tryz.ntmps116
      go_wp2
      go_ret
      exact ⟨by rw [← HF.out]; rfl, rfl⟩

set_option maxHeartbeats 400000 in
theorem hashRefSlot_any (h : Nat) (d : Int) (hh : h < 4294967296) (w : World) :
    Calls Tryz.prog 57 #[.int .u32 (h : Int), .int .i64 d] w fun e w' => e = .returned (.int .i64 ((slotN h (heldD d) : Nat) : Int)) ∧ w = w' := by
  have HH := held_le d
  have hdn : heldD d = (min (max d 0) 30).toNat := rfl
  have HR := Lib.hid (show ((slotN h (heldD d) : Nat) : Int) = (h : Int) % ((2 ^ heldD d : Nat) : Int) by unfold slotN; omega)
  generalize slotN h (heldD d) = r at HR ⊢
  generalize heldD d = q at HH hdn HR
  go_enter Tryz.func57, Tryz.ntmps57
  go_wp2
  go_loop [5, 6] (fun v i => ∃ k : Nat, k ≤ q ∧ i = .int .i64 k ∧ v = .int .i64 ((2 ^ k : Nat) : Int)) (fun _ i => 30 - (intOf i).toNat)
  case atStart => exact ⟨0, Nat.zero_le _, rfl, rfl⟩
  case round =>
    obtain ⟨k, hk, rfl, rfl⟩ := hrel
    obtain ⟨p0, p1⟩ := pow_le30 (k := k) (by omega)
    have hs := Lib.hid (show 2 ^ (k + 1) = 2 ^ k * 2 from Nat.pow_succ ..)
    by_cases hlt : k < q
    · have h1 : (k : Int) < d := by omega
      have h2 : (k : Int) < 30 := by omega
      clear hdn
      generalize 2 ^ k = m at p0 p1 hs ⊢
      go_wp2
      go_round
      case rel => exact ⟨k + 1, by omega, by go_num, by rw [hs.out]; first | rfl | simp⟩
      case measure => simp [intOf]; omega
    · obtain rfl : k = q := by omega
      clear hs
      generalize 2 ^ k = m at p0 p1 HR ⊢
      have hm0 : ¬ (m : Int) = 0 := by omega
      rcases Int.lt_or_le k d with hd3 | hd2
      rotate_left
      · clear hdn
        go_wp2
        go_ret
        rw [HR.out]
        exact ⟨rfl, rfl⟩
      · have hd2 : ¬ (k : Int) < 30 := by omega
        clear hdn
        go_wp2
        go_ret
        rw [HR.out]
        exact ⟨rfl, rfl⟩

theorem known_hash_nil : hashL [] = 2166136261 := rfl
theorem known_hash_a : hashL [97] = 3826002220 := by decide +kernel
theorem known_slot : slotN 13 (heldD 2) = 1 := by decide +kernel
theorem of_nil (w : World) : Calls Tryz.prog 117 #[.slice none 0 0] w fun e w' => e = .returned (.int .u32 2166136261) ∧ w = w' := by
  have h := Of_any none 0 0 0 [] w RB.nil_ (Nat.zero_le _)
  rw [known_hash_nil] at h
  exact h
theorem of_a (A : Option Addr) (n c B : Nat) (w : World) (hr : RB w B A n [97]) (hm : n ≤ maxLen) : Calls Tryz.prog 117 #[.slice A n c] w fun e w' => e = .returned (.int .u32 3826002220) ∧ w = w' := by
  have h := Of_any A n c B _ w hr hm
  rw [known_hash_a] at h
  exact h
theorem slot_known (w : World) : Calls Tryz.prog 116 #[.int .u32 13, .int .i64 2] w fun e w' => e = .returned (.int .i64 1) ∧ w = w' := by
  have h := Slot_any 13 2 (by decide) w
  rw [known_slot] at h
  exact h

/-- One bit more. -/
theorem slotN_more (h d : Nat) : slotN h (d + 1) = slotN h d ∨ slotN h (d + 1) = slotN h d + 2 ^ d := by
  unfold slotN
  rw [Nat.pow_succ, Nat.mod_mul]
  rcases Nat.mod_two_eq_zero_or_one (h / 2 ^ d) with e | e <;> rw [e]
  · left; omega
  · right; omega
theorem slotN_lt (h d : Nat) : slotN h d < 2 ^ d := Nat.mod_lt _ (Nat.two_pow_pos d)

end Go.Proofs.YtinhdimalhfgkaaGreatDoor
