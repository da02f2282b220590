/-
  The texts CrcW, SecP, LayP, RedoP, RedoC joined. Conditions: those that each part says at its head.
-/
import Derived.Test.YtinhdimalhfgkaaGreatDoorG1
import Derived.Test.YtinhdimalhfgkaaGreatDoorG3
import Derived.Test.YtinhdimalhfgkaaGreatDoorG2
import Derived.Test.YtinhdimalhfgkaaGreatDoorRows
import Derived.WalkKit
import Derived.WalkSpells
import Derived.WalkLawsBesides
import Derived.IntWalk
import Derived.Below
import Derived.Lib.Hide

/-
  Contracts of crc.Step, crc.Sum and of the plain Step, Sum: for every sum and byte, and every slice of bytes, they answer the steps bit by bit; nothing is written. Condition: the table that crc.Step reads holds what the program's text lays in it.
-/
namespace Go.Proofs.YtinhdimalhfgkaaGreatDoor
open Go.RowKit
set_option maxRecDepth 100000
set_option linter.unusedVariables false

/-- The table holds what the program's text lays in it. -/
def Tab (w : World) : Prop := ∀ i, i < 16 → w.cell? ⟨1, i, none⟩ = some (.int .u32 ((tab4[i]?.getD 0 : Nat) : Int))
theorem Tab.below {w w' : World} {B : Nat} (h : Tab w) (hb : Below B w w') (hB : 1 < B) : Tab w' := fun i hi => (hb.cell (p := ⟨1, i, none⟩) hB).trans (h i hi)

theorem u32_bits (a b : Nat) (ha : a < 4294967296) (hb : b < 4294967296) : bits .xor .u32 (a : Int) (b : Int) = ((a ^^^ b : Nat) : Int) ∧ bits .and .u32 (a : Int) (b : Int) = ((a &&& b : Nat) : Int) := by
  have hw : ∀ n : Int, 0 ≤ n → n < 4294967296 → IntKind.u32.wrap n = n := fun n h0 h1 => by rw [IntKind.wrap_u32]; omega
  have ha' : a % 4294967296 = a := Nat.mod_eq_of_lt ha
  have hb' : b % 4294967296 = b := Nat.mod_eq_of_lt hb
  constructor
  · simp only [bits, BitVec.ofInt_natCast, BitVec.toNat_xor, BitVec.toNat_ofNat]
    rw [show (2 : Nat) ^ IntKind.u32.bits = 4294967296 from rfl, ha', hb']
    exact hw _ (Int.natCast_nonneg _) (by have := xor_lt ha hb; omega)
  · simp only [bits, BitVec.ofInt_natCast, BitVec.toNat_and, BitVec.toNat_ofNat]
    rw [show (2 : Nat) ^ IntKind.u32.bits = 4294967296 from rfl, ha', hb']
    exact hw _ (Int.natCast_nonneg _) (by have := Nat.and_lt_two_pow a (n := 32) (show b < 2 ^ 32 from hb); omega)

theorem tab4_lt (i : Nat) : tab4[i]?.getD 0 < 4294967296 := by
  rcases Nat.lt_or_ge i 16 with h | h
  · revert h; revert i; decide
  · rw [List.getElem?_eq_none (by simpa [tab4] using h)]; decide

theorem nib_lt {x : Nat} (h : x < 4294967296) : nib x < 4294967296 := xor_lt (by omega) (tab4_lt _)

theorem nib_bits (x : Nat) (h : x < 4294967296) : bits .and .u32 (x : Int) 15 = ((x % 16 : Nat) : Int) ∧ bits .xor .u32 ((x : Int) / 16) ((tab4[x % 16]?.getD 0 : Nat) : Int) = ((nib x : Nat) : Int) := by
  constructor
  · have := (u32_bits x 15 h (by decide)).2
    rw [show x &&& 15 = x % 16 from Nat.and_two_pow_sub_one_eq_mod x 4] at this
    exact this
  · have := (u32_bits (x / 16) _ (by omega) (tab4_lt (x % 16))).1
    rw [← show ((x / 16 : Nat) : Int) = (x : Int) / 16 from by omega]
    exact this

set_option maxHeartbeats 400000 in
theorem Step_any (s c : Nat) (hs : s < 4294967296) (hc : c < 256) (w : World) (ht : Tab w) :
    Calls Tryz.prog 224 #[.int .u32 (s : Int), .int .u8 (c : Int)] w fun e w' => e = .returned (.int .u32 ((stepB s c : Nat) : Int)) ∧ w = w' := by
  rw [stepB_nib]
  have f1 := (u32_bits s c hs (by omega)).1
  have hx : s ^^^ c < 4294967296 := xor_lt hs (by omega)
  generalize s ^^^ c = x at f1 hx ⊢
  obtain ⟨f2, f3⟩ := nib_bits x hx
  have hy := nib_lt hx
  have c1 := ht (x % 16) (Nat.mod_lt _ (by decide))
  generalize nib x = y at f3 hy ⊢
  obtain ⟨f4, f5⟩ := nib_bits y hy
  have c2 := ht (y % 16) (Nat.mod_lt _ (by decide))
  generalize nib y = z at f5 ⊢
  have hi : x % 16 < 16 := Nat.mod_lt _ (by decide)
  have hj : y % 16 < 16 := Nat.mod_lt _ (by decide)
  generalize tab4[x % 16]?.getD 0 = t at c1 f3
  generalize tab4[y % 16]?.getD 0 = u at c2 f5
  generalize x % 16 = i at c1 f2 hi
  generalize y % 16 = j at c2 f4 hj
  clear ht
  go_enter Tryz.func224, Tryz.ntmps224
  go_wp2
  go_ret
  exact ⟨rfl, rfl⟩

/-- Some bits' steps. -/
def bitN (x : Nat) : Nat → Nat | 0 => x | j + 1 => bit1 (bitN x j)
theorem bitN_lt {x : Nat} (h : x < 4294967296) (j : Nat) : bitN x j < 4294967296 := by
  induction j with
  | zero => exact h
  | succ j ih => exact bit1_lt ih
theorem bit1_bits (x : Nat) (h : x < 4294967296) : (x % 2 = 1 → bits .xor .u32 ((x : Int) / 2) 3988292384 = ((bit1 x : Nat) : Int)) ∧ (x % 2 ≠ 1 → (x : Int) / 2 = ((bit1 x : Nat) : Int)) := by
  unfold bit1
  constructor
  · intro h1
    rw [if_pos h1]
    have := (u32_bits (x / 2) 3988292384 (by omega) (by decide)).1
    rw [← show ((x / 2 : Nat) : Int) = (x : Int) / 2 from by omega]
    exact this
  · intro h1
    rw [if_neg h1]
    omega

/-- What a sum is. -/
def sumOf (l : List Int) : Nat := runB 4294967295 (l.map Int.toNat) ^^^ 4294967295

theorem nat_byte {l : List Int} (h : AllBytes l) : ∀ c ∈ l.map Int.toNat, c < 256 := by
  intro c hc
  obtain ⟨x, hx, rfl⟩ := List.mem_map.1 hc
  have := h x hx
  omega
theorem run_step (l : List Int) (k : Nat) (h : k < l.length) : runB 4294967295 ((l.map Int.toNat).take (k + 1)) = stepB (runB 4294967295 ((l.map Int.toNat).take k)) (l[k]?.getD 0).toNat := by
  rw [List.take_succ_eq_append_getElem (by simpa using h)]
  simp [runB, List.getElem?_eq_getElem h]
theorem sum_end (l : List Int) (k : Nat) (h : l.length = k) : runB 4294967295 ((l.map Int.toNat).take k) ^^^ 4294967295 = sumOf l := by
  rw [List.take_of_length_le (by simp; omega)]; rfl

theorem not_bits (s : Nat) (h : s < 4294967296) : bits .xor .u32 IntKind.u32.max (s : Int) = ((s ^^^ 4294967295 : Nat) : Int) ∧ bits .xor .u32 (s : Int) 4294967295 = ((s ^^^ 4294967295 : Nat) : Int) := by
  constructor
  · rw [Nat.xor_comm]
    exact (u32_bits 4294967295 s (by decide) h).1
  · exact (u32_bits s 4294967295 h (by decide)).1

set_option maxHeartbeats 400000 in
theorem Sum_any (A : Option Addr) (n c B : Nat) (l : List Int) (w : World) (hr : RB w B A n l) (hm : n ≤ maxLen) (ht : Tab w) :
    Calls Tryz.prog 197 #[.slice A n c] w fun e w' => e = .returned (.int .u32 ((sumOf l : Nat) : Int)) ∧ w = w' := by
  unfold maxLen at hm
  have hall : ∀ k, runB 4294967295 ((l.map Int.toNat).take k) < 4294967296 := fun k => runB_lt (fun c hc => nat_byte hr.bytes c (List.mem_of_mem_take hc)) (by decide)
  have HA := Lib.hid hall
  clear hall
  go_enter Tryz.func197, Tryz.ntmps197
  go_wp2
  go_loop [3, 8] (fun v i => ∃ k : Nat, k ≤ n ∧ i = .int .i64 k ∧ v = .int .u32 ((runB 4294967295 ((l.map Int.toNat).take k) : Nat) : Int)) (fun _ i => n - (intOf i).toNat)
  case atStart => exact ⟨0, Nat.zero_le _, rfl, rfl⟩
  case round =>
    obtain ⟨k, hk, rfl, rfl⟩ := hrel
    have hsk := HA.out k
    by_cases hlt : k < n
    · obtain ⟨b, off, rfl, hb, hcell⟩ := hr.at_ (by omega)
      have hck := hcell k hlt
      obtain ⟨hb0, hb1⟩ := hr.bytes.getD k
      have hst := Lib.hid (run_step l k (by have := hr.len; omega))
      obtain ⟨x, hx⟩ := Int.eq_ofNat_of_zero_le hb0
      rw [hx] at hck hb1 hst
      clear hcell hx hb0
      have hx256 : x < 256 := by omega
      generalize runB 4294967295 ((l.map Int.toNat).take k) = s at hsk hst ⊢
      go_wp2_with (go_at_call 224; refine (Step_any s x hsk hx256 _ ht).mono ?_; rintro e w' ⟨rfl, rfl⟩)
      go_round
      case rel => exact ⟨k + 1, by omega, by go_num, by rw [hst.out]; simp⟩
      case measure => simp [intOf]; omega
    · obtain rfl : k = n := by omega
      have hend := sum_end l k hr.len
      generalize runB 4294967295 ((l.map Int.toNat).take k) = s at hsk hend ⊢
      obtain ⟨hx1, hx2⟩ := not_bits s hsk
      rw [hend] at hx1 hx2
      have hsg : IntKind.u32.signed = false := rfl
      clear hend
      go_wp2
      go_ret
      exact ⟨rfl, rfl⟩

theorem sumOf_lt {l : List Int} (h : AllBytes l) : sumOf l < 4294967296 := xor_lt (runB_lt (nat_byte h) (by decide)) (by decide)
theorem not_lt {s : Nat} (h : s < 4294967296) : s ^^^ 4294967295 < 4294967296 := xor_lt h (by decide)
theorem sumOf_snoc (l : List Int) (c : Nat) : sumOf (l ++ [(c : Int)]) = stepB (sumOf l ^^^ 4294967295) c ^^^ 4294967295 := by
  have e : sumOf l ^^^ 4294967295 = runB 4294967295 (l.map Int.toNat) := by
    unfold sumOf
    rw [Nat.xor_assoc, Nat.xor_self, Nat.xor_zero]
  rw [e]
  simp [sumOf, runB]

end Go.Proofs.YtinhdimalhfgkaaGreatDoor

/-
  Plain: what a sector of a page is, what a sector's page is, that the one undoes the other, and that a byte that is changed is found. No program; no condition beyond what each says.
-/
namespace Go.Proofs.YtinhdimalhfgkaaGreatDoor
open Go.RowKit
set_option maxRecDepth 100000
set_option linter.unusedVariables false

/-- Numbers that may stand ahead of data. -/
def secR (p s : Int) : Bool := decide (0 ≤ p ∧ p < 4294967296 ∧ 0 ≤ s ∧ s ≤ 4611686018427387904)
/-- What is summed. -/
def secBody (p s : Int) (l : List Int) : List Int := putB p 4 ++ putB s 8 ++ l
/-- The sector of a page. -/
def secL (p s : Int) (l : List Int) : List Int := putB (sumOf (secBody p s l) : Int) 4 ++ secBody p s l
/-- What Pack answers. -/
def packR (p s : Int) (l : List Int) : List Int × Int := if secR p s = true ∧ l.length = 240 then (secL p s l, 0) else ([], 1)
/-- Whether bytes are a sector. -/
def isSec (l : List Int) : Prop := l.length = 256 ∧ numOf (l.take 4) = (sumOf (l.drop 4) : Int) ∧ secR (numOf ((l.drop 4).take 4)) (numOf ((l.drop 8).take 8)) = true
instance (l : List Int) : Decidable (isSec l) := by unfold isSec; infer_instance
/-- What Unpack answers. -/
def unpackR (l : List Int) : Int × Int × List Int × Int := if isSec l then (numOf ((l.drop 4).take 4), numOf ((l.drop 8).take 8), l.drop 16, 0) else (0, 0, [], 4)

theorem secR_right {p s : Int} (h : secR p s = true) : rightB p 4 = true ∧ rightB s 8 = true := by
  have h' := of_decide_eq_true h
  obtain ⟨a, b, c, d⟩ := h'
  exact ⟨by simp [rightB, a, b], by simp [rightB]⟩
theorem sum_right {l : List Int} (h : AllBytes l) : rightB (sumOf l : Int) 4 = true := by
  have := sumOf_lt h
  have b : ((sumOf l : Nat) : Int) < 4294967296 := by omega
  simp [rightB, b]
theorem secR_ints {p s : Int} (h : secR p s = true) : -9223372036854775808 ≤ p ∧ p ≤ 9223372036854775807 ∧ -9223372036854775808 ≤ s ∧ s ≤ 9223372036854775807 := by
  have h' := of_decide_eq_true h
  omega
theorem secBody_bytes (p s : Int) {l : List Int} (h : AllBytes l) : AllBytes (secBody p s l) := (AllBytes.append (putB_bytes _ _) (putB_bytes _ _)).append h
theorem secBody_length (p s : Int) (l : List Int) : (secBody p s l).length = l.length + 12 := by
  simp [secBody, putB_length]; omega
theorem secL_bytes (p s : Int) {l : List Int} (h : AllBytes l) : AllBytes (secL p s l) := AllBytes.append (putB_bytes _ _) (secBody_bytes p s h)
theorem secL_length (p s : Int) (l : List Int) : (secL p s l).length = l.length + 16 := by
  simp [secL, putB_length, secBody_length]; omega
theorem packR_bytes (p s : Int) {l : List Int} (h : AllBytes l) : AllBytes (packR p s l).1 := by
  unfold packR
  split
  · exact secL_bytes p s h
  · exact AllBytes.nil
theorem unpackR_bytes {l : List Int} (h : AllBytes l) : AllBytes (unpackR l).2.2.1 := by
  unfold unpackR
  split
  · exact h.drop 16
  · exact AllBytes.nil

/-- The parts of a sector that was packed. -/
theorem secL_parts (p s : Int) (l : List Int) : (secL p s l).take 4 = putB (sumOf (secBody p s l) : Int) 4 ∧ (secL p s l).drop 4 = secBody p s l ∧ ((secL p s l).drop 4).take 4 = putB p 4 ∧ ((secL p s l).drop 8).take 8 = putB s 8 ∧ (secL p s l).drop 16 = l := by
  have e1 : (secL p s l).drop 4 = secBody p s l := by
    unfold secL
    rw [List.drop_append_of_le_length (by rw [putB_length]; omega), List.drop_of_length_le (by rw [putB_length]; omega), List.nil_append]
  have e2 : (secBody p s l).drop 4 = putB s 8 ++ l := by
    unfold secBody
    rw [List.append_assoc, List.drop_append_of_le_length (by rw [putB_length]; omega), List.drop_of_length_le (by rw [putB_length]; omega), List.nil_append]
  refine ⟨?_, e1, ?_, ?_, ?_⟩
  · unfold secL
    rw [List.take_append_of_le_length (by rw [putB_length]; omega), List.take_of_length_le (by rw [putB_length]; omega)]
  · rw [e1]
    unfold secBody
    rw [List.append_assoc, List.take_append_of_le_length (by rw [putB_length]; omega), List.take_of_length_le (by rw [putB_length]; omega)]
  · rw [show 8 = 4 + 4 from rfl, ← List.drop_drop, e1, e2]
    rw [List.take_append_of_le_length (by rw [putB_length]; omega), List.take_of_length_le (by rw [putB_length]; omega)]
  · rw [show 16 = 4 + (4 + 8) from rfl, ← List.drop_drop, e1, ← List.drop_drop, e2, List.drop_append_of_le_length (by rw [putB_length]; omega), List.drop_of_length_le (by rw [putB_length]; omega), List.nil_append]

/-- What was packed is unpacked. -/
theorem unpack_pack {p s : Int} {l : List Int} (hl : AllBytes l) (h : secR p s = true) (hn : l.length = 240) : unpackR (secL p s l) = (p, s, l, 0) := by
  obtain ⟨e1, e2, e3, e4, e5⟩ := secL_parts p s l
  obtain ⟨r1, r2⟩ := secR_right h
  obtain ⟨b1, b2, b3, b4⟩ := secR_ints h
  have hsum := sumOf_lt (secBody_bytes p s hl)
  have n1 : numOf (putB p 4) = p := wrap_putB r1 b1 b2
  have n2 : numOf (putB s 8) = s := wrap_putB r2 b3 b4
  have n3 : numOf (putB (sumOf (secBody p s l) : Int) 4) = (sumOf (secBody p s l) : Int) := wrap_putB (sum_right (secBody_bytes p s hl)) (by omega) (by omega)
  have hsec : isSec (secL p s l) := ⟨by rw [secL_length, hn], by rw [e1, n3, e2], by rw [e3, e4, n1, n2]; exact h⟩
  unfold unpackR
  rw [if_pos hsec, e3, e4, e5, n1, n2]

theorem putB_numOf4 {l : List Int} (h : AllBytes l) (hn : l.length = 4) : putB (numOf l) 4 = l := by
  match l, hn with
  | [a, b, c, d], _ =>
    have ha := h a (by simp); have hb := h b (by simp); have hc := h c (by simp); have hd := h d (by simp)
    rw [numOf_eq _ h]
    simp only [beOf, List.foldl_cons, List.foldl_nil, putB, List.nil_append, List.cons_append, List.cons.injEq, and_true]
    unfold wrap64
    refine ⟨by omega, by omega, by omega, by omega⟩
theorem putB_numOf8 {l : List Int} (h : AllBytes l) (hn : l.length = 8) : putB (numOf l) 8 = l := by
  match l, hn with
  | [a, b, c, d, e, f, g, i], _ =>
    have ha := h a (by simp); have hb := h b (by simp); have hc := h c (by simp); have hd := h d (by simp)
    have he := h e (by simp); have hf := h f (by simp); have hg := h g (by simp); have hi := h i (by simp)
    rw [numOf_eq _ h]
    simp only [beOf, List.foldl_cons, List.foldl_nil, putB, List.nil_append, List.cons_append, List.cons.injEq, and_true]
    unfold wrap64
    refine ⟨by omega, by omega, by omega, by omega, by omega, by omega, by omega, by omega⟩

/-- What is unpacked is packed as it was. -/
theorem pack_unpack {l : List Int} (hl : AllBytes l) (h : isSec l) : secL (numOf ((l.drop 4).take 4)) (numOf ((l.drop 8).take 8)) (l.drop 16) = l := by
  obtain ⟨hn, hs, hr⟩ := h
  have hb : secBody (numOf ((l.drop 4).take 4)) (numOf ((l.drop 8).take 8)) (l.drop 16) = l.drop 4 := by
    unfold secBody
    rw [putB_numOf4 ((hl.drop 4).take 4) (by simp; omega), putB_numOf8 ((hl.drop 8).take 8) (by simp; omega)]
    rw [List.append_assoc, show l.drop 16 = (l.drop 8).drop 8 from by rw [List.drop_drop], List.take_append_drop, show l.drop 8 = (l.drop 4).drop 4 from by rw [List.drop_drop], List.take_append_drop]
  unfold secL
  rw [hb, ← hs, putB_numOf4 (hl.take 4) (by simp; omega), List.take_append_drop]

theorem sumOf_set_ne {l : List Int} (h : AllBytes l) {i : Nat} (hi : i < l.length) {y : Int} (hy : 0 ≤ y ∧ y < 256) (hne : l[i] ≠ y) : sumOf l ≠ sumOf (l.set i y) := by
  intro e
  unfold sumOf at e
  have e' := xor_right_inj e
  rw [List.map_set] at e'
  refine runB_changed (nat_byte h) (by decide) i (by simpa using hi) y.toNat (by omega) ?_ e'
  rw [List.getElem_map]
  have := h _ (List.getElem_mem hi)
  omega
theorem numOf4_inj {l m : List Int} (hl : AllBytes l) (hm : AllBytes m) (h1 : l.length = 4) (h2 : m.length = 4) (h : numOf l = numOf m) : l = m := by
  rw [← putB_numOf4 hl h1, ← putB_numOf4 hm h2, h]
theorem set_bytes {l : List Int} (h : AllBytes l) (i : Nat) {y : Int} (hy : 0 ≤ y ∧ y < 256) : AllBytes (l.set i y) := by
  intro x hx
  rcases List.mem_or_eq_of_mem_set hx with a | a
  · exact h x a
  · subst a; exact hy

/-- A byte that is changed is found. -/
theorem changed_found {l : List Int} (hl : AllBytes l) (h : isSec l) {i : Nat} (hi : i < l.length) {y : Int} (hy : 0 ≤ y ∧ y < 256) (hne : l[i] ≠ y) : ¬ isSec (l.set i y) := by
  obtain ⟨hn, hs, _⟩ := h
  rintro ⟨_, hs', _⟩
  by_cases h4 : i < 4
  · have e : (l.set i y).drop 4 = l.drop 4 := by rw [List.drop_set_of_lt h4]
    rw [e, ← hs] at hs'
    have e' := numOf4_inj ((set_bytes hl i hy).take 4) (hl.take 4) (by simp; omega) (by simp; omega) hs'
    have e2 : ((l.set i y).take 4)[i]? = (l.take 4)[i]? := by rw [e']
    rw [List.getElem?_take, List.getElem?_take, if_pos h4, if_pos h4, List.getElem?_set_self hi, List.getElem?_eq_getElem hi] at e2
    exact hne (Option.some.inj e2).symm
  · have e : (l.set i y).take 4 = l.take 4 := by rw [List.take_set_of_le (by omega)]
    have e2 : (l.set i y).drop 4 = (l.drop 4).set (i - 4) y := by
      rw [List.drop_set, if_neg (by omega)]
    rw [e, e2, hs] at hs'
    refine sumOf_set_ne (hl.drop 4) (i := i - 4) (y := y) (by simp; omega) hy ?_ (by exact_mod_cast hs')
    rw [List.getElem_drop]
    have : 4 + (i - 4) = i := by omega
    simpa [this] using hne
theorem unpack_changed {l : List Int} (hl : AllBytes l) (h : isSec l) {i : Nat} (hi : i < l.length) {y : Int} (hy : 0 ≤ y ∧ y < 256) (hne : l[i] ≠ y) : unpackR (l.set i y) = (0, 0, [], 4) := by
  unfold unpackR
  rw [if_neg (changed_found hl h hi hy hne)]
theorem secL_isSec {p s : Int} {l : List Int} (hl : AllBytes l) (h : secR p s = true) (hn : l.length = 240) : isSec (secL p s l) := by
  by_cases hs : isSec (secL p s l)
  · exact hs
  · have := unpack_pack hl h hn
    unfold unpackR at this
    rw [if_neg hs] at this
    simp at this

end Go.Proofs.YtinhdimalhfgkaaGreatDoor

/-
  Plain: where on a disk what stands, as the document says. No program.
-/
namespace Go.Proofs.YtinhdimalhfgkaaGreatDoor
open Go.RowKit
set_option maxRecDepth 100000
set_option linter.unusedVariables false

/-- How many pages a disk of n sectors has. -/
def pagesOf (n : Int) : Int := if n < 3 ∨ n > 65536 then 0 else (n - 1) / 2
def slotOf (n i : Int) : Int × Bool := if i < 0 ∨ i ≥ pagesOf n then (0, false) else (i + 1, true)
def homeOf (n p : Int) : Int × Bool := if p < 0 ∨ p ≥ pagesOf n then (0, false) else (p + 1 + pagesOf n, true)

theorem pagesOf_bounds (n : Int) : 0 ≤ pagesOf n ∧ pagesOf n ≤ 32767 := by
  unfold pagesOf
  split <;> omega

theorem pagesOf_nn (n : Int) : 0 ≤ pagesOf n ∧ (3 ≤ n → 2 * pagesOf n < n) ∧ pagesOf n ≤ 32767 := by
  unfold pagesOf
  split <;> omega

theorem int_bounds' {n : Int} (h : (Lit.int .i64 n).wf = true) : -9223372036854775808 ≤ n ∧ n ≤ 9223372036854775807 := by
  simpa [Lit.wf, IntKind.min, IntKind.max, IntKind.signed, IntKind.bits] using h

end Go.Proofs.YtinhdimalhfgkaaGreatDoor

/-
  Plain: what a log makes of a disk, as the document says: layout, Format, Open, Load, Commit over the plain state of a disk. No program.
-/
namespace Go.Proofs.YtinhdimalhfgkaaGreatDoor
open Go.RowKit
set_option maxRecDepth 100000
set_option linter.unusedVariables false

/-- Noughts, a page. -/
def zpage : List Int := List.replicate 240 0
theorem zpage_ok : zpage.length = 240 ∧ AllBytes zpage := ⟨List.length_replicate .., fun x hx => by
  obtain rfl := (List.mem_replicate.1 hx).2
  decide⟩

def DS.P (S : DS) : Int := pagesOf S.n
/-- One step, unless the one ahead failed. -/
def thenS (r : Int × DS) (f : DS → Int × DS) : Int × DS := if r.1 = 0 then f r.2 else r
def DS.wr (S : DS) (i : Int) (l : List Int) : Int × DS := (S.writeE i l, S.write i l)
def DS.fl (S : DS) : Int × DS := (S.flushE, S.flush)
def markS (S : DS) (count seq : Int) : Int × DS := thenS (S.wr 0 (packR count seq zpage).1) DS.fl
/-- What an image of a disk has in its i-th slot: a page's number and the sector, if it is one of that seq. -/
def slotIn (n : Int) (f : Nat → List Int) (seq : Int) (i : Nat) : Option (Int × List Int) :=
  if (unpackR (f (i + 1))).2.2.2 = 0 ∧ (unpackR (f (i + 1))).2.1 = seq ∧ (unpackR (f (i + 1))).1 < pagesOf n then some ((unpackR (f (i + 1))).1, f (i + 1)) else none
/-- The first slots, if they are whole. -/
def slotsUp (n : Int) (f : Nat → List Int) (seq : Int) : Nat → Option (List (Int × List Int))
  | 0 => some []
  | k + 1 => match slotsUp n f seq k, slotIn n f seq k with | some l, some x => some (l ++ [x]) | _, _ => none
def slotsOf (n : Int) (f : Nat → List Int) (count seq : Int) : Option (List (Int × List Int)) := if count > pagesOf n then none else slotsUp n f seq count.toNat
def homesS (S : DS) : List (Int × List Int) → Int × DS
  | [] => S.fl
  | (p, b) :: r => thenS (S.wr (p + 1 + S.P) b) (fun S' => homesS S' r)
/-- What Open answers: an error or 0, the seq, and the disk. -/
def openS (S : DS) : Int × Int × DS :=
  if S.down = true then (5, 0, S) else
  if (unpackR (S.last 0)).2.2.2 ≠ 0 then (4, 0, S) else
  match slotsOf S.n S.last (unpackR (S.last 0)).1 (unpackR (S.last 0)).2.1 with
  | none => (0, (unpackR (S.last 0)).2.1, S)
  | some l => if (homesS S l).1 ≠ 0 then ((homesS S l).1, 0, (homesS S l).2) else (0, (unpackR (S.last 0)).2.1, (homesS S l).2)
def loadS (S : DS) (p : Int) : List Int × Int :=
  if p < 0 ∨ p ≥ S.P then ([], 1) else if S.down = true then ([], 5) else
  if (unpackR (S.last (p + 1 + S.P).toNat)).2.2.2 ≠ 0 ∨ (unpackR (S.last (p + 1 + S.P).toNat)).1 ≠ p then (zpage, 0) else ((unpackR (S.last (p + 1 + S.P).toNat)).2.2.1, 0)
/-- Images that may be committed. -/
def rightS (S : DS) (l : List (Int × List Int)) : Prop := (∀ x ∈ l, 0 ≤ x.1 ∧ x.1 < S.P ∧ x.2.length = 240) ∧ (l.map (·.1)).Nodup
instance (S : DS) (l : List (Int × List Int)) : Decidable (rightS S l) := by unfold rightS; infer_instance
/-- The sectors of images. -/
def packs (seq : Int) (l : List (Int × List Int)) : List (Int × List Int) := l.map fun x => (x.1, (packR x.1 seq x.2).1)
/-- Sectors are written one behind the other, from i on. -/
def slotsS (S : DS) (i : Int) : List (Int × List Int) → Int × DS
  | [] => (0, S)
  | (_, b) :: r => thenS (S.wr (i + 1) b) (fun S' => slotsS S' (i + 1) r)
def commitS (S : DS) (seq : Int) (l : List (Int × List Int)) : Int × Int × DS :=
  if (l.length : Int) > S.P then (6, seq, S) else if ¬ rightS S l then (1, seq, S) else if l = [] then (0, seq, S) else
  let a := thenS (slotsS S 0 (packs (seq + 1) l)) DS.fl
  if a.1 ≠ 0 then (a.1, seq, a.2) else
  let m := markS a.2 l.length (seq + 1)
  if m.1 ≠ 0 then (m.1, seq, m.2) else
  ((homesS m.2 (packs (seq + 1) l)).1, seq + 1, (homesS m.2 (packs (seq + 1) l)).2)

/-! ### images -/
/-- What a write of sectors makes of an image. -/
def putF (f : Nat → List Int) (i : Nat) (l : List Int) : Nat → List Int := fun j => if j = i then l else f j
def putH (n : Int) (f : Nat → List Int) (l : List (Int × List Int)) : Nat → List Int := l.foldl (fun g x => putF g (x.1 + 1 + pagesOf n).toNat x.2) f
/-- The image when it was opened. -/
def opened (n : Int) (f : Nat → List Int) : Nat → List Int :=
  match slotsOf n f (unpackR (f 0)).1 (unpackR (f 0)).2.1 with
  | none => f
  | some l => putH n f l
/-- A page of an image. -/
def pageIn (n : Int) (f : Nat → List Int) (p : Int) : List Int :=
  if (unpackR (f (p + 1 + pagesOf n).toNat)).2.2.2 ≠ 0 ∨ (unpackR (f (p + 1 + pagesOf n).toNat)).1 ≠ p then zpage else (unpackR (f (p + 1 + pagesOf n).toNat)).2.2.1

/-- The disk is an image, all of it safe. -/
structure Rests (S : DS) (f : Nat → List Int) : Prop where
  safe : S.safe = f
  last : S.last = f
  up : S.down = false

/-- Each sector has what f has, or what is in W. -/
def Within (f : Nat → List Int) (W : Nat → List Int → Prop) (g : Nat → List Int) : Prop := ∀ i, g i = f i ∨ W i (g i)

section
variable {S : DS} {f g : Nat → List Int} {W : Nat → List Int → Prop} {n : Int}

theorem Within.refl (f : Nat → List Int) (W : Nat → List Int → Prop) : Within f W f := fun i => .inl rfl
theorem Within.put (h : Within f W g) {i : Nat} {l : List Int} (hw : W i l) : Within f W (putF g i l) := fun j => by
  unfold putF
  by_cases e : j = i
  · subst e; rw [if_pos rfl]; exact .inr hw
  · rw [if_neg e]; exact h j

/-- Both what is safe and what was written last. -/
def Both (f : Nat → List Int) (W : Nat → List Int → Prop) (S : DS) : Prop := Within f W S.safe ∧ Within f W S.last

theorem Both.write (h : Both f W S) {i : Int} {l : List Int} (hw : W i.toNat l) : Both f W (S.write i l) := by
  unfold DS.write
  split
  · exact h
  split
  · exact h
  split
  · exact h
  · exact ⟨h.1, h.2.put hw⟩
theorem Both.flush (h : Both f W S) : Both f W S.flush := by
  unfold DS.flush
  split
  · exact h
  · exact ⟨h.2, h.2⟩
theorem Both.fuse (h : Both f W S) (k : Int) : Both f W (S.fuse k) := h
open Classical in
theorem Both.crash (h : Both f W S) (keep : List Int) : Within f W (S.crash keep).last ∧ Rests (S.crash keep) (S.crash keep).last := by
  refine ⟨fun i => ?_, rfl, rfl, rfl⟩
  show (if S.kept keep i then S.last i else S.safe i) = f i ∨ W i (if S.kept keep i then S.last i else S.safe i)
  split
  · exact h.2 i
  · exact h.1 i
theorem Rests.both (h : Rests S f) (W : Nat → List Int → Prop) : Both f W S := by
  obtain ⟨h1, h2, _⟩ := h
  exact ⟨by rw [h1]; exact Within.refl f W, by rw [h2]; exact Within.refl f W⟩

theorem Both.homes (l : List (Int × List Int)) : ∀ {S : DS}, Both f W S → (∀ x ∈ l, W (x.1 + 1 + S.P).toNat x.2) → Both f W (homesS S l).2 := by
  induction l with
  | nil => intro S h _; exact h.flush
  | cons x r ih =>
    obtain ⟨p, b⟩ := x
    intro S h hw
    unfold homesS thenS
    have h1 : Both f W (S.write (p + 1 + S.P) b) := h.write (hw _ (List.mem_cons_self ..))
    have hn : (S.write (p + 1 + S.P) b).P = S.P := by
      unfold DS.P DS.write
      split
      · rfl
      split
      · rfl
      split <;> rfl
    split
    · exact ih h1 fun x hx => by
        rw [show (S.wr (p + 1 + S.P) b).2 = S.write (p + 1 + S.P) b from rfl, hn]
        exact hw x (List.mem_cons_of_mem _ hx)
    · exact h1
theorem Both.slots (l : List (Int × List Int)) : ∀ {S : DS} (i : Int), Both f W S → (∀ (k : Nat) (x : Int × List Int), l[k]? = some x → W (i + k + 1).toNat x.2) → Both f W (slotsS S i l).2 := by
  induction l with
  | nil => intro S i h _; exact h
  | cons x r ih =>
    obtain ⟨p, b⟩ := x
    intro S i h hw
    unfold slotsS thenS
    have h1 : Both f W (S.write (i + 1) b) := h.write (by have := hw 0 _ rfl; simpa using this)
    split
    · exact ih (i + 1) h1 fun k x hx => by
        have := hw (k + 1) x hx
        rw [show i + 1 + (k : Int) + 1 = i + ((k + 1 : Nat) : Int) + 1 by omega]
        exact this
    · exact h1
end

end Go.Proofs.YtinhdimalhfgkaaGreatDoor

/-
  Plain: wherever the disk goes down in a commit, or in opening it again: all its pages are there, or none. No program.
-/
namespace Go.Proofs.YtinhdimalhfgkaaGreatDoor
open Go.RowKit
set_option maxRecDepth 100000
set_option linter.unusedVariables false

section
variable {S : DS} {f g : Nat → List Int} {n : Int}

/-! ### what is done when nothing fails -/
theorem write_done {i : Int} {l : List Int} (h : S.writeE i l = 0) : S.down = false ∧ S.write i l = S.put i.toNat l := by
  unfold DS.writeE at h
  split at h
  · cases h
  rename_i hd
  split at h
  · cases h
  rename_i h2
  split at h
  · cases h
  rename_i h3
  refine ⟨by simpa using hd, ?_⟩
  unfold DS.write
  rw [if_neg hd, if_neg h2, if_neg h3]
theorem flush_done (h : S.flushE = 0) : S.down = false ∧ S.flush = { S with safe := S.last, pend := [] } := by
  unfold DS.flushE at h
  split at h
  · cases h
  rename_i hd
  refine ⟨by simpa using hd, ?_⟩
  unfold DS.flush
  rw [if_neg hd]
theorem homes_done (l : List (Int × List Int)) : ∀ {S : DS}, (homesS S l).1 = 0 → Rests (homesS S l).2 (putH S.n S.last l) ∧ (homesS S l).2.n = S.n := by
  induction l with
  | nil =>
    intro S h
    obtain ⟨h1, h2⟩ := flush_done (S := S) h
    have e : (homesS S []).2 = { S with safe := S.last, pend := [] } := h2
    rw [e]
    exact ⟨⟨rfl, rfl, h1⟩, rfl⟩
  | cons x r ih =>
    obtain ⟨p, b⟩ := x
    intro S h
    unfold homesS thenS at h ⊢
    by_cases h0 : (S.wr (p + 1 + S.P) b).1 = 0
    · rw [if_pos h0] at h ⊢
      obtain ⟨h1, h2⟩ := write_done (S := S) (i := p + 1 + S.P) (l := b) h0
      have e : (S.wr (p + 1 + S.P) b).2 = S.put (p + 1 + S.P).toNat b := h2
      rw [e] at h ⊢
      obtain ⟨h3, h4⟩ := ih h
      exact ⟨h3, h4⟩
    · rw [if_neg h0] at h
      exact absurd h h0

/-- Sectors put one behind the other, from i on. -/
def putSl (f : Nat → List Int) (i : Nat) : List (Int × List Int) → Nat → List Int
  | [] => f
  | x :: r => putSl (putF f (i + 1) x.2) (i + 1) r
theorem putSl_far (l : List (Int × List Int)) : ∀ (f : Nat → List Int) (i j : Nat), j ≤ i ∨ i + l.length < j → putSl f i l j = f j := by
  induction l with
  | nil => intro f i j _; rfl
  | cons x r ih =>
    intro f i j h
    rw [putSl, ih _ _ _ (by simp only [List.length_cons] at h; omega), putF, if_neg (by simp only [List.length_cons] at h; omega)]
theorem putSl_at (l : List (Int × List Int)) : ∀ (f : Nat → List Int) (i k : Nat) (x : Int × List Int), l[k]? = some x → putSl f i l (i + k + 1) = x.2 := by
  induction l with
  | nil => intro f i k x h; simp at h
  | cons y r ih =>
    intro f i k x h
    rw [putSl]
    cases k with
    | zero =>
      obtain rfl : y = x := by simpa using h
      rw [putSl_far _ _ _ _ (.inl (by omega)), putF, if_pos (by omega)]
    | succ k =>
      rw [show i + (k + 1) + 1 = (i + 1) + k + 1 by omega]
      exact ih _ _ k x (by simpa using h)
theorem slots_done (l : List (Int × List Int)) : ∀ {S : DS} (i : Nat), S.down = false → (slotsS S i l).1 = 0 → (slotsS S i l).2.last = putSl S.last i l ∧ (slotsS S i l).2.n = S.n ∧ (slotsS S i l).2.down = false := by
  induction l with
  | nil => intro S i hd _; exact ⟨rfl, rfl, hd⟩
  | cons x r ih =>
    obtain ⟨p, b⟩ := x
    intro S i hd h
    unfold slotsS thenS at h ⊢
    by_cases h0 : (S.wr ((i : Int) + 1) b).1 = 0
    · rw [if_pos h0] at h ⊢
      obtain ⟨h1, h2⟩ := write_done (S := S) (i := (i : Int) + 1) (l := b) h0
      have e : (S.wr ((i : Int) + 1) b).2 = S.put (i + 1) b := by
        have : ((i : Int) + 1).toNat = i + 1 := by omega
        rw [← this]; exact h2
      rw [e] at h ⊢
      rw [show (i : Int) + 1 = ((i + 1 : Nat) : Int) by omega] at h ⊢
      obtain ⟨h3, h4, h5⟩ := ih (S := S.put (i + 1) b) (i + 1) hd h
      exact ⟨h3, h4, h5⟩
    · rw [if_neg h0] at h
      exact absurd h h0

/-! ### when nothing can fail -/
/-- A disk that is up and not armed. -/
structure Free (S : DS) : Prop where
  up : S.down = false
  arm : S.arm = none
theorem Free.write (h : Free S) {i : Int} {l : List Int} (hi : 0 ≤ i ∧ i < S.n) (hl : l.length = 256) : S.writeE i l = 0 ∧ Free (S.write i l) ∧ (S.write i l).n = S.n := by
  have e : S.writeE i l = 0 := by
    unfold DS.writeE
    rw [if_neg (by simp [h.up]), if_neg (fun h' => h' ⟨hi, hl⟩), if_neg (by simp [h.arm])]
  obtain ⟨_, h2⟩ := write_done e
  rw [h2]
  exact ⟨e, ⟨h.up, by show S.arm.map _ = none; rw [h.arm]; rfl⟩, rfl⟩
theorem Free.flush (h : Free S) : S.flushE = 0 ∧ Free S.flush := by
  have e : S.flushE = 0 := by unfold DS.flushE; rw [if_neg (by simp [h.up])]
  obtain ⟨_, h2⟩ := flush_done e
  rw [h2]
  exact ⟨e, h.up, h.arm⟩
theorem Free.homes (l : List (Int × List Int)) : ∀ {S : DS}, Free S → (∀ x ∈ l, (0 ≤ x.1 + 1 + S.P ∧ x.1 + 1 + S.P < S.n) ∧ x.2.length = 256) → (homesS S l).1 = 0 ∧ Free (homesS S l).2 := by
  induction l with
  | nil => intro S h _; exact h.flush
  | cons x r ih =>
    obtain ⟨p, b⟩ := x
    intro S h hv
    obtain ⟨v1, v2⟩ := hv _ (List.mem_cons_self ..)
    obtain ⟨h1, h2, h3⟩ := h.write v1 v2
    unfold homesS thenS
    rw [if_pos (show (S.wr (p + 1 + S.P) b).1 = 0 from h1)]
    have h3' : (S.write (p + 1 + S.P) b).n = S.n := h3
    have e1 : (S.wr (p + 1 + S.P) b).2.P = S.P := by
      show pagesOf ((S.write (p + 1 + S.P) b).n : Int) = pagesOf (S.n : Int)
      rw [h3']
    have e2 : (S.wr (p + 1 + S.P) b).2.n = S.n := h3
    exact ih h2 fun x hx => by
      rw [e1, e2]
      exact hv x (List.mem_cons_of_mem _ hx)
theorem Free.slots (l : List (Int × List Int)) : ∀ {S : DS} (i : Nat), Free S → i + l.length < S.n → (∀ x ∈ l, x.2.length = 256) → (slotsS S i l).1 = 0 ∧ Free (slotsS S i l).2 := by
  induction l with
  | nil => intro S i h _ _; exact ⟨rfl, h⟩
  | cons x r ih =>
    obtain ⟨p, b⟩ := x
    intro S i h hn hv
    simp only [List.length_cons] at hn
    obtain ⟨h1, h2, h3⟩ := h.write (i := (i : Int) + 1) (by omega) (hv _ (List.mem_cons_self ..))
    unfold slotsS thenS
    rw [if_pos (show (S.wr ((i : Int) + 1) b).1 = 0 from h1)]
    rw [show (i : Int) + 1 = ((i + 1 : Nat) : Int) by omega] at h2 h3 ⊢
    exact ih (i + 1) h2 (by show i + 1 + r.length < (S.write ((i + 1 : Nat) : Int) b).n; rw [h3]; omega) fun x hx => hv x (List.mem_cons_of_mem _ hx)

/-! ### images -/
theorem putH_same (l : List (Int × List Int)) : ∀ {f g : Nat → List Int} (j : Nat), (∃ x ∈ l, j = (x.1 + 1 + pagesOf n).toNat) ∨ f j = g j → putH n f l j = putH n g l j := by
  induction l with
  | nil =>
    intro f g j h
    rcases h with ⟨x, hx, _⟩ | h
    · cases hx
    · exact h
  | cons y r ih =>
    intro f g j h
    show putH n (putF f _ y.2) r j = putH n (putF g _ y.2) r j
    apply ih
    rcases h with ⟨x, hx, e⟩ | h
    · rcases List.mem_cons.1 hx with rfl | hx
      · right; unfold putF; rw [if_pos e, if_pos e]
      · exact .inl ⟨x, hx, e⟩
    · right
      unfold putF
      split
      · rfl
      · exact h
theorem putH_within (l : List (Int × List Int)) : ∀ {f g : Nat → List Int} {W : Nat → List Int → Prop}, Within f W g → (∀ x ∈ l, W (x.1 + 1 + pagesOf n).toNat x.2) → Within f W (putH n g l) := by
  induction l with
  | nil => intro f g W h _; exact h
  | cons y r ih =>
    intro f g W h hw
    exact ih (h.put (hw y (List.mem_cons_self ..))) fun x hx => hw x (List.mem_cons_of_mem _ hx)
theorem putH_far (l : List (Int × List Int)) : ∀ {f : Nat → List Int} (j : Nat), (∀ x ∈ l, j ≠ (x.1 + 1 + pagesOf n).toNat) → putH n f l j = f j := by
  induction l with
  | nil => intro f j _; rfl
  | cons y r ih =>
    intro f j h
    show putH n (putF f _ y.2) r j = f j
    rw [ih _ (fun x hx => h x (List.mem_cons_of_mem _ hx)), putF, if_neg (h y (List.mem_cons_self ..))]

/-- What stands on the slots' list. -/
theorem slotsUp_mem {seq : Int} : ∀ (k : Nat) {l : List (Int × List Int)}, slotsUp n f seq k = some l → l.length = k ∧ ∀ i x, l[i]? = some x → slotIn n f seq i = some x := by
  intro k
  induction k with
  | zero =>
    intro l h
    have : [] = l := by simpa [slotsUp] using h
    subst this
    exact ⟨rfl, fun i x hx => by simp at hx⟩
  | succ k ih =>
    intro l h
    unfold slotsUp at h
    split at h
    · rename_i l' x' h1 h2
      obtain rfl : l' ++ [x'] = l := by simpa using h
      obtain ⟨h3, h4⟩ := ih h1
      refine ⟨by simp [h3], fun i x hx => ?_⟩
      rcases Nat.lt_or_ge i l'.length with hi | hi
      · rw [List.getElem?_append_left hi] at hx
        exact h4 i x hx
      · rw [List.getElem?_append_right hi] at hx
        have hik : i - l'.length = 0 := by
          have := (List.getElem?_eq_some_iff.1 hx).1
          simp at this
          omega
        rw [hik] at hx
        obtain rfl : x' = x := by simpa using hx
        rw [show i = k by omega]
        exact h2
    · cases h
theorem slotsUp_of {seq : Int} : ∀ (k : Nat) {l : List (Int × List Int)}, l.length = k → (∀ i x, l[i]? = some x → slotIn n f seq i = some x) → slotsUp n f seq k = some l := by
  intro k
  induction k with
  | zero =>
    intro l h _
    rw [List.length_eq_zero_iff.1 h]
    rfl
  | succ k ih =>
    intro l h hx
    have hne : l ≠ [] := by intro e; rw [e] at h; cases h
    obtain ⟨l', x', rfl⟩ : ∃ l' x', l = l' ++ [x'] := ⟨l.dropLast, l.getLast hne, (List.dropLast_concat_getLast hne).symm⟩
    have hl' : l'.length = k := by simp at h; omega
    have h1 := ih hl' (fun i x hi => hx i x (by rw [List.getElem?_append_left ((List.getElem?_eq_some_iff.1 hi).1)]; exact hi))
    have h2 := hx k x' (by rw [List.getElem?_append_right (by omega)]; simp [hl'])
    unfold slotsUp
    rw [h1, h2]
theorem slotIn_some {seq : Int} {i : Nat} {x : Int × List Int} (h : slotIn n f seq i = some x) : (unpackR (f (i + 1))).2.2.2 = 0 ∧ (unpackR (f (i + 1))).2.1 = seq ∧ (unpackR (f (i + 1))).1 < pagesOf n ∧ x = ((unpackR (f (i + 1))).1, f (i + 1)) := by
  unfold slotIn at h
  split at h
  · rename_i hc
    exact ⟨hc.1, hc.2.1, hc.2.2, (by simpa using h.symm)⟩
  · cases h
theorem slotIn_same {seq : Int} {i : Nat} (e : g (i + 1) = f (i + 1)) : slotIn n g seq i = slotIn n f seq i := by
  unfold slotIn
  rw [e]
theorem unpack_page {l : List Int} (h : (unpackR l).2.2.2 = 0) : 0 ≤ (unpackR l).1 ∧ 0 ≤ (unpackR l).2.1 ∧ l.length = 256 := by
  unfold unpackR at h ⊢
  by_cases hs : isSec l
  · rw [if_pos hs]
    obtain ⟨h1, _, h3⟩ := hs
    have h4 := of_decide_eq_true h3
    exact ⟨h4.1, h4.2.2.1, h1⟩
  · rw [if_neg hs] at h
    cases h

/-- The list of the slots of an image, with its mark. -/
def listed (n : Int) (f : Nat → List Int) : Option (List (Int × List Int)) := slotsOf n f (unpackR (f 0)).1 (unpackR (f 0)).2.1
theorem opened_some {l : List (Int × List Int)} (h : listed n f = some l) : opened n f = putH n f l := by
  unfold opened
  rw [show slotsOf n f (unpackR (f 0)).1 (unpackR (f 0)).2.1 = some l from h]
theorem opened_none (h : listed n f = none) : opened n f = f := by
  unfold opened
  rw [show slotsOf n f (unpackR (f 0)).1 (unpackR (f 0)).2.1 = none from h]
theorem slotsOf_some {c s : Int} {l : List (Int × List Int)} (h : slotsOf n f c s = some l) : c ≤ pagesOf n ∧ slotsUp n f s c.toNat = some l := by
  unfold slotsOf at h
  split at h
  · cases h
  · rename_i hc
    exact ⟨by omega, h⟩
theorem slotsOf_of {c s : Int} {l : List (Int × List Int)} (hc : c ≤ pagesOf n) (h : slotsUp n f s c.toNat = some l) : slotsOf n f c s = some l := by
  unfold slotsOf
  rw [if_neg (by omega)]
  exact h
theorem listed_mem {l : List (Int × List Int)} (h : listed n f = some l) : ∀ x ∈ l, (0 ≤ x.1 ∧ x.1 < pagesOf n) ∧ x.2.length = 256 := by
  intro x hx
  obtain ⟨_, h2⟩ := slotsOf_some h
  obtain ⟨h3, h4⟩ := slotsUp_mem _ h2
  obtain ⟨i, hi, e⟩ := List.getElem_of_mem hx
  obtain ⟨h5, _, h6, h7⟩ := slotIn_some (h4 i x (by rw [List.getElem?_eq_getElem hi, e]))
  obtain ⟨h8, _, h9⟩ := unpack_page h5
  rw [h7]
  exact ⟨⟨h8, h6⟩, h9⟩

/-- The homes of a list. -/
def HomeW (n : Int) (l : List (Int × List Int)) (i : Nat) (b : List Int) : Prop := ∃ x ∈ l, i = (x.1 + 1 + pagesOf n).toNat ∧ b = x.2
theorem homeW_far {l : List (Int × List Int)} (hl : ∀ x ∈ l, 0 ≤ x.1) (h : Within f (HomeW n l) g) (hn : 0 ≤ pagesOf n) {j : Nat} (hj : (j : Int) ≤ pagesOf n) : g j = f j := by
  rcases h j with e | ⟨x, hx, e, _⟩
  · exact e
  · have := hl x hx
    omega

/-- An image that was opened in part is opened as the whole. -/
theorem opened_part {l : List (Int × List Int)} (hn : 0 ≤ pagesOf n) (h : listed n f = some l) (hw : Within f (HomeW n l) g) : listed n g = some l ∧ opened n g = opened n f := by
  have hl : ∀ x ∈ l, 0 ≤ x.1 := fun x hx => (listed_mem h x hx).1.1
  have e0 : g 0 = f 0 := homeW_far hl hw hn (by omega)
  have hg : listed n g = some l := by
    obtain ⟨h1, h2⟩ := slotsOf_some h
    obtain ⟨h3, h4⟩ := slotsUp_mem _ h2
    unfold listed
    rw [e0]
    refine slotsOf_of h1 (slotsUp_of _ h3 fun i x hx => ?_)
    have hi := (List.getElem?_eq_some_iff.1 hx).1
    rw [slotIn_same (homeW_far hl hw hn (by omega))]
    exact h4 i x hx
  refine ⟨hg, ?_⟩
  rw [opened_some h, opened_some hg]
  funext j
  apply putH_same
  rcases hw j with e | ⟨x, hx, e, _⟩
  · exact .inr e
  · exact .inl ⟨x, hx, e⟩
theorem opened_twice (hn : 0 ≤ pagesOf n) (f : Nat → List Int) : opened n (opened n f) = opened n f := by
  rcases h : listed n f with _ | l
  · rw [opened_none h, opened_none h]
  · rw [opened_some h]
    have hw : Within f (HomeW n l) (putH n f l) := putH_within l (Within.refl _ _) fun x hx => ⟨x, hx, rfl, rfl⟩
    rw [(opened_part hn h hw).2, opened_some h]
end

end Go.Proofs.YtinhdimalhfgkaaGreatDoor
