/-
  The texts Bcmp, KeyQ joined. Conditions: those that each part says at its head.
-/
import Derived.Test.YtlcbmobdokicaaaGreatViewP
import Derived.Lib.BytesEntry
import Derived.Laws.Externs
import Derived.Lib.Walk
import Derived.Lib.Strings
import Derived.Lib.Slices
import Derived.Laws.Strings3
import Derived.Test.YtlcbmobdokicaaaGreatKeyB

/-
  bytes.Compare by its contract: how two slices of bytes stand to one another. No condition but that lengths are ints.
-/
namespace Go.Proofs.YtlcbmobdokicaaaGreat
open Go.RowKit
set_option maxRecDepth 100000
set_option linter.unusedVariables false

/-! ### bytes.Compare -/
theorem cmpB_lt : ∀ (x y : Txt), Lib.compareBytes x y < 0 ↔ x < y
  | [], [] => by simp [Lib.compareBytes]
  | [], _ :: _ => by simp [Lib.compareBytes]
  | _ :: _, [] => by simp [Lib.compareBytes]
  | a :: x, b :: y => by
    unfold Lib.compareBytes
    rw [List.cons_lt_cons_iff]
    by_cases h1 : a < b
    · simp [h1]
    · by_cases h2 : b < a
      · have h3 : ¬ a = b := fun e => by subst e; exact absurd h2 (UInt8.lt_irrefl _)
        simp [h1, h2, h3]
      · have h3 : a = b := UInt8.le_antisymm (UInt8.not_lt.1 h2) (UInt8.not_lt.1 h1)
        subst h3
        simp [h1, cmpB_lt x y]
theorem bcmp_run {w : World} {B B' n m : Nat} {A A' : Option Addr} {l l' : List Int} (c d : Nat) (h : RB w B A n l) (h' : RB w B' A' m l') :
    (Extern.BytealgCompare.compare #[.slice A n c, .slice A' m d]).run Tryz.prog w = .ok (.int .i64 (Lib.compareBytes (tx l) (tx l'))) w := by
  have key : ∀ {B n : Nat} {A : Option Addr} {l : List Int} (c : Nat), RB w B A n l → (Extern.Bytes.bytesOf (.slice A n c)).run Tryz.prog w = .ok ⟨(tx l).toArray⟩ w := by
    intro B n A l c h
    rcases Nat.eq_zero_or_pos n with h0 | h0
    · subst h0
      obtain rfl : l = [] := List.eq_nil_of_length_eq_zero h.len
      cases A <;> rfl
    · obtain ⟨b, off, rfl, _, hc⟩ := h.at_ h0
      have hl := Lib.run_loadBytesX (P := Tryz.prog) w l ⟨b, off, none⟩ .empty (fun j x hj => by
        have hjl : j < l.length := (List.getElem?_eq_some_iff.1 hj).1
        have e : (⟨b, off, none⟩ : Addr).add j = ⟨b, off + j, none⟩ := by unfold Addr.add; split <;> simp_all
        rw [e, hc j (by rw [← h.len]; exact hjl), hj]
        rfl)
      rw [h.len] at hl
      have he : (⟨ByteArray.empty.data ++ (Lib.bytesOf l).toArray⟩ : ByteArray) = ⟨(tx l).toArray⟩ := by
        apply ByteArray.ext
        show (#[] : Array UInt8) ++ (Lib.bytesOf l).toArray = (tx l).toArray
        simp [Lib.bytesOf, tx]
      rw [he] at hl
      exact hl
  change Sem.run Tryz.prog (do pure (goInt (Extern.BytealgCompare.cmp (← Extern.Bytes.bytesOf (.slice A n c)) (← Extern.Bytes.bytesOf (.slice A' m d))))) w = _
  simp only [Sem.run_bind, Sem.run_pure, key c h, key d h', Result.andThen]
  rw [Lib.cmp_eq]
  simp [goInt]

set_option maxHeartbeats 800000 in
theorem bcmp_any {w : World} {B B' n m : Nat} {A A' : Option Addr} {l l' : List Int} (c d : Nat) (h : RB w B A n l) (h' : RB w B' A' m l') :
    Calls Tryz.prog 134 #[.slice A n c, .slice A' m d] w fun e w' => e = .returned (.int .i64 (Lib.compareBytes (tx l) (tx l'))) ∧ w = w' := by
  have hr := Lib.hid (bcmp_run c d h h')
  clear h h'
  generalize Lib.compareBytes (tx l) (tx l') = r at hr ⊢
  go_enter Tryz.func134, Tryz.ntmps134
  go_wp2_with fail
  rw [run_callFunc_extern Tryz.func161 (by kernel_rfl) (by kernel_rfl) (by kernel_rfl) (e := Extern.BytealgCompare.compare) (by kernel_rfl), hr.out]
  simp only [Result.andThen]
  rw [Oper.upon_value]
  go_wp2
  go_ret
  exact ⟨rfl, rfl⟩

end Go.Proofs.YtlcbmobdokicaaaGreat

/-
  Keys of one tag stand to one another as their numbers do, as plain lists. No program; no condition beyond what each says.
-/
namespace Go.Proofs.YtlcbmobdokicaaaGreat
open Go.RowKit
set_option maxRecDepth 100000
set_option linter.unusedVariables false

/-- How numbers stand to one another; lists of them. -/
def cmp1 (x y : Int) : Int := if x < y then -1 else if y < x then 1 else 0
def cmpI : List Int → List Int → Int
  | [], [] => 0
  | [], _ :: _ => -1
  | _ :: _, [] => 1
  | x :: l, y :: m => if cmp1 x y ≠ 0 then cmp1 x y else cmpI l m

theorem cmpT_byte {x y : Int} (hx : 0 ≤ x ∧ x < 256) (hy : 0 ≤ y ∧ y < 256) (l m : Txt) : Lib.compareBytes (tx [x] ++ l) (tx [y] ++ m) = if cmp1 x y ≠ 0 then cmp1 x y else Lib.compareBytes l m := by
  obtain ⟨a, rfl⟩ := Int.eq_ofNat_of_zero_le hx.1
  obtain ⟨b, rfl⟩ := Int.eq_ofNat_of_zero_le hy.1
  show (if UInt8.ofNat a < UInt8.ofNat b then (-1 : Int) else if UInt8.ofNat b < UInt8.ofNat a then 1 else Lib.compareBytes l m) = _
  have ha : (UInt8.ofNat a).toNat = a := by rw [UInt8.toNat_ofNat']; omega
  have hb : (UInt8.ofNat b).toNat = b := by rw [UInt8.toNat_ofNat']; omega
  have e1 : UInt8.ofNat a < UInt8.ofNat b ↔ a < b := by rw [UInt8.lt_iff_toNat_lt, ha, hb]
  have e2 : UInt8.ofNat b < UInt8.ofNat a ↔ b < a := by rw [UInt8.lt_iff_toNat_lt, ha, hb]
  unfold cmp1
  by_cases h1 : a < b
  · rw [if_pos (e1.2 h1), if_pos (show (a : Int) < b by omega)]; rfl
  · rw [if_neg (fun h => h1 (e1.1 h)), if_neg (show ¬ (a : Int) < b by omega)]
    by_cases h2 : b < a
    · rw [if_pos (e2.2 h2), if_pos (show (b : Int) < a by omega)]; rfl
    · rw [if_neg (fun h => h2 (e2.1 h)), if_neg (show ¬ (b : Int) < a by omega)]; rfl
theorem tx_append (l m : List Int) : tx (l ++ m) = tx l ++ tx m := by simp [tx]
theorem cmpT_num : ∀ (k : Nat) (x y : Int), 0 ≤ x → x < 256 ^ k → 0 ≤ y → y < 256 ^ k → ∀ l m : Txt, Lib.compareBytes (tx (putB x k) ++ l) (tx (putB y k) ++ m) = if cmp1 x y ≠ 0 then cmp1 x y else Lib.compareBytes l m
  | 0, x, y, hx0, hx1, hy0, hy1, l, m => by
    have : x = 0 := by rw [Int.pow_zero] at hx1; omega
    have : y = 0 := by rw [Int.pow_zero] at hy1; omega
    subst x y
    rfl
  | k + 1, x, y, hx0, hx1, hy0, hy1, l, m => by
    rw [Int.pow_succ] at hx1 hy1
    generalize hp : (256 : Int) ^ k = p at hx1 hy1
    have ih := cmpT_num k (x / 256) (y / 256) (by omega) (by rw [hp]; omega) (by omega) (by rw [hp]; omega)
    rw [putB, putB, tx_append, tx_append, List.append_assoc, List.append_assoc, ih, cmpT_byte (by omega) (by omega)]
    unfold cmp1
    by_cases h1 : x / 256 < y / 256
    · rw [if_pos h1, if_pos (show x < y by omega)]; rfl
    · rw [if_neg h1]
      by_cases h2 : y / 256 < x / 256
      · rw [if_pos h2, if_neg (show ¬ x < y by omega), if_pos (show y < x by omega)]; rfl
      · rw [if_neg h2]
        have e : x / 256 = y / 256 := by omega
        rw [if_neg (by decide)]
        by_cases h3 : x % 256 < y % 256
        · rw [if_pos h3, if_pos (show x < y by omega)]
        · rw [if_neg h3, if_neg (show ¬ x < y by omega)]
          by_cases h4 : y % 256 < x % 256
          · rw [if_pos h4, if_pos (show y < x by omega)]
          · rw [if_neg h4, if_neg (show ¬ y < x by omega)]
theorem cmpT_pack : ∀ (l m : List Int), (∀ x ∈ l, 0 ≤ x ∧ x < 4294967296) → (∀ x ∈ m, 0 ≤ x ∧ x < 4294967296) → Lib.compareBytes (tx (packN 4 l)) (tx (packN 4 m)) = cmpI l m
  | [], [], _, _ => rfl
  | [], y :: m, _, _ => by
    rw [show packN 4 (y :: m) = putB y 4 ++ packN 4 m from rfl, putB_front]
    rfl
  | x :: l, [], _, _ => by
    rw [show packN 4 (x :: l) = putB x 4 ++ packN 4 l from rfl, putB_front]
    rfl
  | x :: l, y :: m, hl, hm => by
    rw [show packN 4 (x :: l) = putB x 4 ++ packN 4 l from rfl, show packN 4 (y :: m) = putB y 4 ++ packN 4 m from rfl, tx_append, tx_append]
    have h1 := hl x List.mem_cons_self
    have h2 := hm y List.mem_cons_self
    rw [cmpT_num 4 x y h1.1 h1.2 h2.1 h2.2, cmpT_pack l m (fun z hz => hl z (List.mem_cons_of_mem _ hz)) (fun z hz => hm z (List.mem_cons_of_mem _ hz))]
    rfl
theorem cmpT_key {t : Int} (ht : 0 ≤ t ∧ t < 256) {l m : List Int} (hl : ∀ x ∈ l, 0 ≤ x ∧ x < 4294967296) (hm : ∀ x ∈ m, 0 ≤ x ∧ x < 4294967296) (h7 : l.length ≤ 7) (h7' : m.length ≤ 7) : Lib.compareBytes (tx (keyL t l)) (tx (keyL t m)) = cmpI l m := by
  unfold keyL
  rw [List.take_of_length_le h7, List.take_of_length_le h7', map_held4 hl, map_held4 hm]
  show Lib.compareBytes (tx ([t] ++ packN 4 l)) (tx ([t] ++ packN 4 m)) = _
  rw [tx_append, tx_append, cmpT_byte ht ht, cmpT_pack l m hl hm]
  unfold cmp1
  rw [if_neg (by omega)]

end Go.Proofs.YtlcbmobdokicaaaGreat
