/-
  bytes.Compare by its contract: how two slices of bytes stand to one another. No condition but that lengths are ints.
-/
import Derived.Test.YtihjlhegcoceoaaGreatTxtP
import Derived.Lib.BytesEntry
import Derived.Laws.Externs
import Derived.Lib.Walk
import Derived.Lib.Strings
import Derived.Lib.Slices
import Derived.Laws.Strings3
namespace Go.Proofs.YtihjlhegcoceoaaGreat
open Go.RowKit
set_option maxRecDepth 100000
set_option linter.unusedVariables false

/-! ### bytes.Compare -/
theorem cmpB_lt : ∀ (x y : Txt), Lib.compareBytes x y < 0 ↔ x < y
  | [], [] => by simp [Lib.compareBytes]
  | [], _ :: _ => by simp [Lib.compareBytes]
  | _ :: _, [] => by simp [Lib.compareBytes]
  | a :: x, b :: y => by
    unfold Lib.compareBytes
    rw [List.cons_lt_cons_iff]
    by_cases h1 : a < b
    · simp [h1]
    · by_cases h2 : b < a
      · have h3 : ¬ a = b := fun e => by subst e; exact absurd h2 (UInt8.lt_irrefl _)
        simp [h1, h2, h3]
      · have h3 : a = b := UInt8.le_antisymm (UInt8.not_lt.1 h2) (UInt8.not_lt.1 h1)
        subst h3
        simp [h1, cmpB_lt x y]
theorem bcmp_run {w : World} {B B' n m : Nat} {A A' : Option Addr} {l l' : List Int} (c d : Nat) (h : RB w B A n l) (h' : RB w B' A' m l') :
    (Extern.BytealgCompare.compare #[.slice A n c, .slice A' m d]).run Tryz.prog w = .ok (.int .i64 (Lib.compareBytes (tx l) (tx l'))) w := by
  have key : ∀ {B n : Nat} {A : Option Addr} {l : List Int} (c : Nat), RB w B A n l → (Extern.Bytes.bytesOf (.slice A n c)).run Tryz.prog w = .ok ⟨(tx l).toArray⟩ w := by
    intro B n A l c h
    rcases Nat.eq_zero_or_pos n with h0 | h0
    · subst h0
      obtain rfl : l = [] := List.eq_nil_of_length_eq_zero h.len
      cases A <;> rfl
    · obtain ⟨b, off, rfl, _, hc⟩ := h.at_ h0
      have hl := Lib.run_loadBytesX (P := Tryz.prog) w l ⟨b, off, none⟩ .empty (fun j x hj => by
        have hjl : j < l.length := (List.getElem?_eq_some_iff.1 hj).1
        have e : (⟨b, off, none⟩ : Addr).add j = ⟨b, off + j, none⟩ := by unfold Addr.add; split <;> simp_all
        rw [e, hc j (by rw [← h.len]; exact hjl), hj]
        rfl)
      rw [h.len] at hl
      have he : (⟨ByteArray.empty.data ++ (Lib.bytesOf l).toArray⟩ : ByteArray) = ⟨(tx l).toArray⟩ := by
        apply ByteArray.ext
        show (#[] : Array UInt8) ++ (Lib.bytesOf l).toArray = (tx l).toArray
        simp [Lib.bytesOf, tx]
      rw [he] at hl
      exact hl
  change Sem.run Tryz.prog (do pure (goInt (Extern.BytealgCompare.cmp (← Extern.Bytes.bytesOf (.slice A n c)) (← Extern.Bytes.bytesOf (.slice A' m d))))) w = _
  simp only [Sem.run_bind, Sem.run_pure, key c h, key d h', Result.andThen]
  rw [Lib.cmp_eq]
  simp [goInt]

set_option maxHeartbeats 800000 in
theorem bcmp_any {w : World} {B B' n m : Nat} {A A' : Option Addr} {l l' : List Int} (c d : Nat) (h : RB w B A n l) (h' : RB w B' A' m l') :
    Calls Tryz.prog 23 #[.slice A n c, .slice A' m d] w fun e w' => e = .returned (.int .i64 (Lib.compareBytes (tx l) (tx l'))) ∧ w = w' := by
  have hr := Lib.hid (bcmp_run c d h h')
  clear h h'
  generalize Lib.compareBytes (tx l) (tx l') = r at hr ⊢
  go_enter Tryz.func23, Tryz.ntmps23
  go_wp2_with fail
  rw [run_callFunc_extern Tryz.func39 (by kernel_rfl) (by kernel_rfl) (by kernel_rfl) (e := Extern.BytealgCompare.compare) (by kernel_rfl), hr.out]
  simp only [Result.andThen]
  rw [Oper.upon_value]
  go_wp2
  go_ret
  exact ⟨rfl, rfl⟩

end Go.Proofs.YtihjlhegcoceoaaGreat
