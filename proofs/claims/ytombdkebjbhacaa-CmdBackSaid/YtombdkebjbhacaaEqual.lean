/-
  bytes.Equal by its contract: whether two slices have the same bytes, nil and empty alike; nothing is written. No condition.
-/
import Derived.Test.YtombdkebjbhacaaApp
import Derived.Laws.BytesArg
import Derived.Lib.Bytes
namespace Go.Proofs.Ytombdkebjbhacaa
open Go.RowKit
set_option maxRecDepth 100000
set_option linter.unusedVariables false

theorem RB.conv {w : World} {B n : Nat} {A : Option Addr} {l : List Int} (h : RB w B A n l) (c : Nat) : (convert 28 9 (.slice A n c)).run Try.prog w = .ok (.string (strOfNums l)) w := by
  rcases Nat.eq_zero_or_pos n with hn | hn
  · subst hn
    obtain rfl : l = [] := List.eq_nil_of_length_eq_zero h.len
    rw [run_convert_bytes_string w 28 9 5 _ 0 c Try.underlying28 Try.underlying5 Try.underlying9]
    cases A <;> simp [Conv.bytesToString, loadCells]
    all_goals rfl
  · obtain ⟨b, off, rfl, _, hc⟩ := h.at_ hn
    exact run_convert_bytes_arg (P := Try.prog) w 28 5 Try.underlying28 Try.underlying5 b off n c l h.len (fun i hi => by rw [hc i hi]; simp) 9 Try.underlying9

theorem strOfNums_inj {l m : List Int} (hl : AllBytes l) (hm : AllBytes m) (h : (strOfNums l).toList = (strOfNums m).toList) : l = m := by
  have key : ∀ l : List Int, AllBytes l → l = (l.map fun n => UInt8.ofNat n.toNat).map (fun u => (u.toNat : Int)) := by
    intro l hl
    rw [List.map_map]
    conv => lhs; rw [← List.map_id l]
    refine List.map_congr_left fun x hx => ?_
    obtain ⟨a, b⟩ := hl x hx
    simp
    omega
  have e : ∀ l : List Int, (strOfNums l).toList = l.map fun n => UInt8.ofNat n.toNat := fun l => by rw [Lib.strOfNums_toList]; rfl
  rw [e, e] at h
  rw [key l hl, key m hm, h]

set_option maxHeartbeats 400000 in
theorem Equal_any {w : World} {B B' n m : Nat} {A A' : Option Addr} {l l' : List Int} (c d : Nat) (h : RB w B A n l) (h' : RB w B' A' m l') :
    Calls Try.prog 10 #[.slice A n c, .slice A' m d] w fun e w' => e = .returned (.bool (decide (l = l'))) ∧ w = w' := by
  have h1 := h.conv c
  have h2 := h'.conv d
  have hd : decide (l = l') = ((strOfNums l).toList == (strOfNums l').toList) := by
    by_cases e : l = l'
    · subst e; simp
    · have : ¬ (strOfNums l).toList = (strOfNums l').toList := fun e' => e (strOfNums_inj h.bytes h'.bytes e')
      simp [e, this]
  rw [hd]
  clear hd
  go_enter Try.func10, Try.ntmps10
  go_wp2
  go_ret
  exact ⟨rfl, rfl⟩

end Go.Proofs.Ytombdkebjbhacaa
