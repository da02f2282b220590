/-
  Contracts of the small functions of meta and of its plain twin: fit, in, mayBe, lay. Conditions: lengths are ints; what is laid lies within the page, and is right.
-/
import Derived.Test.YtenpmaagnljabaaMetaP
import Derived.Test.YtenpmaagnljabaaBlk
import Derived.Test.YtenpmaagnljabaaInts
import Derived.Test.YtenpmaagnljabaaRefPut
import Derived.Deep.RegionHeld3
namespace Go.Proofs.Ytenpmaagnljabaa
open Go.RowKit
set_option maxRecDepth 100000
set_option linter.unusedVariables false

theorem fitB_take {l : List Int} {k : Nat} (h : fitB (l.take k) = true) (hk : k < l.length) (hr : rightB (l[k]?.getD 0) 4 = true) : fitB (l.take (k + 1)) = true := by
  rw [List.take_succ_eq_append_getElem hk]
  rw [List.getElem?_eq_getElem hk] at hr
  unfold fitB at h ⊢
  rw [List.all_append, h]
  simpa using hr
theorem fitB_not {l : List Int} {k : Nat} (hk : k < l.length) (hr : rightB (l[k]?.getD 0) 4 = false) : fitB l = false := by
  rw [List.getElem?_eq_getElem hk] at hr
  cases h : fitB l
  · rfl
  · have := fit_mem h (List.getElem_mem hk)
    have hr' : rightB l[k] 4 = false := hr
    rw [this] at hr'
    cases hr'

set_option maxHeartbeats 400000 in
theorem fit_any {w : World} {B n : Nat} {A : Option Addr} {l : List Int} (c : Nat) (hr : RI w B A n l) (hm : n ≤ maxLen) :
    Calls Try.prog 22 #[.slice A n c] w fun e w' => e = .returned (.bool (fitB l)) ∧ w = w' := by
  unfold maxLen at hm
  have hlen := hr.len
  go_enter Try.func22, Try.ntmps22
  go_wp2_with fail
  go_loop [7] (fun i => ∃ k : Nat, k ≤ n ∧ i = .int .i64 k ∧ Hid (fitB (l.take k) = true)) (fun i => n - (intOf i).toNat)
  case atStart => exact ⟨0, Nat.zero_le _, rfl, Lib.hid rfl⟩
  case round =>
    obtain ⟨k, hk, rfl, hbef⟩ := hrel
    by_cases hlt : k < n
    · obtain ⟨b, off, rfl, hb, hcell⟩ := hr.2.2 (by omega)
      have hck := hcell k hlt
      have hlt' : (k : Int) < (n : Int) := by omega
      cases hv : rightB (l[k]?.getD 0) 4
      · have HV := Lib.hid hv
        have HF := Lib.hid (fitB_not (by omega) hv)
        clear hv hcell
        generalize l[k]?.getD 0 = u at hck HV
        go_wp2_with (go_at_call 28; refine (Right_no _ _ _ HV.out).mono ?_; rintro e w' ⟨rfl, rfl⟩)
        go_ret
        rw [HF.out]
        exact ⟨rfl, rfl⟩
      · have HV := Lib.hid hv
        have HF := Lib.hid (fitB_take hbef.out (by omega) hv)
        clear hv hcell
        generalize l[k]?.getD 0 = u at hck HV
        go_wp2_with (go_at_call 28; refine (Right_yes _ _ _ HV.out).mono ?_; rintro e w' ⟨rfl, rfl⟩)
        go_round
        case rel => exact ⟨k + 1, by omega, by go_num, HF⟩
        case measure => simp [intOf]; omega
    · obtain rfl : k = n := by omega
      have HF := Lib.hid (show fitB l = true by
        have := hbef.out
        rwa [List.take_of_length_le (by omega)] at this)
      go_wp2
      go_ret
      rw [HF.out]
      exact ⟨rfl, rfl⟩

set_option maxHeartbeats 400000 in
theorem refIn_any (n : Int) (w : World) : Calls Try.prog 24 #[.int .i64 n] w fun e w' => e = .returned (.bool (rightB n 4)) ∧ w = w' := by
  have hq : rightB n 4 = (decide (0 ≤ n) && decide (n < 4294967296)) := by
    unfold rightB
    by_cases a : 0 ≤ n <;> by_cases b : n < 4294967296 <;> simp [a, b]
  rw [hq]
  clear hq
  generalize h1 : decide (0 ≤ n) = b1
  generalize h2 : decide (n < 4294967296) = b2
  cases b1
  · go_enter Try.func24, Try.ntmps24
    go_wp2
    go_ret
    exact ⟨rfl, rfl⟩
  cases b2
  · go_enter Try.func24, Try.ntmps24
    go_wp2
    go_ret
    exact ⟨rfl, rfl⟩
  · go_enter Try.func24, Try.ntmps24
    go_wp2
    go_ret
    exact ⟨rfl, rfl⟩

theorem RI.lit (w : World) (e : TypeId) (l : List Int) (cs : Array Value) (hcs : cs = (l.map (Value.int .i64)).toArray) (h : ∀ x ∈ l, -9223372036854775808 ≤ x ∧ x ≤ 9223372036854775807) : RI (w.alloc (.cells cs e)) (w.heap.size + 1) (some ⟨w.heap.size, 0, none⟩) l.length l := by
  subst hcs
  refine ⟨rfl, h, fun hn => ⟨w.heap.size, 0, rfl, Nat.lt_succ_self _, fun j hj => ?_⟩⟩
  rw [Nat.zero_add, cell_of_row _ w.heap.size j _ e (0, 0) (heap_alloc_new w _)]
  simp [List.getElem?_eq_getElem hj]

/-- Put of one number alone. -/
theorem PutNil_any (x : Int) (k : Nat) (w : World) (hs : rightB x (k : Int) = true) (hk8 : k ≤ 8) (hx : -9223372036854775808 ≤ x ∧ x ≤ 9223372036854775807) :
    Calls Try.prog 23 #[.slice none 0 0, .int .i64 x, .int .i64 (k : Int)] w fun e w' => ∃ g, e = .returned (.slice (some ⟨g, 0, none⟩) k k) ∧ w.heap.size ≤ g ∧ w'.heap[g]? = some (.cells ((putB x k).map (Value.int .u8)).toArray 5 (0, 0)) ∧ Below w.heap.size w w' := by
  refine (Put_any none 0 0 0 [] x (k : Int) w RB.nil_ (Nat.zero_le _) (Nat.le_refl _) (by decide) hx.1 hx.2).mono ?_
  rintro e w' ⟨v, rfl, ⟨g, rfl, hg, hh⟩, hb⟩
  have e1 : putR [] x (k : Int) = putB x k := by
    unfold putR
    rw [if_pos hs, Int.toNat_natCast, List.nil_append]
  rw [e1] at hh
  exact ⟨g, by rw [e1, putB_length], hg, hh, hb⟩

/-- The page with some bytes over it. -/
theorem splice_more {L d e : List Int} {a : Nat} (h : a + d.length + e.length ≤ L.length) : splice (splice L a d) (a + d.length) e = splice L a (d ++ e) := by
  have hP : (L.take a ++ d).length = a + d.length := by simp; omega
  have e0 : splice L a d = (L.take a ++ d) ++ L.drop (a + d.length) := by unfold splice; simp [List.append_assoc]
  have h1 : ((L.take a ++ d) ++ L.drop (a + d.length)).take (a + d.length) = L.take a ++ d := List.take_left' hP
  have h2 : ((L.take a ++ d) ++ L.drop (a + d.length)).drop (a + d.length + e.length) = L.drop (a + (d ++ e).length) := by
    rw [← List.drop_drop, List.drop_left' hP, List.drop_drop, List.length_append, Nat.add_assoc]
  rw [e0]
  unfold splice
  rw [h1, h2]
  simp [List.append_assoc]

end Go.Proofs.Ytenpmaagnljabaa
