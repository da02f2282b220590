/-
  The interf laws' own check, and the walks of InterfTells and InterfEqual: each returns true. No condition beyond those that the statements themselves say.
-/
import Derived.Test.YtccibahlcpkiaaaItfB
import Derived.Test.YtccibahlcpkiaaaItfR
namespace Go.Proofs.Ytccibahlcpkiaaa
open Go.RowKit
set_option maxRecDepth 100000
set_option linter.unusedVariables false

/-- A literal of lines. -/
theorem RL.lit (w : World) (T : TypeId) (l : List Ln) (cs : Array Value) (hcs : cs = (lnsV l).toArray) (hl : ∀ x ∈ l, LnOk x) : RL (w.alloc (.cells cs T (0, 0))) (w.alloc (.cells cs T (0, 0))).heap.size (some ⟨w.heap.size, 0, none⟩) l.length l := by
  subst hcs
  have hb := heap_alloc_new w (.cells (lnsV l).toArray T (0, 0))
  refine ⟨rfl, hl, fun _ => ⟨w.heap.size, 0, rfl, (Array.getElem?_eq_some_iff.1 hb).1, fun j x hx => ?_⟩⟩
  obtain ⟨g0, g1, g2, g3⟩ := lnsV_at hx
  have at_ : ∀ k u, (lnsV l)[k]? = some u → (w.alloc (.cells (lnsV l).toArray T (0, 0))).cell? ⟨w.heap.size, k, none⟩ = some u := fun k u hu => by
    rw [cell_of_row _ _ k _ _ (0, 0) hb, ← hu]
    simp
  rw [Nat.zero_add]
  exact ⟨at_ _ _ g0, at_ _ _ g1, at_ _ _ g2, at_ _ _ g3⟩
def awLn : List Ln := [⟨100, 5010, 0, 5⟩, ⟨200, 1010, 0, -5⟩]
def awBal : List Ln := [⟨100, 2900, 0, -5⟩, ⟨200, 1900, 0, 5⟩]
theorem awLn_ok : ∀ x ∈ awLn, LnOk x := by
  intro x hx
  unfold awLn at hx
  simp only [List.mem_cons, List.not_mem_nil, or_false] at hx
  rcases hx with rfl | rfl <;> (unfold LnOk B64; simp only; omega)
theorem awBal_ok : ∀ x ∈ awBal, LnOk x := by
  intro x hx
  unfold awBal at hx
  simp only [List.mem_cons, List.not_mem_nil, or_false] at hx
  rcases hx with rfl | rfl <;> (unfold LnOk B64; simp only; omega)
theorem awBal_is : balL (fundsOf awLn) = awBal := by decide +kernel

section
variable {w w' : World} {A A' : Option Addr} {n m k B B' : Nat} {l l' : List Ln}
set_option maxHeartbeats 400000 in
theorem fewLines_any (A : Option Addr) (n k : Nat) (w : World) : Calls Try.prog 5 #[.slice A n k] w fun e w' => e = .returned (.bool (decide (n ≤ 30))) ∧ w = w' := by
  by_cases h : n ≤ 30
  · rw [decide_eq_true h]
    have hn : (n : Int) ≤ 30 := by omega
    go_enter Try.func5, Try.ntmps5
    go_wp2
    go_ret
    exact ⟨rfl, rfl⟩
  · rw [decide_eq_false h]
    have hn : ¬ (n : Int) ≤ 30 := by omega
    go_enter Try.func5, Try.ntmps5
    go_wp2
    go_ret
    exact ⟨rfl, rfl⟩
set_option maxHeartbeats 1600000 in
theorem itfAwake_any (w : World) : Calls Try.prog 6 #[] w fun e w' => e = .returned (.bool true) ∧ Below w.heap.size w w' := by
  have hb1 : Below w.heap.size w (w.alloc (.cells #[.int .i64 100, .int .i64 5010, .int .i64 0, .int .i64 5, .int .i64 200, .int .i64 1010, .int .i64 0, .int .i64 (-5)] 27 (0, 0))) := (Below.refl _ _).alloc (Nat.le_refl _) _
  have HBAL := Lib.hid (balance_any (k := 2) (RL.lit w 27 awLn #[.int .i64 100, .int .i64 5010, .int .i64 0, .int .i64 5, .int .i64 200, .int .i64 1010, .int .i64 0, .int .i64 (-5)] rfl awLn_ok) (Nat.le_refl _) (by decide))
  rw [awBal_is] at HBAL
  have HB1 := Lib.hid hb1
  clear hb1
  go_enter Try.func6, Try.ntmps6
  go_wp2_with fail
  refine HBAL.out.mono ?_
  rintro e w2 ⟨u2, rfl, ho2, hb2⟩
  obtain ⟨A2, c2, rfl, hc2⟩ := ho2.shape
  obtain ⟨_, _, hr2⟩ := ho2.read awBal_ok
  have hlen : awBal.length = 2 := rfl
  rw [hlen] at hr2 ⊢
  have hX : Below w2.heap.size w2 (w2.alloc (.cells #[.int .i64 100, .int .i64 2900, .int .i64 0, .int .i64 (-5), .int .i64 200, .int .i64 1900, .int .i64 0, .int .i64 5] 27 (0, 0))) := (Below.refl _ _).alloc (Nat.le_refl _) _
  have HEQ := Lib.hid (EqualLn_any c2 2 (hr2.below hX) (RL.lit w2 27 awBal #[.int .i64 100, .int .i64 2900, .int .i64 0, .int .i64 (-5), .int .i64 200, .int .i64 1900, .int .i64 0, .int .i64 5] rfl awBal_ok) (by decide) (by decide) hX.size (Nat.le_refl _))
  rw [decide_eq_true rfl] at HEQ
  have HB2 := Lib.hid (HB1.out.trans ((hb2.trans (hX.mono hb2.size)).mono HB1.out.size))
  clear ho2 hr2 hX hb2 HBAL HB1 hlen hc2
  go_wp2_with fail
  refine HEQ.out.mono ?_
  rintro e w3 ⟨rfl, hb3⟩
  have HB3 := Lib.hid (HB2.out.trans (hb3.mono HB2.out.size))
  clear hb3
  go_wp2
  go_ret
  exact ⟨rfl, HB3.out⟩
set_option maxHeartbeats 1600000 in
theorem interfTells_any (hr : RL w w.heap.size A n l) (hnk : n ≤ k) (hm : n ≤ maxLen) : Calls Try.prog 3 #[.slice A n k] w fun e w' => e = .returned (.bool true) ∧ Below w.heap.size w w' := by
  have HF := Lib.hid (fewLines_any A n k w)
  by_cases hn : n ≤ 30
  · rw [decide_eq_true hn] at HF
    have HB1 := Lib.hid (balance_any (k := k) hr (Nat.le_refl _) (by omega))
    have HR := Lib.hid hr
    have HBK := Lib.hid (balL_ok (fundsOf_in l hr.ok))
    have HLN := Lib.hid (And.intro hr.len (show (balL (fundsOf l)).length ≤ n from Nat.le_trans (balL_len _) (by rw [← hr.len]; exact fundsOf_len l)))
    clear hr
    go_enter Try.func3, Try.ntmps3
    go_wp2_with fail
    refine HF.out.mono ?_
    rintro e w' ⟨rfl, rfl⟩
    go_wp2_with fail
    refine HB1.out.mono ?_
    rintro e w1 ⟨u1, rfl, ho1, hb1⟩
    have HO1 := Lib.hid (And.intro ho1 hb1)
    have HB2 := Lib.hid (refBalance_any (k := k) (HR.out.below hb1) hb1.size (by omega))
    clear ho1 hb1
    go_wp2_with fail
    refine HB2.out.mono ?_
    rintro e w2 ⟨u2, rfl, ho2, hb2⟩
    have ho1 := HO1.out.1.below hb2
    obtain ⟨A1, c1, rfl, hc1⟩ := ho1.shape
    obtain ⟨A2, c2, rfl, hc2⟩ := ho2.shape
    obtain ⟨_, _, hr1⟩ := ho1.read HBK.out
    obtain ⟨_, _, hr2⟩ := ho2.read HBK.out
    have HEQ := Lib.hid (EqualLn_any c1 c2 hr1 hr2 (by have := HLN.out.2; unfold maxLen; omega) (by have := HLN.out.2; unfold maxLen; omega) (Nat.le_refl _) (Nat.le_refl _))
    rw [decide_eq_true rfl] at HEQ
    have HW2 := Lib.hid (HO1.out.2.trans (hb2.mono HO1.out.2.size))
    clear ho1 ho2 hr1 hr2 hb2 hc1 hc2
    go_wp2_with fail
    refine HEQ.out.mono ?_
    rintro e w3 ⟨rfl, hb3⟩
    have HW3 := Lib.hid (HW2.out.trans (hb3.mono HW2.out.size))
    have HA1 := Lib.hid (itfAll_any (k := k) (HR.out.below HW3.out) HW3.out.size (by omega))
    clear hb3
    go_wp2_with fail
    refine HA1.out.mono ?_
    rintro e w4 ⟨u4, rfl, ho4, hb4⟩
    have HW4 := Lib.hid (HW3.out.trans (hb4.mono HW3.out.size))
    have HO4 := Lib.hid ho4
    have HA2 := Lib.hid (refAll_any (k := k) (HR.out.below HW4.out) HW4.out.size (by omega))
    clear ho4 hb4
    go_wp2_with fail
    refine HA2.out.mono ?_
    rintro e w5 ⟨u5, rfl, ho5, hb5⟩
    have ho4 := HO4.out.below hb5
    obtain ⟨A4, c4, rfl, hc4⟩ := ho4.shape
    obtain ⟨A5, c5, rfl, hc5⟩ := ho5.shape
    have hall : ∀ x ∈ l ++ balL (fundsOf l), LnOk x := fun x hx => by
      rcases List.mem_append.1 hx with h | h
      · exact HR.out.ok x h
      · exact HBK.out x h
    obtain ⟨_, _, hr4⟩ := ho4.read hall
    obtain ⟨_, _, hr5⟩ := ho5.read hall
    have hlen : (l ++ balL (fundsOf l)).length ≤ 60 := by rw [List.length_append, HLN.out.1]; have := HLN.out.2; omega
    obtain ⟨M, hM⟩ : ∃ M, M = l ++ balL (fundsOf l) := ⟨_, rfl⟩
    rw [← hM] at hr4 hr5 hlen ⊢
    have HEQ2 := Lib.hid (EqualLn_any c4 c5 hr4 hr5 (by unfold maxLen; omega) (by unfold maxLen; omega) (Nat.le_refl _) (Nat.le_refl _))
    rw [decide_eq_true rfl] at HEQ2
    have HW5 := Lib.hid (HW4.out.trans (hb5.mono HW4.out.size))
    clear ho4 ho5 hr4 hr5 hb5 hall hc4 hc5 hlen hM
    go_wp2_with fail
    refine HEQ2.out.mono ?_
    rintro e w6 ⟨rfl, hb6⟩
    have HW6 := Lib.hid (HW5.out.trans (hb6.mono HW5.out.size))
    have HAW := Lib.hid (itfAwake_any w6)
    clear hb6
    go_wp2_with fail
    refine HAW.out.mono ?_
    rintro e w7 ⟨rfl, hb7⟩
    have HW7 := Lib.hid (HW6.out.trans (hb7.mono HW6.out.size))
    clear hb7
    go_wp2
    go_ret
    exact ⟨rfl, HW7.out⟩
  · rw [decide_eq_false hn] at HF
    have HAW := Lib.hid (itfAwake_any w)
    go_enter Try.func3, Try.ntmps3
    go_wp2_with fail
    refine HF.out.mono ?_
    rintro e w' ⟨rfl, rfl⟩
    go_wp2_with fail
    refine HAW.out.mono ?_
    rintro e w7 ⟨rfl, hb7⟩
    have HW7 := Lib.hid hb7
    clear hb7
    go_wp2
    go_ret
    exact ⟨rfl, HW7.out⟩
end
end Go.Proofs.Ytccibahlcpkiaaa
