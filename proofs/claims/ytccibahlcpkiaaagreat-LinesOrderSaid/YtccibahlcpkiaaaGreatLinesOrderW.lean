/-
  The walk of LinesOrder: it returns true. No condition beyond those that the statement itself says.
-/
import Derived.Test.YtccibahlcpkiaaaGreatLinW
namespace Go.Proofs.YtccibahlcpkiaaaGreat
open Go.RowKit Go.Maps
set_option maxRecDepth 100000
set_option linter.unusedVariables false

theorem step_append_runO {P : Program} {ops : Array Oper} {o : Oper} {a : Act} {w : World} {K : Act → World → Prop} {Q : Exit → Act → World → Prop} {E : Prop} (hgd : o.guard = none) (s x : Operand) (t tn : TypeId)
    (ho : o.op = .call { callee := .builtin .append, args := #[s, x], argTypes := #[t, tn] }) (v u : Value) (hs : a.eval s = v) (hx : a.eval x = u) {v' : Value} {w' : World}
    (hrun : (Builtin.append_ #[t, tn] o.type #[v, u]).run P w = .ok v' w') (h : K (a.put o.dst v') w') :
    if Region.wanted o (yielded ops a.tmps) = true then Oper.wp P o a w K Q else E := by
  have hw : Region.wanted o (yielded ops a.tmps) = true := by simp [Region.wanted, hgd]
  rw [if_pos hw]
  exact Lib.wp_append_run w s x t tn ho v u hs hx _ _ hrun h
section
variable {w w' : World} {A A' : Option Addr} {n m k B B' : Nat} {l l' : List Ln}
set_option maxHeartbeats 400000 in
theorem fewLn_any (A : Option Addr) (n k : Nat) (w : World) : Calls Tryz.prog 5 #[.slice A n k] w fun e w' => e = .returned (.bool (decide (n ≤ 30))) ∧ w = w' := by
  by_cases h : n ≤ 30
  · rw [decide_eq_true h]
    have hn : (n : Int) ≤ 30 := by omega
    go_enter Tryz.func5, Tryz.ntmps5
    go_wp2
    go_ret
    exact ⟨rfl, rfl⟩
  · rw [decide_eq_false h]
    have hn : ¬ (n : Int) ≤ 30 := by omega
    go_enter Tryz.func5, Tryz.ntmps5
    go_wp2
    go_ret
    exact ⟨rfl, rfl⟩
set_option maxHeartbeats 1600000 in
theorem linesOrder_any {y : Int} (hr : RL w w.heap.size A n l) (hnk : n ≤ k) (hm : n ≤ maxLen) (hy : 0 ≤ y ∧ y < 256) : Calls Tryz.prog 4 #[.slice A n k, .int .u8 y] w fun e w' => e = .returned (.bool true) ∧ Below w.heap.size w w' := by
  have HF := Lib.hid (fewLn_any A n k w)
  by_cases hn : n ≤ 30
  · rw [decide_eq_true hn] at HF
    by_cases h0 : n = 0
    · subst h0
      have HAW := Lib.hid (linAwake_any w)
      clear hr
      go_enter Tryz.func4, Tryz.ntmps4
      go_wp2_with fail
      refine HF.out.mono ?_
      rintro e w' ⟨rfl, rfl⟩
      go_wp2_with fail
      refine HAW.out.mono ?_
      rintro e w7 ⟨rfl, hb7⟩
      have HW7 := Lib.hid hb7
      clear hb7
      go_wp2
      go_ret
      exact ⟨rfl, HW7.out⟩
    · have hne : ((n : Int) == 0) = false := by simp; omega
      have hn0 : ¬ (n : Int) = 0 := by omega
      have hn00 : (n : Int) ≠ 0 := by omega
      obtain ⟨b, off, rfl, hbB, hat⟩ := hr.2.2 (by omega)
      obtain ⟨K, hK⟩ : ∃ K : Nat, y % (n : Int) = (K : Int) := ⟨(y % (n : Int)).toNat, by have := Int.emod_nonneg y hn00; omega⟩
      have hKn : K < n := by have := Int.emod_lt_of_pos y (show (0 : Int) < (n : Int) by omega); omega
      have HR := Lib.hid hr
      clear hr hat hbB
      go_enter Tryz.func4, Tryz.ntmps4
      go_wp2_with fail
      refine HF.out.mono ?_
      rintro e w' ⟨rfl, rfl⟩
      go_wp2_with fail
      rw [hK]
      clear hK
      have hback : RL w w.heap.size (some ⟨b, off + K * 4, none⟩) (n - K) (l.drop K) := by
        have := HR.out.back (j := K) (c := k) (by omega) hnk
        rwa [if_neg (by omega), show (some (⟨b, off, none⟩ : Addr)).map (·.add (K * 4)) = some ⟨b, off + K * 4, none⟩ from congrArg some (add_none _ _ _)] at this
      have hk0 : (0 : Int) ≤ (K : Int) := by omega
      have hk1 : (K : Int) ≤ (n : Int) := by omega
      have hk2 : (K : Int) ≤ (k : Int) := by omega
      have hk3 : ¬ k = K := by omega
      have hk4 : ((n : Int) - (K : Int)).toNat = n - K := by omega
      have HCL := Lib.hid (fun W (hb : Below w.heap.size w W) => cloneLn_any (k - K) (hback.below hb) hb.size (by omega))
      have HAP := Lib.hid (fun W (hb : Below w.heap.size w W) u (ho : LOwn W w.heap.size u (l.drop K)) => ho.appendL (c := k) ((HR.out.front (j := K) (by omega)).below hb) (by rw [List.length_drop, HR.out.len]; omega) (by omega) hb.size 23)
      clear hback
      go_region_held3 (fun _ => True)
        (exact trivial)
        (first
          | (go_at_call 18; refine (HCL.out _ (Below.refl _ _).drew).mono ?_; rintro e w4 ⟨u4, rfl, ho4, hb4⟩; have hb04 := (Below.refl w.heap.size w).drew.trans hb4; obtain ⟨v5, w5, hrun, ho5, hb5, _⟩ := HAP.out w4 hb04 u4 ho4)
          | (refine step_append_runO rfl (.tmp 25) (.tmp 28) _ _ rfl _ _ (by rfl) (by rfl) hrun ?_))
      have hml : (l.drop K ++ l.take K).length = n := by rw [List.length_append, List.length_drop, List.length_take, HR.out.len]; omega
      have hb5' := hb04.trans hb5
      have HREV := Lib.hid (revLn_any ho5 (by rw [hml]; omega) hb5'.size)
      have hperm : l.Perm (l.drop K ++ l.take K).reverse := by
        refine List.Perm.trans ?_ (List.reverse_perm _).symm
        have h1 : l.Perm (l.take K ++ l.drop K) := by rw [List.take_append_drop]
        exact h1.trans List.perm_append_comm
      have HPE := Lib.hid (And.intro (fundsOf_perm hperm HR.out.ok) (And.intro (fun x (hx : x ∈ (l.drop K ++ l.take K).reverse) => HR.out.ok x (hperm.mem_iff.2 hx)) (show ((l.drop K ++ l.take K).reverse).length = n by rw [List.length_reverse, hml])))
      generalize (l.drop K ++ l.take K).reverse = M at HREV HPE
      have HB5 := Lib.hid hb5'
      clear ho4 hb4 hb04 hrun ho5 hb5 hb5' hperm hml HCL HAP hk0 hk1 hk2 hk3 hk4
      go_wp2_with fail
      refine HREV.out.mono ?_
      rintro e w6 ⟨rfl, ho6, hb6⟩
      have hb06 := HB5.out.trans hb6
      have HFU := Lib.hid (funds_any (k := k) (HR.out.below hb06) hb06.size (by omega))
      obtain ⟨A6, c6, rfl, hc6⟩ := ho6.shape
      rw [HPE.out.2.2] at ho6 hc6 ⊢
      have HO6 := Lib.hid (And.intro ho6 hb06)
      clear ho6 hb6 hb06 HREV HB5
      go_wp2_with fail
      refine HFU.out.mono ?_
      rintro e w7 ⟨u7, rfl, ho7, hb7⟩
      have hb07 := HO6.out.2.trans (hb7.mono HO6.out.2.size)
      have hrM := ((HO6.out.1.below hb7).read HPE.out.2.1).2.2
      have HFM := Lib.hid (funds_any (k := c6) hrM (Nat.le_refl _) (by omega))
      rw [← HPE.out.1] at HFM
      have HL := Lib.hid (And.intro (fundLn_ok (fundsOf_in l HR.out.ok)) (And.intro (rise_fundLn (fundsOf_rise l)) (show ((fundsOf l).map fundLn).length ≤ 30 by rw [List.length_map]; have := fundsOf_len l; have := HR.out.len; omega)))
      generalize (fundsOf l).map fundLn = F at HL HFM ho7
      have HO7 := Lib.hid (And.intro ho7 hb07)
      clear ho7 hb7 hb07 hrM HFU HPE
      go_wp2_with fail
      refine HFM.out.mono ?_
      rintro e w8 ⟨u8, rfl, ho8, hb8⟩
      have hb08 := HO7.out.2.trans (hb8.mono HO7.out.2.size)
      have ho7 := HO7.out.1.below hb8
      obtain ⟨A7, c7, rfl, hc7⟩ := ho7.shape
      obtain ⟨A8, c8, rfl, hc8⟩ := ho8.shape
      have hr7 := (ho7.read HL.out.1).2.2
      have hr8 := (ho8.read HL.out.1).2.2
      have HEQ := Lib.hid (EqualLn_any c7 c8 hr7 hr8 (by have := HL.out.2.2; unfold maxLen; omega) (by have := HL.out.2.2; unfold maxLen; omega) (Nat.le_refl _) (Nat.le_refl _))
      rw [decide_eq_true rfl] at HEQ
      have HIS := Lib.hid (fun W (hb : Below w8.heap.size w8 W) => isSortedLn_any (k := c7) (hr7.below hb) hb.size (by have := HL.out.2.2; omega) HL.out.2.1)
      have HB8 := Lib.hid hb08
      clear ho7 ho8 hr7 hr8 hb8 hb08 hc7 hc8 HFM
      go_wp2_with fail
      refine HEQ.out.mono ?_
      rintro e w9 ⟨rfl, hb9⟩
      have HI9 := Lib.hid (HIS.out w9 hb9)
      have HB9 := Lib.hid (HB8.out.trans (hb9.mono HB8.out.size))
      clear hb9 HEQ HIS
      go_wp2_with fail
      refine HI9.out.mono ?_
      rintro e w10 ⟨rfl, hb10⟩
      have HB10 := Lib.hid (HB9.out.trans (hb10.mono HB9.out.size))
      have HAW := Lib.hid (linAwake_any w10)
      clear hb10 HI9
      go_wp2_with fail
      refine HAW.out.mono ?_
      rintro e w11 ⟨rfl, hb11⟩
      have HW11 := Lib.hid (HB10.out.trans (hb11.mono HB10.out.size))
      clear hb11
      go_wp2
      go_ret
      exact ⟨rfl, HW11.out⟩
  · rw [decide_eq_false hn] at HF
    have HAW := Lib.hid (linAwake_any w)
    go_enter Tryz.func4, Tryz.ntmps4
    go_wp2_with fail
    refine HF.out.mono ?_
    rintro e w' ⟨rfl, rfl⟩
    go_wp2_with fail
    refine HAW.out.mono ?_
    rintro e w7 ⟨rfl, hb7⟩
    have HW7 := Lib.hid hb7
    clear hb7
    go_wp2
    go_ret
    exact ⟨rfl, HW7.out⟩
end
end Go.Proofs.YtccibahlcpkiaaaGreat
