/-
  The law's last look, at both views' whole scans, by contract. Conditions: fewer than 32,768 changes, fewer than 2^31 pairs, keys of at most 2^47 bytes.
-/
import Derived.Test.YteojpnkfnflmbaaGreatRefD
import Derived.Test.YteojpnkfnflmbaaGreatEqF
namespace Go.Proofs.YteojpnkfnflmbaaGreat
open Go.RowKit Go.Maps
set_option maxRecDepth 100000
set_option linter.unusedVariables false

section
variable {w w' : World} {X : Nat → Prop} {v m c x p q r : Nat} {a b d : TL} {S : VS}
set_option maxHeartbeats 1600000 in
theorem same_any (hv : ViewAt w X v m c S) (hr : RefAt w X x p q r a b d) (hl : Link S a b d) (hWf : S.W.length ≤ 2147483647) (hWk : ∀ p ∈ S.W, p.1.length ≤ 140737488355328) (hCf : S.C.length ≤ 32767) (hCk : ∀ p ∈ S.C, p.1.length ≤ 140737488355328) (hb : b.length ≤ 2147483647) :
    Calls Tryz.prog 14 #[.pointer (some ⟨v, 0, none⟩), .pointer (some ⟨x, 0, none⟩)] w fun e w' => e = .returned (.bool true) ∧ RowKit.Below w.heap.size w w' := by
  have H1 := Lib.hid (vScan_any hv hWf hWk hCf hCk (A := none) (n := 0) (k := 0) (l := []) (RB.nil_ (w := w) (B := 0)) (Nat.zero_le _))
  have H2 := Lib.hid (show ∀ w1, RowKit.Below w.heap.size w w1 → Calls Tryz.prog 28 #[.pointer (some ⟨x, 0, none⟩), .slice none 0 0] w1 fun e w' => ∃ A' n' k', e = .returned (.slice A' n' k') ∧ SPs w' X A' n' k' (b.filter fun q => (tx []).isPrefixOf q.1) ∧ RowKit.Below w1.heap.size w1 w' from fun w1 hb1 =>
    refScan_any (hr.below hb1) hb (RB.nil_ (w := w1) (B := 0)) (Nat.zero_le _) (Nat.zero_le _) (Nat.le_refl _))
  have HE := Lib.hid (show S.scan (tx []) = b.filter fun q => (tx []).isPrefixOf q.1 from by unfold VS.scan; rw [hl.nowL])
  have HN := Lib.hid (show (b.filter fun q => (tx []).isPrefixOf q.1).length ≤ maxLen from Nat.le_trans (List.length_filter_le _ _) (by unfold maxLen; omega))
  clear hv hr hl hWf hWk hCf hCk hb
  go_enter Tryz.func14, Tryz.ntmps14
  go_wp2_with fail
  refine H1.out.mono ?_
  rintro e w1 ⟨A1, n1, k1, rfl, hk1, hp1, hb1⟩
  have HP1 := Lib.hid hp1
  have HB1 := Lib.hid hb1
  have h2 := H2.out w1 hb1
  have HC := Lib.hid h2
  clear hp1 hb1 h2
  go_wp2_with fail
  refine HC.out.mono ?_
  rintro e w2 ⟨A2, n2, k2, rfl, hs2, hb2⟩
  have hq := hs2.pairs
  have h1 := HP1.out
  rw [HE.out] at h1
  have hn1 : n1 ≤ maxLen := by rw [← h1.1, List.length_map]; exact HN.out
  have hn2 : n2 ≤ maxLen := by rw [← hq.1, List.length_map]; exact HN.out
  have HPL := Lib.hid (plPairs_any (k := k1) (k' := k2) (h1.below hb2) hq hb2.size (Nat.le_refl _) hn1 hn2)
  have HB2 := Lib.hid (HB1.out.trans (hb2.mono HB1.out.size))
  clear hs2 hb2 hq h1
  go_wp2_with fail
  refine HPL.out.mono ?_
  rintro e w3 ⟨rfl, hb3⟩
  have HB3 := Lib.hid (HB2.out.trans (hb3.mono HB2.out.size))
  clear hb3
  go_wp2_with fail
  go_ret
  exact ⟨by simp, HB3.out⟩
end

end Go.Proofs.YteojpnkfnflmbaaGreat
