/-
  Contract of the document's Equal. Condition: fewer than 2^30 lines.
-/
import Derived.Test.YtccibahlcpkiaaaGreatLinR
namespace Go.Proofs.YtccibahlcpkiaaaGreat
open Go.RowKit Go.Maps
set_option maxRecDepth 100000
set_option linter.unusedVariables false

theorem fundLn_atS {L : FL} {j : Nat} {x : Ln} (h : (L.map fundLn)[j]? = some x) : ∃ p, L[j]? = some p ∧ x = fundLn p := by
  rw [List.getElem?_map] at h
  obtain ⟨p, h1, h2⟩ := Option.map_eq_some_iff.1 h
  exact ⟨p, h1, h2.symm⟩
section
variable {w w' : World} {A A' : Option Addr} {n m k B B' : Nat} {l l' : List Ln}
set_option maxHeartbeats 1600000 in
theorem refEqual_any (hr : RL w B A n l) (hB : B ≤ w.heap.size) (hn : n ≤ 1073741823) :
    Calls Tryz.prog 17 #[.slice A n k] w fun e w' => e = .returned (.bool (evenF (fundsOf l))) ∧ Below w.heap.size w w' := by
  have HF := Lib.hid (refFunds_any (k := k) hr hB hn)
  have HL := Lib.hid (And.intro (fundsOf_in l hr.ok) (show (fundsOf l).length ≤ n by rw [← hr.len]; exact fundsOf_len l))
  generalize fundsOf l = L at HF HL ⊢
  clear hr hB
  go_enter Tryz.func17, Tryz.ntmps17
  go_wp2_with fail
  refine HF.out.mono ?_
  rintro e w1 ⟨u1, rfl, ho1, hb1⟩
  obtain ⟨A1, c1, rfl, hc1⟩ := ho1.shape
  rw [List.length_map] at ho1 hc1 ⊢
  obtain ⟨_, _, hr1⟩ := ho1.read (fundLn_okQ HL.out.1)
  obtain ⟨N, hN⟩ : ∃ N, N = L.length := ⟨_, rfl⟩
  have HNN := Lib.hid hN
  rw [← hN] at hr1 hc1 ⊢
  have HR1 := Lib.hid hr1
  have HB1 := Lib.hid hb1
  have hNn : N ≤ n := by rw [hN]; exact HL.out.2
  clear ho1 hr1 hb1 hN HF
  go_wp2_with fail
  go_loopw [4] (fun i wr => ∃ j : Nat, j ≤ N ∧ i = .int .i64 j ∧ Hid ((∀ (i : Nat) (y : Int × Int), i < j → L[i]? = some y → y.2 = 0) ∧ Below w1.heap.size w1 wr)) (fun i _ => N - (intOf i).toNat)
  case atStart => exact ⟨0, Nat.zero_le _, rfl, Lib.hid ⟨fun i y h => absurd h (Nat.not_lt_zero _), Below.refl _ _⟩⟩
  case round =>
    obtain ⟨j, hj, rfl, HI⟩ := hrel
    obtain ⟨hno, hb⟩ := HI.out
    by_cases hlt : j < N
    · have hlt' : (j : Int) < (N : Int) := by omega
      obtain ⟨x, hx⟩ : ∃ x, (L.map fundLn)[j]? = some x := ⟨_, List.getElem?_eq_getElem (by rw [List.length_map, ← HNN.out]; exact hlt)⟩
      obtain ⟨b, off, rfl, hbB, hat⟩ := HR1.out.2.2 (by omega)
      obtain ⟨c0, c1', c2, c3⟩ := (hat j x hx).keep hbB (fun b o hbb => hb.cell (p := ⟨b, o, none⟩) hbb)
      obtain ⟨⟨f, s⟩, hp, rfl⟩ := fundLn_atS hx
      simp only [fundLn] at c0 c1' c2 c3
      by_cases hz : s = 0
      · subst hz
        have HE := Lib.hid (show (∀ (i : Nat) (y : Int × Int), i < j + 1 → L[i]? = some y → y.2 = 0) ∧ Below w1.heap.size w1 wr from ⟨fun i y hi hy => by
          rcases Nat.lt_or_ge i j with h | h
          · exact hno i y h hy
          · obtain rfl : i = j := by omega
            rw [hp] at hy
            cases hy
            rfl, hb⟩)
        clear hno hb hx hat hp HI
        go_wp2
        go_roundw
        case rel => exact ⟨j + 1, by omega, by go_num, HE⟩
        case measure => simp [intOf]; omega
      · have hne : (s != 0) = true := by simpa using hz
        have HE := Lib.hid (show evenF L = false ∧ Below w.heap.size w wr from ⟨by
          have : ¬ evenF L = true := fun h => by
            unfold evenF at h
            rw [List.all_eq_true] at h
            exact hz (by simpa using h _ (List.mem_of_getElem? hp))
          simpa using this, HB1.out.trans (hb.mono HB1.out.size)⟩)
        clear hno hb hx hat hp HI hz
        go_wp2
        go_ret
        rw [HE.out.1]
        exact ⟨rfl, HE.out.2⟩
    · obtain rfl : j = N := by omega
      have HE := Lib.hid (show evenF L = true ∧ Below w.heap.size w wr from ⟨by
        unfold evenF
        rw [List.all_eq_true]
        intro p hp
        obtain ⟨i, hi, rfl⟩ := List.mem_iff_getElem.1 hp
        simpa using hno i _ (by rw [HNN.out]; exact hi) (List.getElem?_eq_getElem hi), HB1.out.trans (hb.mono HB1.out.size)⟩)
      clear hno hb HI
      go_wp2
      go_ret
      rw [HE.out.1]
      exact ⟨rfl, HE.out.2⟩
end
end Go.Proofs.YtccibahlcpkiaaaGreat
