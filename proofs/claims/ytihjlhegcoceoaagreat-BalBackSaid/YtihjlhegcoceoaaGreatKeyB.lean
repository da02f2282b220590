/-
  Contracts of keys.Split and of the plain Split: the tag and the numbers whose key it is, or nothing; nothing that was there is written. No condition but that lengths are ints.
-/
import Derived.Test.YtihjlhegcoceoaaGreatFldB
import Derived.Test.YtihjlhegcoceoaaGreatKeyA
namespace Go.Proofs.YtihjlhegcoceoaaGreat
open Go.RowKit
set_option maxRecDepth 100000
set_option linter.unusedVariables false

/-- What Split answers, as a call answers it. -/
def GotK (w w' : World) (e : Ending) (r : List Int × Int × Bool) : Prop := ∃ A k c, e = .returned (.tuple #[.int .u8 r.2.1, .slice A k c, .bool r.2.2]) ∧ k ≤ c ∧ k ≤ 1000 ∧ RI w' w'.heap.size A k r.1 ∧ Below w.heap.size w w'
theorem GotK.none_ (w w' : World) (h : Below w.heap.size w w') : GotK w w' (.returned (.tuple #[.int .u8 0, .slice none 0 0, .bool false])) ([], 0, false) := ⟨none, 0, 0, rfl, Nat.le_refl _, Nat.zero_le _, RI.nil_, h⟩
def splitK (b : List Int) : List Int × Int × Bool := ((splitR b).2.1, (splitR b).1, (splitR b).2.2)
theorem splitK_none {b : List Int} {n : Nat} (hb : b.length = n) (h : ¬ (1 ≤ n ∧ n ≤ 29 ∧ n % 4 = 1)) : splitK b = ([], 0, false) := by
  subst hb
  unfold splitK splitR
  rw [if_neg h]
theorem splitK_yes {b : List Int} {n m : Nat} (hb : b.length = n) (hn : n = 1 + 4 * m) (hm : m ≤ 7) : splitK b = (unpackN 4 b 1 m, b[0]?.getD 0, true) := by
  subst hb
  unfold splitK splitR
  rw [if_pos (by omega), show b.length / 4 = m by omega]

set_option maxHeartbeats 1600000 in
theorem kSplit_any (A : Option Addr) (n c B : Nat) (b : List Int) (w : World) (hr : RB w B A n b) (hB : B ≤ w.heap.size) (hc : n ≤ c) (hm : n ≤ maxLen) :
    Calls Tryz.prog 41 #[.slice A n c] w fun e w' => GotK w w' e (splitK b) := by
  unfold maxLen at hm
  have HL := Lib.hid hr.len
  by_cases h0 : n = 0
  · rw [splitK_none HL.out (by omega)]
    subst h0
    go_enter Tryz.func41, Tryz.ntmps41
    go_wp2
    go_ret3
    exact GotK.none_ _ _ (Below.refl _ _)
  by_cases h29 : 29 < n
  · rw [splitK_none HL.out (by omega)]
    have k1 : (29 : Int) < n := by omega
    have k2 : ¬ (n : Int) = 0 := by omega
    have k3 : ¬ (n : Int) < 1 := by omega
    go_enter Tryz.func41, Tryz.ntmps41
    go_wp2
    go_ret3
    exact GotK.none_ _ _ (Below.refl _ _)
  have k1 : ¬ (29 : Int) < n := by omega
  have k2 : ¬ (n : Int) = 0 := by omega
  have k3 : ¬ (n : Int) < 1 := by omega
  have k4 : (1 : Int) < n ∨ (n : Int) = 1 := by omega
  clear k4
  by_cases h4 : n % 4 = 1
  · obtain ⟨m, hnm⟩ : ∃ m, n = 1 + 4 * m := ⟨n / 4, by omega⟩
    rw [splitK_yes HL.out hnm (by omega)]
    have hnm1 : n ≤ 1 + 4 * m := by omega
    have hnm2 : 1 + 4 * m ≤ n := by omega
    clear hnm
    obtain ⟨B0, off, rfl, hbb, hcell⟩ := hr.at_ (by omega)
    have hc0 := hcell 0 (by omega)
    rw [Nat.add_zero] at hc0
    generalize b[0]?.getD 0 = b0 at hc0 ⊢
    clear hcell
    have k5 : ((n : Int) % 4 == 1) = true := by simp; omega
    have k6 : ((n : Int) % 4 != 1) = false := by simp; omega
    clear h4
    go_enter Tryz.func41, Tryz.ntmps41
    go_wp2_with fail
    go_loopw [5, 6] (fun v i wr => ∃ k : Nat, 1 + 4 * k ≤ n ∧ i = .int .i64 ((1 + 4 * k : Nat) : Int) ∧ Hid (wr.ownsRow w.heap.size 3 1 v k ((unpackN 4 b 1 k).map (Value.int .i64))) ∧ Below w.heap.size w wr) (fun _ i _ => n - (intOf i).toNat)
    case atStart => exact ⟨0, by omega, rfl, Lib.hid (World.ownsRow_nil _ _ _ _), Below.refl _ _⟩
    case round =>
      obtain ⟨k, hk, rfl, hown, hbw⟩ := hrel
      have hk29 : 1 + 4 * k ≤ 29 := by omega
      by_cases hlt : 1 + 4 * k < n
      · have HG := Lib.hid (Get_any _ n c B b ((1 + 4 * k : Nat) : Int) 4 wr (hr.below (hbw.mono hB)) hc (by unfold maxLen; omega))
        rw [getR_at4 HL.out (by omega)] at HG
        have hst := Lib.hid (unpackN_step 4 b 1 k)
        generalize numOf ((b.drop (1 + 4 * k)).take 4) = x at HG hst
        have HAT := Lib.hid (show ((1 + 4 * k : Nat) : Int) + 4 = ((1 + 4 * (k + 1) : Nat) : Int) by omega)
        obtain ⟨z, hz⟩ : ∃ z : Nat, z = 1 + 4 * k := ⟨_, rfl⟩
        rw [← hz] at HG HAT
        rw [← hz]
        have hzn : z < n := by omega
        have hz29 : z ≤ 29 := by omega
        clear hz
        go_wp2_with fail
        refine HG.out.mono ?_
        rintro e w2 ⟨rfl, rfl⟩
        go_wp2_with (refine wpList_append_int rfl _ _ rfl w.heap.size _ k _ rfl wr.heap.size x _ rfl (hown.out.alloc _) (heap_alloc_new _ _) (by omega) (by have := hbw.size; simp; omega) ?_; intro v2 w2 hown2 hb2; rw [← hst.out] at hown2; have HO := Lib.hid hown2; have hbn := (hbw.alloc hbw.size _).trans hb2; clear hown2 hb2)
        go_roundw
        case rel => exact ⟨k + 1, by omega, by rw [← HAT.out], HO, hbn⟩
        case measure => simp [intOf]; omega
      · have hzn : ¬ (1 + 4 * k : Nat) < n := hlt
        have hkm : k = m := by omega
        obtain ⟨A', c', rfl, hc'⟩ := int_own_shape hown.out
        have HR := Lib.hid (RI.of_own hown.out (unpackN_ints 4 b 1 k hr.bytes)).1
        have hck := (hbw.cell (p := ⟨B0, off, none⟩) (Nat.lt_of_lt_of_le hbb hB)).trans hc0
        obtain ⟨z, hz⟩ : ∃ z : Nat, z = 1 + 4 * k := ⟨_, rfl⟩
        rw [← hz]
        have hzn' : ¬ z < n := by omega
        clear hown hz
        go_wp2
        go_ret3
        rw [← hkm]
        exact ⟨_, _, _, rfl, hc', by omega, HR.out, hbw⟩
  · rw [splitK_none HL.out (by omega)]
    have k5 : ((n : Int) % 4 == 1) = false := by simp; omega
    have k6 : ((n : Int) % 4 != 1) = true := by simp; omega
    go_enter Tryz.func41, Tryz.ntmps41
    go_wp2_with fail
    go_loopw [5, 6] (fun v i wr => ∃ k : Nat, 1 + 4 * k ≤ n ∧ i = .int .i64 ((1 + 4 * k : Nat) : Int) ∧ Hid (wr.ownsRow w.heap.size 3 1 v k ((unpackN 4 b 1 k).map (Value.int .i64))) ∧ Below w.heap.size w wr) (fun _ i _ => n - (intOf i).toNat)
    case atStart => exact ⟨0, by omega, rfl, Lib.hid (World.ownsRow_nil _ _ _ _), Below.refl _ _⟩
    case round =>
      obtain ⟨k, hk, rfl, hown, hbw⟩ := hrel
      have hk29 : 1 + 4 * k ≤ 29 := by omega
      by_cases hfit : 1 + 4 * k + 4 ≤ n
      · have HG := Lib.hid (Get_any _ n c B b ((1 + 4 * k : Nat) : Int) 4 wr (hr.below (hbw.mono hB)) hc (by unfold maxLen; omega))
        rw [getR_at4 HL.out (by omega)] at HG
        have hst := Lib.hid (unpackN_step 4 b 1 k)
        generalize numOf ((b.drop (1 + 4 * k)).take 4) = x at HG hst
        have HAT := Lib.hid (show ((1 + 4 * k : Nat) : Int) + 4 = ((1 + 4 * (k + 1) : Nat) : Int) by omega)
        obtain ⟨z, hz⟩ : ∃ z : Nat, z = 1 + 4 * k := ⟨_, rfl⟩
        rw [← hz] at HG HAT
        rw [← hz]
        have hzn : z < n := by omega
        have hz29 : z ≤ 29 := by omega
        clear hz
        go_wp2_with fail
        refine HG.out.mono ?_
        rintro e w2 ⟨rfl, rfl⟩
        go_wp2_with (refine wpList_append_int rfl _ _ rfl w.heap.size _ k _ rfl wr.heap.size x _ rfl (hown.out.alloc _) (heap_alloc_new _ _) (by omega) (by have := hbw.size; simp; omega) ?_; intro v2 w2 hown2 hb2; rw [← hst.out] at hown2; have HO := Lib.hid hown2; have hbn := (hbw.alloc hbw.size _).trans hb2; clear hown2 hb2)
        go_roundw
        case rel => exact ⟨k + 1, by omega, by rw [← HAT.out], HO, hbn⟩
        case measure => simp [intOf]; omega
      · have HG := Lib.hid (Get_any _ n c B b ((1 + 4 * k : Nat) : Int) 4 wr (hr.below (hbw.mono hB)) hc (by unfold maxLen; omega))
        rw [getR_not4 HL.out (by omega)] at HG
        obtain ⟨z, hz⟩ : ∃ z : Nat, z = 1 + 4 * k := ⟨_, rfl⟩
        rw [← hz] at HG
        rw [← hz]
        have hzn : z < n := by omega
        clear hz
        go_wp2_with fail
        refine HG.out.mono ?_
        rintro e w2 ⟨rfl, rfl⟩
        have HB := Lib.hid hbw
        go_wp2
        go_ret3
        exact GotK.none_ _ _ HB.out
end Go.Proofs.YtihjlhegcoceoaaGreat
