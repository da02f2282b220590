/-
  Contracts of slices.IsSorted and Compact over ints that rise, and of chart.Name: which texts may be a fund's name. Condition: a text has at most 2^47 bytes.
-/
import Derived.Test.YtccibahlcpkiaaaGreatViewE
import Derived.Test.YtccibahlcpkiaaaGreatEqInts
namespace Go.Proofs.YtccibahlcpkiaaaGreat
open Go.RowKit Go.Maps
set_option maxRecDepth 100000
set_option linter.unusedVariables false

theorem rise_at {l : List Int} (h : l.Pairwise (· < ·)) {i j : Nat} (hij : i < j) (hj : j < l.length) : l[i]?.getD 0 < l[j]?.getD 0 := by
  rw [List.getElem?_eq_getElem hj, List.getElem?_eq_getElem (show i < l.length by omega)]
  exact List.pairwise_iff_getElem.1 h i j (by omega) hj hij
/-- Which texts may be a fund's name. -/
def signB (u : Int) : Bool := decide (32 ≤ u) && decide (u ≤ 126)
def nameB (x : Txt) : Bool := decide (1 ≤ x.length) && decide (x.length ≤ 20) && (by_ x).all signB
set_option maxHeartbeats 400000 in
theorem name1_any (u : Int) (hu : 0 ≤ u ∧ u < 256) (w : World) : Calls Tryz.prog 47 #[.int .u8 u] w fun e w' => e = .returned (.bool (!signB u)) ∧ w = w' := by
  unfold signB
  by_cases h1 : u < 32
  · rw [decide_eq_false (show ¬ 32 ≤ u by omega)]
    have k1 := decide_eq_true h1
    go_enter Tryz.func47, Tryz.ntmps47
    go_wp2
    go_ret
    exact ⟨rfl, rfl⟩
  · rw [decide_eq_true (show 32 ≤ u by omega)]
    have k1 := decide_eq_false h1
    by_cases h2 : 126 < u
    · rw [decide_eq_false (show ¬ u ≤ 126 by omega)]
      have k2 : decide (u > 126) = true := decide_eq_true h2
      clear h1
      go_enter Tryz.func47, Tryz.ntmps47
      go_wp2
      go_ret
      exact ⟨rfl, rfl⟩
    · rw [decide_eq_true (show u ≤ 126 by omega)]
      have k2 : decide (u > 126) = false := decide_eq_false h2
      clear h1
      go_enter Tryz.func47, Tryz.ntmps47
      go_wp2
      go_ret
      exact ⟨rfl, rfl⟩
set_option maxHeartbeats 1600000 in
theorem idxB_any {w : World} {B n : Nat} {A : Option Addr} {l : List Int} (c : Nat) (hr : RB w B A n l) (hm : n ≤ maxLen) (hB : B ≤ w.heap.size) :
    Calls Tryz.prog 65 #[.slice A n c, .func (.func 47) #[] #[]] w fun e w' => ∃ i : Int, e = .returned (.int .i64 i) ∧ decide (0 ≤ i) = !l.all signB ∧ w = w' := by
  unfold maxLen at hm
  have HL := Lib.hid hr.len
  have HB := Lib.hid hr.bytes
  go_enter Tryz.func65, Tryz.ntmps65
  go_wp2
  go_loop [8] (fun i => ∃ k : Nat, k ≤ n ∧ i = .int .i64 k ∧ Hid (∀ j, j < k → signB (l[j]?.getD 0) = true)) (fun i => n - (intOf i).toNat)
  case atStart => exact ⟨0, Nat.zero_le _, rfl, Lib.hid (fun j hj => absurd hj (by omega))⟩
  case round =>
    obtain ⟨k, hk, rfl, hbef⟩ := hrel
    by_cases hlt : k < n
    · obtain ⟨b, off, rfl, hb, hcell⟩ := hr.2.2 (by omega)
      have hck := hcell k hlt
      have hx := HB.out.getD k
      have hmem := Lib.hid (show l[k]?.getD 0 ∈ l by rw [List.getElem?_eq_getElem (show k < l.length by rw [HL.out]; exact hlt)]; exact List.getElem_mem _)
      have hnext := Lib.hid (show signB (l[k]?.getD 0) = true → ∀ j, j < k + 1 → signB (l[j]?.getD 0) = true from fun h j hj => by
        rcases Nat.lt_or_ge j k with h' | h'
        · exact hbef.out j h'
        · obtain rfl : j = k := by omega
          exact h)
      clear hcell
      generalize l[k]?.getD 0 = u at hck hx hmem hnext
      have HN := Lib.hid (name1_any u hx)
      cases hs : signB u with
      | false =>
        rw [hs] at HN
        have hall := Lib.hid (show l.all signB = false from by
          rw [List.all_eq_false]
          exact ⟨u, hmem.out, by rw [hs]; decide⟩)
        clear hnext hmem
        go_wp2_with fail
        refine (HN.out _).mono ?_
        rintro e w1 ⟨rfl, rfl⟩
        go_wp2_with fail
        go_ret
        exact ⟨_, rfl, by rw [hall.out]; simp, rfl⟩
      | true =>
        rw [hs] at HN
        have hn := Lib.hid (hnext.out hs)
        clear hnext hmem
        go_wp2_with fail
        refine (HN.out _).mono ?_
        rintro e w1 ⟨rfl, rfl⟩
        go_wp2_with fail
        go_round
        case rel => exact ⟨k + 1, by omega, by go_num, hn⟩
        case measure => simp [intOf]; omega
    · obtain rfl : k = n := by omega
      have hall := Lib.hid (show l.all signB = true from List.all_eq_true.2 fun x hx => by
        obtain ⟨j, hj, rfl⟩ := List.mem_iff_getElem.1 hx
        have := hbef.out j (by rw [← HL.out]; exact hj)
        rwa [List.getElem?_eq_getElem hj] at this)
      go_wp2_with fail
      go_ret
      exact ⟨_, rfl, by rw [hall.out]; decide, rfl⟩
set_option maxHeartbeats 400000 in
theorem contB_any {w : World} {B n : Nat} {A : Option Addr} {l : List Int} (c : Nat) (hr : RB w B A n l) (hm : n ≤ maxLen) (hB : B ≤ w.heap.size) :
    Calls Tryz.prog 46 #[.slice A n c, .func (.func 47) #[] #[]] w fun e w' => e = .returned (.bool (!l.all signB)) ∧ w = w' := by
  have HI := Lib.hid (idxB_any c hr hm hB)
  generalize (!l.all signB) = d at HI ⊢
  clear hr
  go_enter Tryz.func46, Tryz.ntmps46
  go_wp2_with fail
  refine HI.out.mono ?_
  rintro e w1 ⟨i, rfl, hi, rfl⟩
  go_wp2_with fail
  go_ret
  exact ⟨by rw [← hi]; rfl, rfl⟩
set_option maxHeartbeats 1600000 in
theorem cName_any (x : Txt) (hx : x.length ≤ 140737488355328) (w : World) :
    Calls Tryz.prog 24 #[encStr x] w fun e w' => e = .returned (.bool (nameB x)) ∧ Below w.heap.size w w' := by
  obtain ⟨u, w1, hconv, hsv, hb1⟩ := conv_txt w x hx
  obtain ⟨A, n, k, rfl, hk, hn, hr, _⟩ := hsv
  have HC := Lib.hid (contB_any k hr (by unfold maxLen; omega) (Nat.le_refl _))
  have HB := Lib.hid hb1
  unfold nameB
  generalize (by_ x).all signB = d at HC ⊢
  clear hr hb1
  obtain ⟨st, hst⟩ : ∃ st : ByteArray, st = ⟨x.toArray⟩ := ⟨_, rfl⟩
  have hz : st.size = x.length := by rw [hst]; simp [ByteArray.size]
  have he : encStr x = .string st := by rw [hst]
  rw [he] at hconv ⊢
  generalize x.length = z at hz hx ⊢
  clear he hst
  by_cases h1 : z < 1
  · have k1 : decide ((z : Int) < 1) = true := by simp; omega
    rw [decide_eq_false (show ¬ 1 ≤ z by omega)]
    clear h1
    go_enter Tryz.func24, Tryz.ntmps24
    go_wp2
    go_ret
    exact ⟨rfl, Below.refl _ _⟩
  · have k1 : decide ((z : Int) < 1) = false := by simp; omega
    rw [decide_eq_true (show 1 ≤ z by omega)]
    by_cases h2 : 20 < z
    · have k2 : decide ((z : Int) > 20) = true := by simp; omega
      rw [decide_eq_false (show ¬ z ≤ 20 by omega)]
      clear h1 h2
      go_enter Tryz.func24, Tryz.ntmps24
      go_wp2
      go_ret
      exact ⟨rfl, Below.refl _ _⟩
    · have k2 : decide ((z : Int) > 20) = false := by simp; omega
      rw [decide_eq_true (show z ≤ 20 by omega)]
      clear h1 h2
      go_enter Tryz.func24, Tryz.ntmps24
      go_wp2_with fail
      refine HC.out.mono ?_
      rintro e w2 ⟨rfl, rfl⟩
      go_wp2_with fail
      go_ret
      exact ⟨by cases d <;> rfl, HB.out⟩
end Go.Proofs.YtccibahlcpkiaaaGreat
