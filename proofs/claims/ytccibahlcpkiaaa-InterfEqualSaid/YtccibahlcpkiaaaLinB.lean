/-
  Contract of lines.sums: a new map, from each fund of some lines to what they are together. Condition: fewer than 2^31 lines.
-/
import Derived.Test.YtccibahlcpkiaaaLinA
import Derived.Test.YtccibahlcpkiaaaIRange
namespace Go.Proofs.Ytccibahlcpkiaaa
open Go.RowKit Go.Maps
set_option maxRecDepth 100000
set_option linter.unusedVariables false

/-- What a map of sums holds. -/
def mapF (L : FL) (i : Int) : Option Value := (lookF L i).map (Value.int .i64)
theorem mapF_step {l : List Ln} {j : Nat} {x : Ln} (h : l[j]? = some x) (hx : B64 x.a) (i : Int) : mapF (fundsOf (l.take (j + 1))) i = if i = x.f then some (.int .i64 (IntKind.i64.wrap ((lookF (fundsOf (l.take j)) x.f).getD 0 + x.a))) else mapF (fundsOf (l.take j)) i := by
  obtain ⟨hj, rfl⟩ := List.getElem?_eq_some_iff.1 h
  unfold mapF
  rw [List.take_succ_eq_append_getElem hj, fundsOf_snoc, addF_look _ _ _ (fundsOf_rise _) hx]
  split <;> rfl
theorem mapF_getD (L : FL) (i : Int) : (mapF L i).getD (.int .i64 0) = .int .i64 ((lookF L i).getD 0) := by
  unfold mapF
  cases lookF L i <;> rfl
theorem zero_int (w : World) : (zeroValue 3).run Try.prog w = .ok (.int .i64 0) w := by kernel_rfl

section
variable {w w' : World} {A : Option Addr} {n k B : Nat} {l : List Ln}
set_option maxHeartbeats 1600000 in
theorem sums_any (hr : RL w B A n l) (hB : B ≤ w.heap.size) (hn : n ≤ 2147483647) :
    Calls Try.prog 18 #[.slice A n k] w fun e w' => ∃ b, e = .returned (.map (some b)) ∧ w.heap.size ≤ b ∧ IMap w' b n (mapF (fundsOf l)) ∧ Below w.heap.size w w' := by
  have HR := Lib.hid (And.intro hr (And.intro hB hn))
  have h0 : IMap (w.alloc (.map #[] 0)) w.heap.size 0 (mapF (fundsOf (l.take 0))) := (IMap.made w).congr fun i => by rw [List.take_zero]; rfl
  have HM := Lib.hid (And.intro h0 ((Below.refl w.heap.size w).alloc (Nat.le_refl _) (.map #[] 0)))
  obtain ⟨m, hm⟩ : ∃ m, m = w.heap.size := ⟨_, rfl⟩
  rw [← hm] at HM
  have HMM := Lib.hid hm
  clear hr hB h0
  have hmk := @run_makeMap Try.prog
  go_enter Try.func18, Try.ntmps18
  go_wp2_with fail
  rw [← hm]
  clear hm
  go_loopw [9] (fun i wr => ∃ j : Nat, j ≤ n ∧ i = .int .i64 j ∧ Hid (IMap wr m j (mapF (fundsOf (l.take j))) ∧ Below m w wr)) (fun i _ => n - (intOf i).toNat)
  case atStart => exact ⟨0, Nat.zero_le _, rfl, HM⟩
  case round =>
    obtain ⟨j, hj, rfl, HI⟩ := hrel
    by_cases hlt : j < n
    · have hlt' : (j : Int) < (n : Int) := by omega
      obtain ⟨x, hx⟩ : ∃ x, l[j]? = some x := ⟨_, List.getElem?_eq_getElem (by rw [HR.out.1.len]; exact hlt)⟩
      have hok := HR.out.1.ok x (List.mem_of_getElem? hx)
      obtain ⟨hi, hb⟩ := HI.out
      obtain ⟨b, off, rfl, hbB, hat⟩ := HR.out.1.2.2 (by omega)
      obtain ⟨c0, c1, c2, c3⟩ := (hat j x hx).keep hbB (fun b o hbb => hb.cell (p := ⟨b, o, none⟩) (by rw [HMM.out]; exact Nat.lt_of_lt_of_le hbb HR.out.2.1))
      obtain ⟨xf, xo, xn, xa⟩ := x
      obtain ⟨w3, hw3⟩ : ∃ w3, w3 = wr.alloc (.cells #[.int .i64 xf, .int .i64 xo, .int .i64 xn, .int .i64 xa] 27) := ⟨_, rfl⟩
      have hb3 : Below m w w3 := by rw [hw3]; exact hb.alloc (by rw [HMM.out]; exact hb.size) _
      have hi3 : IMap w3 m j (mapF (fundsOf (l.take j))) := hi.of_block (by rw [hw3]; exact heap_alloc_old _ _ hi.lt)
      have hlook := hi3.getD Try.underlying31 (zero_int w3) (i := xf) hok.1
      rw [mapF_getD] at hlook
      have q0 : w3.cell? ⟨wr.heap.size, 0, none⟩ = some (.int .i64 xf) := by rw [hw3]; exact cell_of_row _ _ 0 _ _ (0, 0) (heap_alloc_new wr _)
      have q3 : w3.cell? ⟨wr.heap.size, 3, none⟩ = some (.int .i64 xa) := by rw [hw3]; exact cell_of_row _ _ 3 _ _ (0, 0) (heap_alloc_new wr _)
      have hstep := mapF_step hx hok.2.2.2
      generalize (lookF (fundsOf (l.take j)) xf).getD 0 = s at hlook hstep
      obtain ⟨z, hz⟩ : ∃ z, IntKind.i64.wrap (s + xa) = z := ⟨_, rfl⟩
      rw [hz] at hstep
      obtain ⟨w5, hrun, hi5, hg5⟩ := hi3.store Try.underlying31 (by have := HR.out.2.2; unfold maxLen; omega) (i := xf) hok.1 (.int .i64 z)
      have HE := Lib.hid (And.intro (hi5.congr fun i => (hstep i).symm) (hb3.grown hg5 (by rw [HMM.out]; exact hb3.size) (fun k hk => by injection hk with hk; rw [← hk]; exact Nat.le_refl _)))
      clear hx hok hi hb hat hb3 hi3 hi5 hg5 hstep HI
      rw [hw3] at hlook hrun q0 q3
      clear hw3
      go_wp2_with fail
      go_roundw
      case rel => exact ⟨j + 1, by omega, by go_num, HE⟩
      case measure => simp [intOf]; omega
    · obtain rfl : j = n := by omega
      have HE := HI
      clear HI
      go_wp2
      go_ret
      obtain ⟨h1, h2⟩ := HE.out
      rw [List.take_of_length_le (by rw [HR.out.1.len]; exact Nat.le_refl _)] at h1
      exact ⟨m, rfl, by rw [HMM.out]; exact Nat.le_refl _, h1, by rw [← HMM.out]; exact h2⟩
end
end Go.Proofs.Ytccibahlcpkiaaa
